/-
  ROWS OF NUMBERS, as a host has them: no walk; text, with: the walks.
  ROWS OF NUMBERS THAT GROW: with, fromRanges: the walks.
  EACH PLACE OF A HOST: each, with a function that is handed in: the walks.
-/
import Derived.Test.YtkjknbjjchdjlaaGreatDoorDaX
import Derived.Test.YtkjknbjjchdjlaaGreatDoorUcX
import Derived.Test.YtkjknbjjchdjlaaGreatDoorVeX
namespace Go.Proofs.YtkjknbjjchdjlaaGreatDoor
open Go.RowKit
theorem append_types {P : Program} {t u e : TypeId} (ht : P.underlying t = some (.slice e)) (hu : P.underlying u = some (.slice e)) {i : TypeInfo} (hi : P.info? e = some i) (ty : TypeId) (a b : Option Addr) (n c m d : Nat) (w : World) :
    (Builtin.append_ #[t, u] ty #[.slice a n c, .slice b m d]).run P w = (Builtin.append_ #[t, t] ty #[.slice a n c, .slice b m d]).run P w := by
  simp [Builtin.append_, run_underlying ht, run_underlying hu, sizeOf, typeInfo, hi]
theorem Tryz.infoIn : (Tryz.prog.info? 3).map (fun i => (i.zero, i.size, i.bytes)) = some (some (.int .i64 0), 1, 8) := by kernel_rfl
theorem Tryz.infoU8 : (Tryz.prog.info? 5).map (fun i => (i.zero, i.size, i.bytes)) = some (some (.int .u8 0), 1, 1) := by kernel_rfl
/-- append of a row of another type of numbers. -/
theorem wpList_append_two {P : Program} (w : World) {ops : Array Oper} {rest : List Oper} {o : Oper} {a : Act} {Q : Exit → Act → World → Prop} (hgd : o.guard = none) (s x : Operand) (t u : TypeId)
    (ho : o.op = .call { callee := .builtin .append, args := #[s, x], argTypes := #[t, u] })
    (base : Nat) (e : TypeId) (i : TypeInfo) (z : Value) (size bytes : Nat) (ht : P.underlying t = some (.slice e)) (hu : P.underlying u = some (.slice e)) (hi : P.info? e = some i) (hz : i.zero = some z)
    (hsize : i.size = size) (hby : i.bytes = bytes) (hzs : z.cells.size = size) (hsz : 0 < size)
    (v : Value) (n : Nat) (xs : List Value) (hs : a.eval s = v) (hown : w.ownsRow base e size v n xs)
    (ao : Option Addr) (m c : Nat) (news : List Value) (hx : a.eval x = .slice ao m c) (hl : news.length = m * size) (hsrc : (ao = none ∧ m = 0) ∨ ∃ ad, ao = some ad ∧ ∀ j u, news[j]? = some u → w.cell? (ad.add j) = some u) (h1 : ∀ u ∈ news, u.oneCell' = true)
    (h63 : n + m ≤ maxLen) (hbytes : (n + m) * bytes ≤ 140737488355328) (hbase : base ≤ w.heap.size)
    (h : ∀ v' w', w'.ownsRow base e size v' (n + m) (xs ++ news) → w.grownBy w' v.ownBlock → (v'.ownBlock = v.ownBlock ∨ v'.ownBlock = some w.heap.size) → wpList P ops Q rest (a.put o.dst v') w') : wpList P ops Q (o :: rest) a w := by
  refine wpList_plain hgd fun K hK => ?_
  obtain ⟨v', w', hr, h2, h3, h4⟩ := run_append_src (P := P) w base t o.type e i z size bytes ht hi hz hsize hby hzs hsz v n xs hown ao m c news hl hsrc h1 h63 hbytes hbase
  obtain ⟨ad, cap, rfl, _⟩ := ownsRow_form hown
  rw [← append_types ht hu hi] at hr
  unfold Oper.wp execOp
  simp only [ho, resolve, invoke, builtin, Sem.run_bind, Sem.run_pure, Result.andThen_ok, List.map_toArray, List.map_cons, List.map_nil, hs, hx, hr]
  exact hK _ _ (h v' w' h2 h3 h4)
/-- Numbers as cells. -/
def inL (l : List Int) : List Value := l.map (Value.int .i64)
theorem inL_one (l : List Int) : ∀ u ∈ inL l, u.oneCell' = true := fun u hu => by
  obtain ⟨z, _, rfl⟩ := List.mem_map.1 hu; rfl
theorem inL_len (l : List Int) : (inL l).length = l.length := by simp [inL]
theorem inL_append (a b : List Int) : inL (a ++ b) = inL a ++ inL b := by simp [inL]
theorem ints_src {w : World} {a : Option Addr} {zs : List Int} (h : Ints w a zs) : (a = none ∧ zs.length = 0) ∨ zs = [] ∨ ∃ ad, a = some ad ∧ ∀ j u, (inL zs)[j]? = some u → w.cell? (ad.add j) = some u := by
  rcases h with h | ⟨b, off, rfl, hc⟩
  · exact .inr (.inl h)
  · refine .inr (.inr ⟨_, rfl, fun j u hj => ?_⟩)
    have hl := (List.getElem?_eq_some_iff.1 hj).1
    rw [inL_len] at hl
    rw [inL, List.getElem?_map] at hj
    obtain ⟨z, hz, rfl⟩ := Option.map_eq_some_iff.1 hj
    have := hc j hl
    rw [List.getD_eq_getElem?_getD, hz] at this
    rw [addr_add]
    exact this
theorem three_bytes (w : World) (x y z : Int) (t : TypeId) : ∀ j u, (bc [b8 x, b8 y, b8 z])[j]? = some u → (w.alloc (.cells #[.int .u8 (x % 256), .int .u8 (y % 256), .int .u8 (z % 256)] t)).cell? ((⟨w.heap.size, 0, none⟩ : Addr).add j) = some u := by
  intro j u hj
  rw [addr_add, Nat.zero_add]
  refine (World.cell?_alloc_at _ _ _ _ rfl).trans ?_
  match j with
  | 0 => simp [bc] at hj; subst hj; simp [b8_val]
  | 1 => simp [bc] at hj; subst hj; simp [b8_val]
  | 2 => simp [bc] at hj; subst hj; simp [b8_val]
  | j + 3 => simp [bc] at hj
set_option maxRecDepth 100000 in
set_option maxHeartbeats 2000000 in
theorem htext_any {w : World} {a : Option Addr} {zs : List Int} {cap : Nat} (h : Ints w a zs) (hl : zs.length ≤ 100) (h0 : 0 < zs.length) :
    Calls Tryz.prog 50 #[.slice a zs.length cap] w fun e w' => (∃ s, e = .returned (.string s) ∧ s.size = 3 * zs.length) ∧ Below w.heap.size w w' := by
  obtain ⟨i0, hi0, hz0, hz1, hz2⟩ := kinfo_three Tryz.infoU8
  obtain ⟨N, hN⟩ : ∃ N, zs.length = N := ⟨_, rfl⟩
  have HN : Hid (zs.length = N) := hN
  rw [hN] at hl h0 ⊢
  go_enter Tryz.func50, Tryz.ntmps50
  go_wp2
  go_loopw [3, 5, 8, 9, 10, 11, 12, 13, 14, 15, 16, 17, 18, 19, 20, 21, 22] (fun u3 _ u8 _ _ _ _ _ _ _ _ _ _ _ _ _ _ wr => ∃ k : Nat, k ≤ N ∧ u8 = .int .i64 k ∧ Hid (∃ L : List UInt8, L.length = 3 * k ∧ wr.ownsRow w.heap.size 5 1 u3 (3 * k) (bc L)) ∧ Hid (Below w.heap.size w wr)) (fun _ _ u8 _ _ _ _ _ _ _ _ _ _ _ _ _ _ _ => N - (intOf u8).toNat)
  case atStart => exact ⟨0, Nat.zero_le _, rfl, ⟨[], rfl, World.ownsRow_nil _ _ _ _⟩, Below.refl _ _⟩
  case round =>
    obtain ⟨k, hk, rfl, HR, HB⟩ := hrel
    by_cases hlt : k < N
    · have d1 : decide ((k : Int) < (N : Int)) = true := decide_eq_true (by omega)
      have d2 : (k : Int) < (N : Int) := by omega
      obtain ⟨z, hz⟩ : ∃ z, zs.getD k 0 = z := ⟨_, rfl⟩
      obtain ⟨b, off, rfl, hc⟩ : ∃ b off, a = some ⟨b, off, none⟩ ∧ ∀ i, i < zs.length → w.cell? ⟨b, off + i, none⟩ = some (.int .i64 (zs.getD i 0)) := by
        rcases h with h | h
        · rw [h] at hN; simp at hN; omega
        · exact h
      have hck := hc k (by omega)
      rw [hz] at hck
      have hck := (HB.out.cell (p := ⟨b, off + k, none⟩) (World.block_lt_of_cell? _ _ hck)).trans hck
      obtain ⟨L, hL, hrow⟩ := HR.out
      clear h hc hz hN
      have hs := HB.out.size
      have e3 : 3 * (k + 1) = 3 * k + 3 := by omega
      go_upto_region 5 with fail
      go_wp2_with (at_builtin; refine wpList_append_src (wr.alloc (.cells #[.int .u8 (z / 65536 % 256), .int .u8 (z / 256 % 256), .int .u8 (z % 256)] 5)) rfl (.tmp 12) (.tmp 21) 48 rfl w.heap.size 5 i0 (.int .u8 0) 1 1 Tryz.underlying48 hi0 hz0 hz1 hz2 rfl (by decide) _ (3 * k) (bc L) rfl (World.ownsRow.alloc hrow _) (some ⟨wr.heap.size, 0, none⟩) 3 3 (bc [b8 (z / 65536), b8 (z / 256), b8 z]) rfl rfl (.inr ⟨_, rfl, three_bytes _ _ _ _ _⟩) (bc_one _) (by unfold maxLen; omega) (by omega) (by rw [World.size_alloc]; omega) ?_)
      intro v7 w7 hown7 hgr7 ho7
      have HR7 : Hid (∃ L : List UInt8, L.length = 3 * (k + 1) ∧ w7.ownsRow w.heap.size 5 1 v7 (3 * (k + 1)) (bc L)) := ⟨L ++ [b8 (z / 65536), b8 (z / 256), b8 z], by simp; omega, by rw [e3, bc_append]; exact hown7⟩
      have HB7 : Hid (Below w.heap.size w w7) := (HB.out.alloc hs _).grown hgr7 (by rw [World.size_alloc]; omega) (fun g e => ((World.ownsRow.lt hrow) g e).1)
      clear hown7 hgr7 ho7 hrow
      go_wp2
      go_roundw
      case rel => exact ⟨k + 1, by omega, by go_num, HR7.out, HB7.out⟩
      case measure => (simp [intOf]; try omega)
    · obtain rfl : k = N := by omega
      have d1 : decide ((k : Int) < (k : Int)) = false := decide_eq_false (by omega)
      obtain ⟨L, hL, hrow⟩ := HR.out
      have hcv := conv_row hrow hL.symm (by omega)
      go_wp2
      go_ret
      exact ⟨⟨_, rfl, by rw [ofB_size, hL]⟩, HB.out⟩
end Go.Proofs.YtkjknbjjchdjlaaGreatDoor
namespace Go.Proofs.YtkjknbjjchdjlaaGreatDoor
open Go.RowKit
/-- A row of numbers of the call's own. -/
def NR (base : Nat) (w : World) (v : Value) (L : List Int) : Prop := w.ownsRow base 3 1 v L.length (inL L)
theorem Gr.newb (w : World) (o : Obj) (v : Value) : Gr w (w.alloc o) v v := ⟨⟨rfl, rfl, rfl, by rw [World.size_alloc]; omega, fun k hk _ => heap_alloc_old w o hk⟩, .inl rfl⟩
theorem Ints.block {w : World} {b off : Nat} {zs : List Int} (h : Ints w (some ⟨b, off, none⟩) zs) (h0 : zs ≠ []) : b < w.heap.size := by
  rcases h with h | ⟨b', off', e, hc⟩
  · exact absurd h h0
  · cases e
    exact World.block_lt_of_cell? _ _ (hc 0 (List.length_pos_iff.2 h0))
theorem Ints.grown {w w' : World} {a : Option Addr} {zs : List Int} {row : Option Nat} (h : Ints w a zs) (hg : w.grownBy w' row) (hs : ∀ p, a = some p → zs ≠ [] → row ≠ some p.block) : Ints w' a zs := by
  by_cases h0 : zs = []
  · exact .inl h0
  rcases h with h | ⟨b, off, rfl, hc⟩
  · exact .inl h
  · refine .inr ⟨b, off, rfl, fun i hi => ?_⟩
    have hl : b < w.heap.size := World.block_lt_of_cell? w ⟨b, _, none⟩ (hc i hi)
    have hne := hs _ rfl h0
    exact (World.cell?_of_block (w := w) (hg.block b hl (fun e => hne e.symm))).trans (hc i hi)
set_option maxRecDepth 100000 in
set_option maxHeartbeats 2000000 in
theorem hwith_any {w : World} {base : Nat} {v : Value} {L zs : List Int} {a : Option Addr} {cap : Nat} (hv : NR base w v L) (h : Ints w a zs) (hs : ∀ p, a = some p → zs ≠ [] → v.ownBlock ≠ some p.block) (hl : L.length ≤ 1000) (hz : zs.length ≤ 1000) (hb : base ≤ w.heap.size) (hnil : a = none → zs = []) :
    Calls Tryz.prog 49 #[v, .slice a zs.length cap] w fun e w' => ∃ v', e = .returned v' ∧ NR base w' v' (L ++ (zs.length : Int) :: zs) ∧ Gr w w' v v' := by
  obtain ⟨i0, hi0, hz0, hz1, hz2⟩ := kinfo_three Tryz.infoIn
  obtain ⟨N, hN⟩ : ∃ N, zs.length = N := ⟨_, rfl⟩
  have HN : Hid (zs.length = N) := hN
  have HH : Hid (Ints w a zs) := h
  have HS : Hid (∀ p, a = some p → zs ≠ [] → v.ownBlock ≠ some p.block) := hs
  have HL : Hid (a = none → zs = []) := hnil
  rw [hN] at hz ⊢
  clear h hs hN hnil
  go_enter Tryz.func49, Tryz.ntmps49
  go_wp2_with (at_builtin; refine wpList_append_src (w.alloc (.cells #[.int .i64 N] 3)) rfl (.tmp 5) (.tmp 8) 80 rfl base 3 i0 (.int .i64 0) 1 8 Tryz.underlying80 hi0 hz0 hz1 hz2 rfl (by decide) v L.length (inL L) rfl (World.ownsRow.alloc hv _) (some ⟨w.heap.size, 0, none⟩) 1 1 (inL [(N : Int)]) rfl rfl (.inr ⟨_, rfl, cell_one_new _ _ _⟩) (inL_one _) (by unfold maxLen; omega) (by omega) (by rw [World.size_alloc]; omega) ?_)
  intro v7 w7 hown7 hgr7 ho7
  have H7 : Hid (Ints w7 a zs) := (HH.out.below ((Below.refl _ _).alloc (Nat.le_refl _) (.cells #[.int .i64 N] 3))).grown hgr7 HS.out
  have hsrc : (a = none ∧ N = 0) ∨ ∃ ad, a = some ad ∧ ∀ j u, (inL zs)[j]? = some u → w7.cell? (ad.add j) = some u := by
    have e := HN.out
    cases a with
    | none => exact .inl ⟨rfl, by rw [← e, HL.out rfl]; rfl⟩
    | some ad =>
      refine .inr ⟨ad, rfl, ?_⟩
      by_cases h0 : zs = []
      · subst h0; intro j u hj; simp [inL] at hj
      rcases ints_src H7.out with ⟨q, _⟩ | q | ⟨_, q, hc⟩
      · cases q
      · exact absurd q h0
      · cases q; exact hc
  have hlen : (inL zs).length = N * 1 := by rw [inL_len, HN.out, Nat.mul_one]
  go_wp2_with (at_builtin; refine wpList_append_two w7 rfl (.tmp 9) (.tmp 10) 80 41 rfl base 3 i0 (.int .i64 0) 1 8 Tryz.underlying80 Tryz.underlying41 hi0 hz0 hz1 hz2 rfl (by decide) v7 (L.length + 1) (inL L ++ inL [(N : Int)]) rfl hown7 a N cap (inL zs) rfl hlen hsrc (inL_one _) (by unfold maxLen; omega) (by omega) (by have := hgr7.size; rw [World.size_alloc] at this; omega) ?_)
  intro v8 w8 hown8 hgr8 ho8
  go_wp2
  go_ret
  refine ⟨v8, rfl, ?_, ?_⟩
  · unfold NR
    have e1 : (L ++ (N : Int) :: zs).length = L.length + 1 + N := by simp [HN.out]; omega
    have e2 : inL (L ++ (N : Int) :: zs) = inL L ++ (inL [(N : Int)] ++ inL zs) := by simp [inL]
    rw [e1, e2]; exact hown8
  · exact ((Gr.newb w _ v).trans ⟨hgr7, ho7.imp id (fun e => ⟨_, e, by rw [World.size_alloc]; omega⟩)⟩).trans ⟨hgr8, ho8.imp id (fun e => ⟨_, e, Nat.le_refl _⟩)⟩
theorem three_ints (w : World) (x y z : Int) (t : TypeId) : ∀ j u, (inL [x, y, z])[j]? = some u → (w.alloc (.cells #[.int .i64 x, .int .i64 y, .int .i64 z] t)).cell? ((⟨w.heap.size, 0, none⟩ : Addr).add j) = some u := by
  intro j u hj
  rw [addr_add, Nat.zero_add]
  refine (World.cell?_alloc_at _ _ _ _ rfl).trans ?_
  match j with
  | 0 => simpa [inL] using hj
  | 1 => simpa [inL] using hj
  | 2 => simpa [inL] using hj
  | j + 3 => simp [inL] at hj
set_option maxRecDepth 100000 in
set_option maxHeartbeats 2000000 in
theorem fromR_one {w : World} {b cap : Nat} {x y z : Int} (h0 : w.cell? ⟨b, 0, none⟩ = some (.int .i64 x)) (h1 : w.cell? ⟨b, 1, none⟩ = some (.int .i64 y)) (h2 : w.cell? ⟨b, 2, none⟩ = some (.int .i64 z)) :
    Calls Tryz.prog 53 #[.slice (some ⟨b, 0, none⟩) 1 cap] w fun e w' => (∃ v, e = .returned v ∧ NR w.heap.size w' v [x, y, z]) ∧ Below w.heap.size w w' := by
  obtain ⟨i0, hi0, hz0, hz1, hz2⟩ := kinfo_three Tryz.infoIn
  have hb1 : b < w.heap.size := World.block_lt_of_cell? w ⟨b, 0, none⟩ h0
  go_enter Tryz.func53, Tryz.ntmps53
  go_wp2
  go_loopw [3, 5, 8, 9, 10, 11, 12, 13, 14, 15, 16, 17, 18, 19, 20, 21] (fun u3 _ u8 _ _ _ _ _ _ _ _ _ _ _ _ _ wr => (u8 = .int .i64 0 ∧ u3 = .slice none 0 0 ∧ wr = w) ∨ (u8 = .int .i64 1 ∧ Hid (NR w.heap.size wr u3 [x, y, z]) ∧ Hid (Below w.heap.size w wr))) (fun _ _ u8 _ _ _ _ _ _ _ _ _ _ _ _ _ _ => 1 - (intOf u8).toNat)
  case atStart => exact .inl ⟨rfl, rfl, rfl⟩
  case round =>
    rcases hrel with ⟨rfl, rfl, rfl⟩ | ⟨rfl, HR, HB⟩
    · have c0 : (wr.alloc (.cells #[.int .i64 x, .int .i64 y, .int .i64 z] 83)).cell? ⟨wr.heap.size, 0, none⟩ = some (.int .i64 x) := World.cell?_alloc_at _ _ _ _ rfl
      have c1 : (wr.alloc (.cells #[.int .i64 x, .int .i64 y, .int .i64 z] 83)).cell? ⟨wr.heap.size, 1, none⟩ = some (.int .i64 y) := World.cell?_alloc_at _ _ _ _ rfl
      have c2 : (wr.alloc (.cells #[.int .i64 x, .int .i64 y, .int .i64 z] 83)).cell? ⟨wr.heap.size, 2, none⟩ = some (.int .i64 z) := World.cell?_alloc_at _ _ _ _ rfl
      have HB0 : Hid (Below wr.heap.size wr (wr.alloc (.cells #[.int .i64 x, .int .i64 y, .int .i64 z] 83))) := (Below.refl _ _).alloc (Nat.le_refl _) _
      go_upto_region 5 with fail
      generalize wr.alloc (.cells #[.int .i64 x, .int .i64 y, .int .i64 z] 83) = w3 at c0 c1 c2 HB0 ⊢
      have hs3 := HB0.out.size
      go_wp2_with (at_builtin; refine wpList_append_src (w3.alloc (.cells #[.int .i64 x, .int .i64 y, .int .i64 z] 3)) rfl (.tmp 12) (.tmp 19) 41 rfl wr.heap.size 3 i0 (.int .i64 0) 1 8 Tryz.underlying41 hi0 hz0 hz1 hz2 rfl (by decide) _ 0 [] rfl (World.ownsRow_nil _ _ _ _) (some ⟨w3.heap.size, 0, none⟩) 3 3 (inL [x, y, z]) rfl rfl (.inr ⟨_, rfl, three_ints _ _ _ _ _⟩) (inL_one _) (by unfold maxLen; omega) (by omega) (by rw [World.size_alloc]; omega) ?_)
      intro v7 w7 hown7 hgr7 ho7
      have HR7 : Hid (NR wr.heap.size w7 v7 [x, y, z]) := by
        have q : w7.ownsRow wr.heap.size 3 1 v7 3 (inL [x, y, z]) := by simpa using hown7
        exact q
      have HB7 : Hid (Below wr.heap.size wr w7) := (HB0.out.alloc hs3 _).grown hgr7 (by rw [World.size_alloc]; omega) (fun g e => by cases e)
      clear hown7 hgr7 ho7
      go_wp2
      go_roundw
      case rel => exact .inr ⟨by go_num, HR7.out, HB7.out⟩
      case measure => (simp [intOf])
    · go_wp2
      go_ret
      exact ⟨⟨_, rfl, HR.out⟩, HB.out⟩
end Go.Proofs.YtkjknbjjchdjlaaGreatDoor
namespace Go.Proofs.YtkjknbjjchdjlaaGreatDoor
open Go.RowKit
abbrev zpV : Value := .agg #[.slice none 0 0, .int .i64 0, .int .i64 0]
theorem idxLa (w : World) : (Instr.index 56 (.agg #[.pointer none, .pointer none, .pointer none, .pointer none, .pointer none]) (.int .i64 0)).run Tryz.prog w = .ok (.pointer none) w ∧ (Instr.index 56 (.agg #[.pointer none, .pointer none, .pointer none, .pointer none, .pointer none]) (.int .i64 1)).run Tryz.prog w = .ok (.pointer none) w ∧ (Instr.index 56 (.agg #[.pointer none, .pointer none, .pointer none, .pointer none, .pointer none]) (.int .i64 2)).run Tryz.prog w = .ok (.pointer none) w ∧ (Instr.index 56 (.agg #[.pointer none, .pointer none, .pointer none, .pointer none, .pointer none]) (.int .i64 3)).run Tryz.prog w = .ok (.pointer none) w ∧ (Instr.index 56 (.agg #[.pointer none, .pointer none, .pointer none, .pointer none, .pointer none]) (.int .i64 4)).run Tryz.prog w = .ok (.pointer none) w := ⟨by kernel_rfl, by kernel_rfl, by kernel_rfl, by kernel_rfl, by kernel_rfl⟩
theorem idxGa (w : World) (g : Value) : (Instr.index 58 (.agg #[g, .pointer none, .pointer none, .pointer none, .pointer none]) (.int .i64 1)).run Tryz.prog w = .ok (.pointer none) w ∧ (Instr.index 58 (.agg #[g, .pointer none, .pointer none, .pointer none, .pointer none]) (.int .i64 2)).run Tryz.prog w = .ok (.pointer none) w ∧ (Instr.index 58 (.agg #[g, .pointer none, .pointer none, .pointer none, .pointer none]) (.int .i64 3)).run Tryz.prog w = .ok (.pointer none) w ∧ (Instr.index 58 (.agg #[g, .pointer none, .pointer none, .pointer none, .pointer none]) (.int .i64 4)).run Tryz.prog w = .ok (.pointer none) w := ⟨by kernel_rfl, by kernel_rfl, by kernel_rfl, by kernel_rfl⟩
theorem idxL (w : World) (k : Nat) (hk : k < 5) : (Instr.index 56 (.agg #[.pointer none, .pointer none, .pointer none, .pointer none, .pointer none]) (.int .i64 k)).run Tryz.prog w = .ok (.pointer none) w := by
  have : k = 0 ∨ k = 1 ∨ k = 2 ∨ k = 3 ∨ k = 4 := by omega
  obtain ⟨h0, h1, h2, h3, h4⟩ := idxLa w
  rcases this with rfl | rfl | rfl | rfl | rfl
  · exact h0
  · exact h1
  · exact h2
  · exact h3
  · exact h4
theorem idxG (w : World) (g : Value) (k : Nat) (hk : k < 5) (h0 : 0 < k) : (Instr.index 58 (.agg #[g, .pointer none, .pointer none, .pointer none, .pointer none]) (.int .i64 k)).run Tryz.prog w = .ok (.pointer none) w := by
  have : k = 1 ∨ k = 2 ∨ k = 3 ∨ k = 4 := by omega
  obtain ⟨h1, h2, h3, h4⟩ := idxGa w g
  rcases this with rfl | rfl | rfl | rfl
  · exact h1
  · exact h2
  · exact h3
  · exact h4
theorem idxG0 (w : World) (g : Value) : (Instr.index 58 (.agg #[g, .pointer none, .pointer none, .pointer none, .pointer none]) (.int .i64 0)).run Tryz.prog w = .ok g w := by kernel_rfl
set_option maxRecDepth 100000 in
set_option maxHeartbeats 4000000 in
theorem each_head0 {w : World} {hb db side lb : Nat} (hbox : w.heap[hb]? = some (.cells (hoC db side (.pointer none)) 60 (0, 0))) (J : Nat → World → Prop) (h0 : J 0 w)
    (hJ : ∀ k W, k < 10 → J k W → Calls Tryz.prog 86 #[zpV, .pointer (some ⟨lb, 0, none⟩)] W fun e W' => e = .returned (.tuple #[]) ∧ J (k + 1) W')
    (hA : ∀ k W o, J k W → J k (W.alloc o)) (hH : ∀ k W, J k W → W.heap[hb]? = w.heap[hb]?) :
    Calls Tryz.prog 54 #[.pointer (some ⟨hb, 0, none⟩), .func (.func 86) #[] #[.pointer (some ⟨lb, 0, none⟩)]] w fun e w' => e = .returned (.tuple #[]) ∧ J 10 w' := by
  have HJ : Hid (∀ k W, k < 10 → J k W → Calls Tryz.prog 86 #[zpV, .pointer (some ⟨lb, 0, none⟩)] W fun e W' => e = .returned (.tuple #[]) ∧ J (k + 1) W') := hJ
  have HA : Hid (∀ k W o, J k W → J k (W.alloc o)) := hA
  have HH : Hid (∀ k W, J k W → W.heap[hb]? = w.heap[hb]?) := hH
  have HX : Hid (w.heap[hb]? = some (.cells (hoC db side (.pointer none)) 60 (0, 0))) := hbox
  have HL := idxL
  have HG := idxG
  have HG0 := idxG0
  have c3 : w.cell? ⟨hb, 3, none⟩ = some (.pointer none) := cell_of_heap hbox rfl
  have c4 : w.cell? ⟨hb, 4, none⟩ = some (.pointer none) := cell_of_heap hbox rfl
  have c5 : w.cell? ⟨hb, 5, none⟩ = some (.pointer none) := cell_of_heap hbox rfl
  have c6 : w.cell? ⟨hb, 6, none⟩ = some (.pointer none) := cell_of_heap hbox rfl
  have c7 : w.cell? ⟨hb, 7, none⟩ = some (.pointer none) := cell_of_heap hbox rfl
  clear hJ hA hH hbox
  go_enter Tryz.func54, Tryz.ntmps54
  go_wp2
  go_loopw [5, 12, 13, 14, 15, 16, 17, 18, 19, 20, 21, 22, 23, 24, 25] (fun _ u12 _ _ _ _ _ _ _ _ _ _ _ _ _ wr => ∃ k : Nat, k ≤ 5 ∧ u12 = .int .i64 k ∧ Hid (J k wr)) (fun _ u12 _ _ _ _ _ _ _ _ _ _ _ _ _ _ => 5 - (intOf u12).toNat)
  case atStart => exact ⟨0, by omega, rfl, h0⟩
  case round =>
    obtain ⟨k, hk, rfl, HK⟩ := hrel
    by_cases hlt : k < 5
    · have d1 : decide ((k : Int) < 5) = true := decide_eq_true (by omega)
      have hx := HL wr k hlt
      go_wp2_with fail
      refine Calls.mono (HJ.out k _ (by omega) (HA.out k wr _ HK.out)) ?_
      rintro e w2 ⟨rfl, hj⟩
      have HK2 : Hid (J (k + 1) w2) := hj
      clear hj
      go_wp2
      go_roundw
      case rel => exact ⟨k + 1, by omega, by go_num, HK2.out⟩
      case measure => (simp [intOf]; try omega)
    · have HK5 : Hid (k = 5) := by show _ = _; omega
      have d1 : decide ((k : Int) < 5) = false := decide_eq_false (by omega)
      have HK : Hid (J 5 wr) := by have q := HK.out; rw [HK5.out] at q; exact q
      clear hk hlt
      clear c3 c4 c5 c6 c7 HL
      have hbx := (HH.out 5 wr HK.out).trans HX.out
      have c8 : wr.cell? ⟨hb, 8, none⟩ = some (.pointer none) := cell_of_heap hbx rfl
      have c9 : wr.cell? ⟨hb, 9, none⟩ = some (.pointer none) := cell_of_heap hbx rfl
      have c10 : wr.cell? ⟨hb, 10, none⟩ = some (.pointer none) := cell_of_heap hbx rfl
      have c11 : wr.cell? ⟨hb, 11, none⟩ = some (.pointer none) := cell_of_heap hbx rfl
      have c12 : wr.cell? ⟨hb, 12, none⟩ = some (.pointer none) := cell_of_heap hbx rfl
      clear hbx
      go_wp2
      go_loopw [7, 30, 31, 32, 33, 34, 35, 36, 37, 38, 39, 40, 41, 42, 43] (fun _ u30 _ _ _ _ _ _ _ _ _ _ _ _ _ wr => ∃ k : Nat, k ≤ 5 ∧ u30 = .int .i64 k ∧ Hid (J (5 + k) wr)) (fun _ u30 _ _ _ _ _ _ _ _ _ _ _ _ _ _ => 5 - (intOf u30).toNat)
      case atStart => exact ⟨0, by omega, rfl, HK.out⟩
      case round =>
        obtain ⟨j, hk2, rfl, HQ⟩ := hrel
        by_cases hl2 : j < 5
        · have d2 : decide ((j : Int) < 5) = true := decide_eq_true (by omega)
          by_cases hk0 : j = 0
          · subst hk0
            have hx := HG0 wr (.pointer none)
            go_wp2_with fail
            refine Calls.mono (HJ.out 5 _ (by omega) (HA.out 5 wr _ HQ.out)) ?_
            rintro e w2 ⟨rfl, hj⟩
            have HK2 : Hid (J (5 + (0 + 1)) w2) := hj
            clear hj
            go_wp2
            go_roundw
            case rel => exact ⟨0 + 1, by omega, by go_num, HK2.out⟩
            case measure => (simp [intOf]; try omega)
          · have hx := HG wr (.pointer none) j hl2 (by omega)
            go_wp2_with fail
            refine Calls.mono (HJ.out (5 + j) _ (by omega) (HA.out (5 + j) wr _ HQ.out)) ?_
            rintro e w2 ⟨rfl, hj⟩
            have HK2 : Hid (J (5 + (j + 1)) w2) := hj
            clear hj
            go_wp2
            go_roundw
            case rel => exact ⟨j + 1, by omega, by go_num, HK2.out⟩
            case measure => (simp [intOf]; try omega)
        · have d2 : decide ((j : Int) < 5) = false := decide_eq_false (by omega)
          have HQ : Hid (J 10 wr) := by have q := HQ.out; rw [show 5 + j = 10 by omega] at q; exact q
          go_wp2
          go_end0
          exact ⟨rfl, HQ.out⟩
set_option maxRecDepth 100000 in
set_option maxHeartbeats 4000000 in
theorem each_used0 {w : World} {hb db side lb : Nat} (hbox : w.heap[hb]? = some (.cells (hoC db side (.pointer none)) 60 (0, 0))) (J : Nat → World → Prop) (h0 : J 0 w)
    (hJ : ∀ k W, k < 10 → J k W → Calls Tryz.prog 55 #[zpV, .pointer (some ⟨lb, 0, none⟩)] W fun e W' => e = .returned (.tuple #[]) ∧ J (k + 1) W')
    (hA : ∀ k W o, J k W → J k (W.alloc o)) (hH : ∀ k W, J k W → W.heap[hb]? = w.heap[hb]?) :
    Calls Tryz.prog 54 #[.pointer (some ⟨hb, 0, none⟩), .func (.func 55) #[] #[.pointer (some ⟨lb, 0, none⟩)]] w fun e w' => e = .returned (.tuple #[]) ∧ J 10 w' := by
  have HJ : Hid (∀ k W, k < 10 → J k W → Calls Tryz.prog 55 #[zpV, .pointer (some ⟨lb, 0, none⟩)] W fun e W' => e = .returned (.tuple #[]) ∧ J (k + 1) W') := hJ
  have HA : Hid (∀ k W o, J k W → J k (W.alloc o)) := hA
  have HH : Hid (∀ k W, J k W → W.heap[hb]? = w.heap[hb]?) := hH
  have HX : Hid (w.heap[hb]? = some (.cells (hoC db side (.pointer none)) 60 (0, 0))) := hbox
  have HL := idxL
  have HG := idxG
  have HG0 := idxG0
  have c3 : w.cell? ⟨hb, 3, none⟩ = some (.pointer none) := cell_of_heap hbox rfl
  have c4 : w.cell? ⟨hb, 4, none⟩ = some (.pointer none) := cell_of_heap hbox rfl
  have c5 : w.cell? ⟨hb, 5, none⟩ = some (.pointer none) := cell_of_heap hbox rfl
  have c6 : w.cell? ⟨hb, 6, none⟩ = some (.pointer none) := cell_of_heap hbox rfl
  have c7 : w.cell? ⟨hb, 7, none⟩ = some (.pointer none) := cell_of_heap hbox rfl
  clear hJ hA hH hbox
  go_enter Tryz.func54, Tryz.ntmps54
  go_wp2
  go_loopw [5, 12, 13, 14, 15, 16, 17, 18, 19, 20, 21, 22, 23, 24, 25] (fun _ u12 _ _ _ _ _ _ _ _ _ _ _ _ _ wr => ∃ k : Nat, k ≤ 5 ∧ u12 = .int .i64 k ∧ Hid (J k wr)) (fun _ u12 _ _ _ _ _ _ _ _ _ _ _ _ _ _ => 5 - (intOf u12).toNat)
  case atStart => exact ⟨0, by omega, rfl, h0⟩
  case round =>
    obtain ⟨k, hk, rfl, HK⟩ := hrel
    by_cases hlt : k < 5
    · have d1 : decide ((k : Int) < 5) = true := decide_eq_true (by omega)
      have hx := HL wr k hlt
      go_wp2_with fail
      refine Calls.mono (HJ.out k _ (by omega) (HA.out k wr _ HK.out)) ?_
      rintro e w2 ⟨rfl, hj⟩
      have HK2 : Hid (J (k + 1) w2) := hj
      clear hj
      go_wp2
      go_roundw
      case rel => exact ⟨k + 1, by omega, by go_num, HK2.out⟩
      case measure => (simp [intOf]; try omega)
    · have HK5 : Hid (k = 5) := by show _ = _; omega
      have d1 : decide ((k : Int) < 5) = false := decide_eq_false (by omega)
      have HK : Hid (J 5 wr) := by have q := HK.out; rw [HK5.out] at q; exact q
      clear hk hlt
      clear c3 c4 c5 c6 c7 HL
      have hbx := (HH.out 5 wr HK.out).trans HX.out
      have c8 : wr.cell? ⟨hb, 8, none⟩ = some (.pointer none) := cell_of_heap hbx rfl
      have c9 : wr.cell? ⟨hb, 9, none⟩ = some (.pointer none) := cell_of_heap hbx rfl
      have c10 : wr.cell? ⟨hb, 10, none⟩ = some (.pointer none) := cell_of_heap hbx rfl
      have c11 : wr.cell? ⟨hb, 11, none⟩ = some (.pointer none) := cell_of_heap hbx rfl
      have c12 : wr.cell? ⟨hb, 12, none⟩ = some (.pointer none) := cell_of_heap hbx rfl
      clear hbx
      go_wp2
      go_loopw [7, 30, 31, 32, 33, 34, 35, 36, 37, 38, 39, 40, 41, 42, 43] (fun _ u30 _ _ _ _ _ _ _ _ _ _ _ _ _ wr => ∃ k : Nat, k ≤ 5 ∧ u30 = .int .i64 k ∧ Hid (J (5 + k) wr)) (fun _ u30 _ _ _ _ _ _ _ _ _ _ _ _ _ _ => 5 - (intOf u30).toNat)
      case atStart => exact ⟨0, by omega, rfl, HK.out⟩
      case round =>
        obtain ⟨j, hk2, rfl, HQ⟩ := hrel
        by_cases hl2 : j < 5
        · have d2 : decide ((j : Int) < 5) = true := decide_eq_true (by omega)
          by_cases hk0 : j = 0
          · subst hk0
            have hx := HG0 wr (.pointer none)
            go_wp2_with fail
            refine Calls.mono (HJ.out 5 _ (by omega) (HA.out 5 wr _ HQ.out)) ?_
            rintro e w2 ⟨rfl, hj⟩
            have HK2 : Hid (J (5 + (0 + 1)) w2) := hj
            clear hj
            go_wp2
            go_roundw
            case rel => exact ⟨0 + 1, by omega, by go_num, HK2.out⟩
            case measure => (simp [intOf]; try omega)
          · have hx := HG wr (.pointer none) j hl2 (by omega)
            go_wp2_with fail
            refine Calls.mono (HJ.out (5 + j) _ (by omega) (HA.out (5 + j) wr _ HQ.out)) ?_
            rintro e w2 ⟨rfl, hj⟩
            have HK2 : Hid (J (5 + (j + 1)) w2) := hj
            clear hj
            go_wp2
            go_roundw
            case rel => exact ⟨j + 1, by omega, by go_num, HK2.out⟩
            case measure => (simp [intOf]; try omega)
        · have d2 : decide ((j : Int) < 5) = false := decide_eq_false (by omega)
          have HQ : Hid (J 10 wr) := by have q := HQ.out; rw [show 5 + j = 10 by omega] at q; exact q
          go_wp2
          go_end0
          exact ⟨rfl, HQ.out⟩
set_option maxRecDepth 100000 in
set_option maxHeartbeats 4000000 in
theorem each_head1 {w : World} {hb db side lb : Nat} {gb : Nat} {v : Value} {fr sz : Int} (g0 : w.cell? ⟨gb, 0, none⟩ = some v) (g1 : w.cell? ⟨gb, 1, none⟩ = some (.int .i64 fr)) (g2 : w.cell? ⟨gb, 2, none⟩ = some (.int .i64 sz)) (hbox : w.heap[hb]? = some (.cells (hoC db side (.pointer (some ⟨gb, 0, none⟩))) 60 (0, 0))) (J : Nat → World → Prop) (h0 : J 0 w)
    (hJ : ∀ k W, k < 10 → J k W → Calls Tryz.prog 86 #[(if k = 5 then .agg #[v, .int .i64 fr, .int .i64 sz] else zpV), .pointer (some ⟨lb, 0, none⟩)] W fun e W' => e = .returned (.tuple #[]) ∧ J (k + 1) W')
    (hA : ∀ k W o, J k W → J k (W.alloc o)) (hH : ∀ k W, J k W → W.heap[hb]? = w.heap[hb]? ∧ W.heap[gb]? = w.heap[gb]?) :
    Calls Tryz.prog 54 #[.pointer (some ⟨hb, 0, none⟩), .func (.func 86) #[] #[.pointer (some ⟨lb, 0, none⟩)]] w fun e w' => e = .returned (.tuple #[]) ∧ J 10 w' := by
  have HJ : Hid (∀ k W, k < 10 → J k W → Calls Tryz.prog 86 #[(if k = 5 then .agg #[v, .int .i64 fr, .int .i64 sz] else zpV), .pointer (some ⟨lb, 0, none⟩)] W fun e W' => e = .returned (.tuple #[]) ∧ J (k + 1) W') := hJ
  have HA : Hid (∀ k W o, J k W → J k (W.alloc o)) := hA
  have HH : Hid (∀ k W, J k W → W.heap[hb]? = w.heap[hb]? ∧ W.heap[gb]? = w.heap[gb]?) := hH
  have HX : Hid (w.heap[hb]? = some (.cells (hoC db side (.pointer (some ⟨gb, 0, none⟩))) 60 (0, 0))) := hbox
  have HL := idxL
  have HG := idxG
  have HG0 := idxG0
  have c3 : w.cell? ⟨hb, 3, none⟩ = some (.pointer none) := cell_of_heap hbox rfl
  have c4 : w.cell? ⟨hb, 4, none⟩ = some (.pointer none) := cell_of_heap hbox rfl
  have c5 : w.cell? ⟨hb, 5, none⟩ = some (.pointer none) := cell_of_heap hbox rfl
  have c6 : w.cell? ⟨hb, 6, none⟩ = some (.pointer none) := cell_of_heap hbox rfl
  have c7 : w.cell? ⟨hb, 7, none⟩ = some (.pointer none) := cell_of_heap hbox rfl
  have GG : Hid (w.cell? ⟨gb, 0, none⟩ = some v ∧ w.cell? ⟨gb, 1, none⟩ = some (.int .i64 fr) ∧ w.cell? ⟨gb, 2, none⟩ = some (.int .i64 sz)) := ⟨g0, g1, g2⟩
  clear g0 g1 g2
  clear hJ hA hH hbox
  go_enter Tryz.func54, Tryz.ntmps54
  go_wp2
  go_loopw [5, 12, 13, 14, 15, 16, 17, 18, 19, 20, 21, 22, 23, 24, 25] (fun _ u12 _ _ _ _ _ _ _ _ _ _ _ _ _ wr => ∃ k : Nat, k ≤ 5 ∧ u12 = .int .i64 k ∧ Hid (J k wr)) (fun _ u12 _ _ _ _ _ _ _ _ _ _ _ _ _ _ => 5 - (intOf u12).toNat)
  case atStart => exact ⟨0, by omega, rfl, h0⟩
  case round =>
    obtain ⟨k, hk, rfl, HK⟩ := hrel
    by_cases hlt : k < 5
    · have d1 : decide ((k : Int) < 5) = true := decide_eq_true (by omega)
      have hx := HL wr k hlt
      go_wp2_with fail
      refine Calls.mono ((show Calls Tryz.prog 86 #[zpV, .pointer (some ⟨lb, 0, none⟩)] _ _ from by have q := HJ.out k _ (by omega) (HA.out k wr (.cells #[.slice none 0 0, .int .i64 0, .int .i64 0, .int .i64 0, .int .i64 0, .int .i64 0, .int .i64 0, .bool false, .slice none 0 0, .string ⟨#[]⟩, .slice none 0 0] 104) HK.out); rw [if_neg (show ¬ k = 5 by omega)] at q; exact q)) ?_
      rintro e w2 ⟨rfl, hj⟩
      have HK2 : Hid (J (k + 1) w2) := hj
      clear hj
      go_wp2
      go_roundw
      case rel => exact ⟨k + 1, by omega, by go_num, HK2.out⟩
      case measure => (simp [intOf]; try omega)
    · have HK5 : Hid (k = 5) := by show _ = _; omega
      have d1 : decide ((k : Int) < 5) = false := decide_eq_false (by omega)
      have HK : Hid (J 5 wr) := by have q := HK.out; rw [HK5.out] at q; exact q
      clear hk hlt
      clear c3 c4 c5 c6 c7 HL
      have hbx := (HH.out 5 wr HK.out).1.trans HX.out
      have c8 : wr.cell? ⟨hb, 8, none⟩ = some (.pointer (some ⟨gb, 0, none⟩)) := cell_of_heap hbx rfl
      have c9 : wr.cell? ⟨hb, 9, none⟩ = some (.pointer none) := cell_of_heap hbx rfl
      have c10 : wr.cell? ⟨hb, 10, none⟩ = some (.pointer none) := cell_of_heap hbx rfl
      have c11 : wr.cell? ⟨hb, 11, none⟩ = some (.pointer none) := cell_of_heap hbx rfl
      have c12 : wr.cell? ⟨hb, 12, none⟩ = some (.pointer none) := cell_of_heap hbx rfl
      clear hbx
      go_wp2
      go_loopw [7, 30, 31, 32, 33, 34, 35, 36, 37, 38, 39, 40, 41, 42, 43] (fun _ u30 _ _ _ _ _ _ _ _ _ _ _ _ _ wr => ∃ k : Nat, k ≤ 5 ∧ u30 = .int .i64 k ∧ Hid (J (5 + k) wr)) (fun _ u30 _ _ _ _ _ _ _ _ _ _ _ _ _ _ => 5 - (intOf u30).toNat)
      case atStart => exact ⟨0, by omega, rfl, HK.out⟩
      case round =>
        obtain ⟨j, hk2, rfl, HQ⟩ := hrel
        by_cases hl2 : j < 5
        · have d2 : decide ((j : Int) < 5) = true := decide_eq_true (by omega)
          by_cases hk0 : j = 0
          · subst hk0
            have hx := HG0 wr (.pointer (some ⟨gb, 0, none⟩))
            obtain ⟨g0, g1, g2⟩ := GG.out
            have hgb := (HH.out 5 wr HQ.out).2
            have g0 := (World.cell?_of_block (w := w) (a := ⟨gb, 0, none⟩) hgb).trans g0
            have g1 := (World.cell?_of_block (w := w) (a := ⟨gb, 1, none⟩) hgb).trans g1
            have g2 := (World.cell?_of_block (w := w) (a := ⟨gb, 2, none⟩) hgb).trans g2
            go_wp2_with fail
            refine Calls.mono (show Calls Tryz.prog 86 #[.agg #[v, .int .i64 fr, .int .i64 sz], .pointer (some ⟨lb, 0, none⟩)] _ _ from by have q := HJ.out 5 wr (by omega) HQ.out; rw [if_pos rfl] at q; exact q) ?_
            rintro e w2 ⟨rfl, hj⟩
            have HK2 : Hid (J (5 + (0 + 1)) w2) := hj
            clear hj
            go_wp2
            go_roundw
            case rel => exact ⟨0 + 1, by omega, by go_num, HK2.out⟩
            case measure => (simp [intOf]; try omega)
          · have hx := HG wr (.pointer (some ⟨gb, 0, none⟩)) j hl2 (by omega)
            go_wp2_with fail
            refine Calls.mono ((show Calls Tryz.prog 86 #[zpV, .pointer (some ⟨lb, 0, none⟩)] _ _ from by have q := HJ.out (5 + j) _ (by omega) (HA.out (5 + j) wr (.cells #[.slice none 0 0, .int .i64 0, .int .i64 0, .slice none 0 0, .pointer none] 78) HQ.out); rw [if_neg (show ¬ 5 + j = 5 by omega)] at q; exact q)) ?_
            rintro e w2 ⟨rfl, hj⟩
            have HK2 : Hid (J (5 + (j + 1)) w2) := hj
            clear hj
            go_wp2
            go_roundw
            case rel => exact ⟨j + 1, by omega, by go_num, HK2.out⟩
            case measure => (simp [intOf]; try omega)
        · have d2 : decide ((j : Int) < 5) = false := decide_eq_false (by omega)
          have HQ : Hid (J 10 wr) := by have q := HQ.out; rw [show 5 + j = 10 by omega] at q; exact q
          go_wp2
          go_end0
          exact ⟨rfl, HQ.out⟩
set_option maxRecDepth 100000 in
set_option maxHeartbeats 4000000 in
theorem each_used1 {w : World} {hb db side lb : Nat} {gb : Nat} {v : Value} {fr sz : Int} (g0 : w.cell? ⟨gb, 0, none⟩ = some v) (g1 : w.cell? ⟨gb, 1, none⟩ = some (.int .i64 fr)) (g2 : w.cell? ⟨gb, 2, none⟩ = some (.int .i64 sz)) (hbox : w.heap[hb]? = some (.cells (hoC db side (.pointer (some ⟨gb, 0, none⟩))) 60 (0, 0))) (J : Nat → World → Prop) (h0 : J 0 w)
    (hJ : ∀ k W, k < 10 → J k W → Calls Tryz.prog 55 #[(if k = 5 then .agg #[v, .int .i64 fr, .int .i64 sz] else zpV), .pointer (some ⟨lb, 0, none⟩)] W fun e W' => e = .returned (.tuple #[]) ∧ J (k + 1) W')
    (hA : ∀ k W o, J k W → J k (W.alloc o)) (hH : ∀ k W, J k W → W.heap[hb]? = w.heap[hb]? ∧ W.heap[gb]? = w.heap[gb]?) :
    Calls Tryz.prog 54 #[.pointer (some ⟨hb, 0, none⟩), .func (.func 55) #[] #[.pointer (some ⟨lb, 0, none⟩)]] w fun e w' => e = .returned (.tuple #[]) ∧ J 10 w' := by
  have HJ : Hid (∀ k W, k < 10 → J k W → Calls Tryz.prog 55 #[(if k = 5 then .agg #[v, .int .i64 fr, .int .i64 sz] else zpV), .pointer (some ⟨lb, 0, none⟩)] W fun e W' => e = .returned (.tuple #[]) ∧ J (k + 1) W') := hJ
  have HA : Hid (∀ k W o, J k W → J k (W.alloc o)) := hA
  have HH : Hid (∀ k W, J k W → W.heap[hb]? = w.heap[hb]? ∧ W.heap[gb]? = w.heap[gb]?) := hH
  have HX : Hid (w.heap[hb]? = some (.cells (hoC db side (.pointer (some ⟨gb, 0, none⟩))) 60 (0, 0))) := hbox
  have HL := idxL
  have HG := idxG
  have HG0 := idxG0
  have c3 : w.cell? ⟨hb, 3, none⟩ = some (.pointer none) := cell_of_heap hbox rfl
  have c4 : w.cell? ⟨hb, 4, none⟩ = some (.pointer none) := cell_of_heap hbox rfl
  have c5 : w.cell? ⟨hb, 5, none⟩ = some (.pointer none) := cell_of_heap hbox rfl
  have c6 : w.cell? ⟨hb, 6, none⟩ = some (.pointer none) := cell_of_heap hbox rfl
  have c7 : w.cell? ⟨hb, 7, none⟩ = some (.pointer none) := cell_of_heap hbox rfl
  have GG : Hid (w.cell? ⟨gb, 0, none⟩ = some v ∧ w.cell? ⟨gb, 1, none⟩ = some (.int .i64 fr) ∧ w.cell? ⟨gb, 2, none⟩ = some (.int .i64 sz)) := ⟨g0, g1, g2⟩
  clear g0 g1 g2
  clear hJ hA hH hbox
  go_enter Tryz.func54, Tryz.ntmps54
  go_wp2
  go_loopw [5, 12, 13, 14, 15, 16, 17, 18, 19, 20, 21, 22, 23, 24, 25] (fun _ u12 _ _ _ _ _ _ _ _ _ _ _ _ _ wr => ∃ k : Nat, k ≤ 5 ∧ u12 = .int .i64 k ∧ Hid (J k wr)) (fun _ u12 _ _ _ _ _ _ _ _ _ _ _ _ _ _ => 5 - (intOf u12).toNat)
  case atStart => exact ⟨0, by omega, rfl, h0⟩
  case round =>
    obtain ⟨k, hk, rfl, HK⟩ := hrel
    by_cases hlt : k < 5
    · have d1 : decide ((k : Int) < 5) = true := decide_eq_true (by omega)
      have hx := HL wr k hlt
      go_wp2_with fail
      refine Calls.mono ((show Calls Tryz.prog 55 #[zpV, .pointer (some ⟨lb, 0, none⟩)] _ _ from by have q := HJ.out k _ (by omega) (HA.out k wr (.cells #[.slice none 0 0, .int .i64 0, .int .i64 0, .int .i64 0, .int .i64 0, .int .i64 0, .int .i64 0, .bool false, .slice none 0 0, .string ⟨#[]⟩, .slice none 0 0] 104) HK.out); rw [if_neg (show ¬ k = 5 by omega)] at q; exact q)) ?_
      rintro e w2 ⟨rfl, hj⟩
      have HK2 : Hid (J (k + 1) w2) := hj
      clear hj
      go_wp2
      go_roundw
      case rel => exact ⟨k + 1, by omega, by go_num, HK2.out⟩
      case measure => (simp [intOf]; try omega)
    · have HK5 : Hid (k = 5) := by show _ = _; omega
      have d1 : decide ((k : Int) < 5) = false := decide_eq_false (by omega)
      have HK : Hid (J 5 wr) := by have q := HK.out; rw [HK5.out] at q; exact q
      clear hk hlt
      clear c3 c4 c5 c6 c7 HL
      have hbx := (HH.out 5 wr HK.out).1.trans HX.out
      have c8 : wr.cell? ⟨hb, 8, none⟩ = some (.pointer (some ⟨gb, 0, none⟩)) := cell_of_heap hbx rfl
      have c9 : wr.cell? ⟨hb, 9, none⟩ = some (.pointer none) := cell_of_heap hbx rfl
      have c10 : wr.cell? ⟨hb, 10, none⟩ = some (.pointer none) := cell_of_heap hbx rfl
      have c11 : wr.cell? ⟨hb, 11, none⟩ = some (.pointer none) := cell_of_heap hbx rfl
      have c12 : wr.cell? ⟨hb, 12, none⟩ = some (.pointer none) := cell_of_heap hbx rfl
      clear hbx
      go_wp2
      go_loopw [7, 30, 31, 32, 33, 34, 35, 36, 37, 38, 39, 40, 41, 42, 43] (fun _ u30 _ _ _ _ _ _ _ _ _ _ _ _ _ wr => ∃ k : Nat, k ≤ 5 ∧ u30 = .int .i64 k ∧ Hid (J (5 + k) wr)) (fun _ u30 _ _ _ _ _ _ _ _ _ _ _ _ _ _ => 5 - (intOf u30).toNat)
      case atStart => exact ⟨0, by omega, rfl, HK.out⟩
      case round =>
        obtain ⟨j, hk2, rfl, HQ⟩ := hrel
        by_cases hl2 : j < 5
        · have d2 : decide ((j : Int) < 5) = true := decide_eq_true (by omega)
          by_cases hk0 : j = 0
          · subst hk0
            have hx := HG0 wr (.pointer (some ⟨gb, 0, none⟩))
            obtain ⟨g0, g1, g2⟩ := GG.out
            have hgb := (HH.out 5 wr HQ.out).2
            have g0 := (World.cell?_of_block (w := w) (a := ⟨gb, 0, none⟩) hgb).trans g0
            have g1 := (World.cell?_of_block (w := w) (a := ⟨gb, 1, none⟩) hgb).trans g1
            have g2 := (World.cell?_of_block (w := w) (a := ⟨gb, 2, none⟩) hgb).trans g2
            go_wp2_with fail
            refine Calls.mono (show Calls Tryz.prog 55 #[.agg #[v, .int .i64 fr, .int .i64 sz], .pointer (some ⟨lb, 0, none⟩)] _ _ from by have q := HJ.out 5 wr (by omega) HQ.out; rw [if_pos rfl] at q; exact q) ?_
            rintro e w2 ⟨rfl, hj⟩
            have HK2 : Hid (J (5 + (0 + 1)) w2) := hj
            clear hj
            go_wp2
            go_roundw
            case rel => exact ⟨0 + 1, by omega, by go_num, HK2.out⟩
            case measure => (simp [intOf]; try omega)
          · have hx := HG wr (.pointer (some ⟨gb, 0, none⟩)) j hl2 (by omega)
            go_wp2_with fail
            refine Calls.mono ((show Calls Tryz.prog 55 #[zpV, .pointer (some ⟨lb, 0, none⟩)] _ _ from by have q := HJ.out (5 + j) _ (by omega) (HA.out (5 + j) wr (.cells #[.slice none 0 0, .int .i64 0, .int .i64 0, .slice none 0 0, .pointer none] 78) HQ.out); rw [if_neg (show ¬ 5 + j = 5 by omega)] at q; exact q)) ?_
            rintro e w2 ⟨rfl, hj⟩
            have HK2 : Hid (J (5 + (j + 1)) w2) := hj
            clear hj
            go_wp2
            go_roundw
            case rel => exact ⟨j + 1, by omega, by go_num, HK2.out⟩
            case measure => (simp [intOf]; try omega)
        · have d2 : decide ((j : Int) < 5) = false := decide_eq_false (by omega)
          have HQ : Hid (J 10 wr) := by have q := HQ.out; rw [show 5 + j = 10 by omega] at q; exact q
          go_wp2
          go_end0
          exact ⟨rfl, HQ.out⟩
end Go.Proofs.YtkjknbjjchdjlaaGreatDoor
