/-
  DISKS: what both answer, and what both hold in memory: no walk.
  THE PROGRAM's DISK: check, spend, Read, Write, Cut, On, Power, Written, Blocks, Bytes: the walks.
  THE PROGRAM's DISK: Read, Write: the walks.
  THE PROGRAM's DISK: New, Copy; the closed fact: the walks.
  HOSTS: signs, and small numbers: the walks.
  A HOST IN MEMORY, with no lower and at most its first box: usable, off, write: the walks.
-/
import Derived.Test.YtkjknbjjchdjlaaGreatDoorApX
import Derived.Test.YtkjknbjjchdjlaaGreatDoorUcX
import Derived.Lib.BufferWrite
import Derived.Lib.SlBytesRow
import Derived.Deep.RegionHeld3
import Derived.Deep.QuietTactic
import Derived.BigQuiet
import Derived.Deep.Cut
import Derived.Lib.BufferRead
import Derived.Deep.RegionLaw
import Derived.Lib.SliceRun
import Derived.OwnWalk
import Derived.Lib.Strings
namespace Go.Proofs.YtkjknbjjchdjlaaGreatDoor
open Go.RowKit
def kerrV (n : Int) : Value := if n = 0 then .nilIface else .iface 47 (.int .i64 n)
theorem kerrV_of {n : Int} (h : n ≠ 0) : kerrV n = .iface 47 (.int .i64 n) := if_neg h
/-- Is there power, and are there so many bytes? -/
def ckF (off : Bool) (sz : Nat) (p n : Int) : Int := if off = true then 16 else if p < 0 ∨ n < 0 ∨ (sz : Int) - p < n then 1 else 0
/-- For how many bytes does power last? -/
def spN (cut n : Int) : Int := if cut < 0 then n else min n cut
def spC (cut n : Int) : Int := if cut < 0 then cut else cut - min n cut
/-- The bytes behind a write of k of t's. -/
def wrS (s : ByteArray) (p : Nat) (t : ByteArray) (k : Nat) : ByteArray := s.extract 0 p ++ t.extract 0 k ++ s.extract (p + k) s.size
/-- A disk. -/
structure Dk where
  s : ByteArray
  cut : Int
  wr : Int
  off : Bool
def wrF (c : Dk) (p : Int) (t : ByteArray) : Int := if ckF c.off c.s.size p t.size = 0 then (if spN c.cut t.size < t.size then 16 else 0) else ckF c.off c.s.size p t.size
def wrD (c : Dk) (p : Int) (t : ByteArray) : Dk :=
  if ckF c.off c.s.size p t.size = 0 then ⟨wrS c.s p.toNat t (spN c.cut t.size).toNat, spC c.cut t.size, c.wr + spN c.cut t.size, decide (spN c.cut t.size < t.size)⟩ else c
theorem spN_bd (cut : Int) (n : Nat) (_h : -1 ≤ cut) : 0 ≤ spN cut n ∧ spN cut n ≤ n := by
  unfold spN; split <;> omega
theorem wrS_size (s : ByteArray) (p : Nat) (t : ByteArray) (k : Nat) (hk : k ≤ t.size) (hp : p + k ≤ s.size) : (wrS s p t k).size = s.size := by
  simp [wrS, ByteArray.size_extract]; omega
theorem wrS_list (s : ByteArray) (p : Nat) (t : ByteArray) (k : Nat) : (wrS s p t k).data.toList = s.data.toList.take p ++ t.data.toList.take k ++ s.data.toList.drop (p + k) := by
  have hl : s.data.toList.length = s.size := by simp
  simp [wrS, ByteArray.data_extract, ByteArray.data_append]
  try (rw [List.take_of_length_le (by simp)])
theorem ck_zero {off : Bool} {sz : Nat} {p n : Int} (h : ckF off sz p n = 0) : off = false ∧ 0 ≤ p ∧ 0 ≤ n ∧ p + n ≤ sz := by
  unfold ckF at h
  split at h
  · omega
  · split at h
    · omega
    · rename_i h1 h2
      exact ⟨by simpa using h1, by omega, by omega, by omega⟩
/-- The program's disk in memory. -/
structure KB (w : World) (db rb cap : Nat) (c : Dk) : Prop where
  box : w.heap[db]? = some (.cells #[.slice (some ⟨rb, 0, none⟩) c.s.size cap, .int .i64 c.cut, .int .i64 c.wr, .bool c.off] 50 (0, 0))
  row : ∃ cur, w.heap[rb]? = some (.cells cur 5 (0, 0)) ∧ cur.size = cap ∧ cur.toList.take c.s.size = Lib.byteCells c.s.data.toList
  le : c.s.size ≤ cap
  hi : cap ≤ maxLen
  ne : db ≠ rb
theorem lt_of_heap {w : World} {b : Nat} {o : Obj} (h : w.heap[b]? = some o) : b < w.heap.size := by
  by_cases hb : b < w.heap.size
  · exact hb
  · rw [Array.getElem?_eq_none (by omega)] at h; cases h
theorem cell_of_heap {w : World} {b i : Nat} {cs : Array Value} {t : TypeId} {v : Value} (h : w.heap[b]? = some (.cells cs t (0, 0))) (hi : cs[i]? = some v) : w.cell? ⟨b, i, none⟩ = some v := by
  simp [World.cell?, h, hi]
theorem frozen_of_heap {w : World} {b : Nat} {cs : Array Value} {t : TypeId} (h : w.heap[b]? = some (.cells cs t (0, 0))) (i : Nat) : w.frozen? ⟨b, i, none⟩ = false := by
  simp [World.frozen?, h]
theorem KB.lt {w : World} {db rb cap : Nat} {c : Dk} (h : KB w db rb cap c) : db < w.heap.size ∧ rb < w.heap.size := by
  obtain ⟨cur, h1, _⟩ := h.row
  exact ⟨lt_of_heap h.box, lt_of_heap h1⟩
theorem KB.cells {w : World} {db rb cap : Nat} {c : Dk} (h : KB w db rb cap c) :
    w.cell? ⟨db, 0, none⟩ = some (.slice (some ⟨rb, 0, none⟩) c.s.size cap) ∧ w.cell? ⟨db, 1, none⟩ = some (.int .i64 c.cut) ∧ w.cell? ⟨db, 2, none⟩ = some (.int .i64 c.wr) ∧ w.cell? ⟨db, 3, none⟩ = some (.bool c.off) ∧
      w.frozen? ⟨db, 0, none⟩ = false ∧ w.frozen? ⟨db, 1, none⟩ = false ∧ w.frozen? ⟨db, 2, none⟩ = false ∧ w.frozen? ⟨db, 3, none⟩ = false :=
  ⟨cell_of_heap h.box rfl, cell_of_heap h.box rfl, cell_of_heap h.box rfl, cell_of_heap h.box rfl, frozen_of_heap h.box _, frozen_of_heap h.box _, frozen_of_heap h.box _, frozen_of_heap h.box _⟩
theorem KB.bytes {w : World} {db rb cap : Nat} {c : Dk} (h : KB w db rb cap c) : Lib.Bytes w rb 0 c.s := by
  obtain ⟨cur, h1, h2, h3⟩ := h.row
  intro i hi
  rw [Nat.zero_add]
  refine cell_of_heap h1 ?_
  have hl : c.s.data.toList.length = c.s.size := by simp
  have : (cur.toList.take c.s.size)[i]? = some (.int .u8 (c.s[i].toNat : Int)) := by
    rw [h3, Lib.byteCells, List.getElem?_map]
    rw [List.getElem?_eq_getElem (by omega)]
    rfl
  rw [List.getElem?_take_of_lt hi] at this
  simpa using this
theorem KB.mv {S : Nat → Prop} {w w' : World} {db rb cap : Nat} {c : Dk} (h : KB w db rb cap c) (hb : Mv S w w') (h1 : ¬ S db) (h2 : ¬ S rb) : KB w' db rb cap c := by
  obtain ⟨l1, l2⟩ := h.lt
  obtain ⟨cur, g1, g2, g3⟩ := h.row
  exact ⟨(hb.block db l1 h1).trans h.box, ⟨cur, (hb.block rb l2 h2).trans g1, g2, g3⟩, h.le, h.hi, h.ne⟩
theorem KB.set1 {w : World} {db rb cap : Nat} {c : Dk} (h : KB w db rb cap c) (x : Int) : KB (w.setCell ⟨db, 1, none⟩ (.int .i64 x)) db rb cap ⟨c.s, x, c.wr, c.off⟩ := by
  obtain ⟨cur, g1, g2, g3⟩ := h.row
  exact ⟨Lib.heap_setCell_same (i := 1) h.box _, ⟨cur, (heap_setCell_other _ _ _ _ (fun e => h.ne e.symm)).trans g1, g2, g3⟩, h.le, h.hi, h.ne⟩
theorem KB.set2 {w : World} {db rb cap : Nat} {c : Dk} (h : KB w db rb cap c) (x : Int) : KB (w.setCell ⟨db, 2, none⟩ (.int .i64 x)) db rb cap ⟨c.s, c.cut, x, c.off⟩ := by
  obtain ⟨cur, g1, g2, g3⟩ := h.row
  exact ⟨Lib.heap_setCell_same (i := 2) h.box _, ⟨cur, (heap_setCell_other _ _ _ _ (fun e => h.ne e.symm)).trans g1, g2, g3⟩, h.le, h.hi, h.ne⟩
theorem KB.set3 {w : World} {db rb cap : Nat} {c : Dk} (h : KB w db rb cap c) (x : Bool) : KB (w.setCell ⟨db, 3, none⟩ (.bool x)) db rb cap ⟨c.s, c.cut, c.wr, x⟩ := by
  obtain ⟨cur, g1, g2, g3⟩ := h.row
  exact ⟨Lib.heap_setCell_same (i := 3) h.box _, ⟨cur, (heap_setCell_other _ _ _ _ (fun e => h.ne e.symm)).trans g1, g2, g3⟩, h.le, h.hi, h.ne⟩
theorem heap_setRow_other (w : World) (g k : Nat) (cs : Array Value) (h : k ≠ g) : (w.setRow g cs).heap[k]? = w.heap[k]? := by
  simp [World.setRow, Array.getElem?_modify]
  intro e
  exact absurd e.symm h
/-- Bytes are copied into the row. -/
theorem KB.copied {w : World} {db rb cap : Nat} {c : Dk} (h : KB w db rb cap c) (p : Nat) (t : ByteArray) (k : Nat) (hk : k ≤ t.size) (hp : p + k ≤ c.s.size) :
    ∃ w', (∀ (ty : TypeId) (n : Nat), k ≤ n → (Builtin.copy_ #[48, 9] ty #[.slice (some ⟨rb, p, none⟩) n (cap - p), .string (t.extract 0 k)]).run Tryz.prog w = .ok (.int .i64 k) w') ∧ KB w' db rb cap ⟨wrS c.s p t k, c.cut, c.wr, c.off⟩ ∧ Mv (fun b => b = rb) w w' := by
  obtain ⟨cur, g1, g2, g3⟩ := h.row
  have hle := h.le
  have hsz : (t.extract 0 k).size = k := by simp [ByteArray.size_extract]; omega
  have hcl : cur.toList.length = cap := by simpa using g2
  refine ⟨w.setRow rb (cur.toList.take p ++ Lib.byteCells (t.extract 0 k).data.toList ++ cur.toList.drop (p + (t.extract 0 k).size)).toArray, fun ty n hn => ?_, ⟨?_, ⟨_, setRow_heap w rb cur _ 5 _ g1, ?_, ?_⟩, ?_, h.hi, h.ne⟩, ?_⟩
  · have := Lib.run_copy_row_string (P := Tryz.prog) w 48 9 ty 5 rb p n (cap - p) (t.extract 0 k) cur 5 Tryz.underlying48 (by kernel_rfl) g1 (by omega) (by omega)
    rw [this, hsz]
    rfl
  · rw [heap_setRow_other _ _ _ _ h.ne, h.box]
    simp only [wrS_size c.s p t k hk hp]
  · simp [Lib.byteCells]; omega
  · show List.take (wrS c.s p t k).size _ = Lib.byteCells (wrS c.s p t k).data.toList
    rw [wrS_size c.s p t k hk hp, wrS_list, hsz]
    have hl : c.s.data.toList.length = c.s.size := by simp
    have htl : t.data.toList.length = t.size := by simp
    have e1 : cur.toList.take p = Lib.byteCells (c.s.data.toList.take p) := by
      have := congrArg (List.take p) g3
      rw [List.take_take, Nat.min_eq_left (by omega)] at this
      rw [this, Lib.byteCells, Lib.byteCells, List.map_take]
    have e2 : (cur.toList.drop (p + k)).take (c.s.size - (p + k)) = Lib.byteCells (c.s.data.toList.drop (p + k)) := by
      have := congrArg (List.drop (p + k)) g3
      rw [List.drop_take] at this
      rw [this, Lib.byteCells, Lib.byteCells, List.map_drop]
    have e3 : (t.extract 0 k).data.toList = t.data.toList.take k := by simp [ByteArray.data_extract]
    rw [e3, List.toList_toArray, List.take_append, List.take_of_length_le (by simp [Lib.byteCells]; omega)]
    have e4 : c.s.size - (cur.toList.take p ++ Lib.byteCells (t.data.toList.take k)).length = c.s.size - (p + k) := by
      simp [Lib.byteCells]; omega
    rw [e4, e2, e1]
    simp [Lib.byteCells]
  · show (wrS c.s p t k).size ≤ cap
    rw [wrS_size c.s p t k hk hp]; exact hle
  · exact ⟨rfl, rfl, rfl, by simp [World.setRow], fun b _ hb => heap_setRow_other _ _ _ _ hb⟩
end Go.Proofs.YtkjknbjjchdjlaaGreatDoor
namespace Go.Proofs.YtkjknbjjchdjlaaGreatDoor
open Go.RowKit
theorem assertD (W : World) (n : Int) : (Instr.typeAssert (.iface 47 (.int .i64 n)) 25 47 true).run Tryz.prog W = .ok (.tuple #[.int .i64 n, .bool true]) W := by kernel_rfl
set_option maxHeartbeats 400000 in
theorem ksame_nil (w : World) : Calls Tryz.prog 7 #[.nilIface, .int .i64 0] w fun e w' => e = .returned (.bool true) ∧ w = w' := by
  go_enter Tryz.func7, Tryz.ntmps7
  go_wp2
  go_ret
  exact ⟨rfl, rfl⟩
set_option maxHeartbeats 400000 in
theorem ksame_err (n : Int) (hn : 0 < n) (w : World) : Calls Tryz.prog 7 #[.iface 47 (.int .i64 n), .int .i64 n] w fun e w' => e = .returned (.bool true) ∧ w = w' := by
  have ha := assertD
  go_enter Tryz.func7, Tryz.ntmps7
  go_wp2
  go_ret
  exact ⟨rfl, rfl⟩
set_option maxRecDepth 100000 in
set_option maxHeartbeats 1000000 in
theorem kcheck_any {W : World} {db rb cap : Nat} {c : Dk} (h : KB W db rb cap c) (p n : Int) (hp : p ≤ 9223372036854775807) (hs : c.s.size ≤ 100000000) :
    Calls Tryz.prog 84 #[.pointer (some ⟨db, 0, none⟩), .int .i64 p, .int .i64 n] W fun e w' => e = .returned (kerrV (ckF c.off c.s.size p n)) ∧ W = w' := by
  obtain ⟨y0, y1, y2, y3, z0, z1, z2, z3⟩ := h.cells
  clear h
  obtain ⟨s, cut, wr, off⟩ := c
  simp only at y0 y1 y2 y3 hs ⊢
  cases off
  rotate_left
  · rw [show ckF true s.size p n = 16 from if_pos rfl]
    go_enter Tryz.func84, Tryz.ntmps84
    go_wp2
    go_ret
    exact ⟨rfl, rfl⟩
  by_cases h1 : p < 0
  · rw [show ckF false s.size p n = 1 by unfold ckF; rw [if_neg (by decide), if_pos (.inl h1)]]
    have b1 : decide (p < 0) = true := decide_eq_true h1
    go_enter Tryz.func84, Tryz.ntmps84
    go_wp2
    go_ret
    exact ⟨rfl, rfl⟩
  have b1 : decide (p < 0) = false := decide_eq_false h1
  by_cases h2 : n < 0
  · rw [show ckF false s.size p n = 1 by unfold ckF; rw [if_neg (by decide), if_pos (.inr (.inl h2))]]
    have b2 : decide (n < 0) = true := decide_eq_true h2
    go_enter Tryz.func84, Tryz.ntmps84
    go_wp2
    go_ret
    exact ⟨rfl, rfl⟩
  have b2 : decide (n < 0) = false := decide_eq_false h2
  have h1' : 0 ≤ p := by omega
  by_cases h3 : (s.size : Int) - p < n
  · rw [show ckF false s.size p n = 1 by unfold ckF; rw [if_neg (by decide), if_pos (.inr (.inr h3))]]
    have b3 : decide ((s.size : Int) - p < n) = true := decide_eq_true h3
    go_enter Tryz.func84, Tryz.ntmps84
    go_wp2
    go_ret
    exact ⟨rfl, rfl⟩
  · rw [show ckF false s.size p n = 0 by unfold ckF; rw [if_neg (by decide), if_neg (by omega)]]
    have b3 : decide ((s.size : Int) - p < n) = false := decide_eq_false h3
    go_enter Tryz.func84, Tryz.ntmps84
    go_wp2
    go_ret
    exact ⟨rfl, rfl⟩
set_option maxRecDepth 100000 in
set_option maxHeartbeats 1000000 in
theorem kspend_any {W : World} {db rb cap : Nat} {c : Dk} (h : KB W db rb cap c) (n : Int) (hn : 0 ≤ n) (hn2 : n ≤ 1000000) (hc : c.cut ≤ 9223372036854775807) :
    Calls Tryz.prog 85 #[.pointer (some ⟨db, 0, none⟩), .int .i64 n] W fun e w' => e = .returned (.int .i64 (spN c.cut n)) ∧ Mv (fun b => b = db) W w' ∧ KB w' db rb cap ⟨c.s, spC c.cut n, c.wr, c.off⟩ := by
  have HK : Hid (KB W db rb cap c) := h
  obtain ⟨y0, y1, y2, y3, z0, z1, z2, z3⟩ := h.cells
  clear h
  obtain ⟨s, cut, wr, off⟩ := c
  simp only at y0 y1 y2 y3 hc ⊢
  by_cases h1 : cut < 0
  · rw [show spN cut n = n from if_pos h1, show spC cut n = cut from if_pos h1]
    have b1 : decide (cut < 0) = true := decide_eq_true h1
    go_enter Tryz.func85, Tryz.ntmps85
    go_wp2
    go_ret
    exact ⟨rfl, Mv.refl _ _, HK.out⟩
  · have b1 : decide (cut < 0) = false := decide_eq_false h1
    rw [show spN cut n = min n cut from if_neg h1, show spC cut n = cut - min n cut from if_neg h1]
    have hm0 : 0 ≤ min n cut := by omega
    have hm1 : min n cut ≤ cut := by omega
    go_enter Tryz.func85, Tryz.ntmps85
    go_wp2
    go_ret
    exact ⟨rfl, Mv.setCell (S := fun b => b = db) (Mv.refl _ _) rfl _, HK.out.set1 _⟩
set_option maxRecDepth 100000 in
set_option maxHeartbeats 1000000 in
theorem kpower_any {W : World} {db rb cap : Nat} {c : Dk} (h : KB W db rb cap c) :
    Calls Tryz.prog 31 #[.pointer (some ⟨db, 0, none⟩)] W fun e w' => e = .returned (.bool (!c.off)) ∧ W = w' := by
  obtain ⟨y0, y1, y2, y3, z0, z1, z2, z3⟩ := h.cells
  clear h
  go_enter Tryz.func31, Tryz.ntmps31
  go_wp2
  go_ret
  exact ⟨rfl, rfl⟩
set_option maxRecDepth 100000 in
set_option maxHeartbeats 1000000 in
theorem kwritten_any {W : World} {db rb cap : Nat} {c : Dk} (h : KB W db rb cap c) :
    Calls Tryz.prog 8 #[.pointer (some ⟨db, 0, none⟩)] W fun e w' => e = .returned (.int .i64 c.wr) ∧ W = w' := by
  obtain ⟨y0, y1, y2, y3, z0, z1, z2, z3⟩ := h.cells
  clear h
  go_enter Tryz.func8, Tryz.ntmps8
  go_wp2
  go_ret
  exact ⟨rfl, rfl⟩
set_option maxRecDepth 100000 in
set_option maxHeartbeats 1000000 in
theorem kblocks_any {W : World} {db rb cap : Nat} {c : Dk} (h : KB W db rb cap c) (k : Nat) (hk : c.s.size = 64 * k) :
    Calls Tryz.prog 29 #[.pointer (some ⟨db, 0, none⟩)] W fun e w' => e = .returned (.int .i64 k) ∧ W = w' := by
  obtain ⟨y0, y1, y2, y3, z0, z1, z2, z3⟩ := h.cells
  have hle := h.le
  have hhi := h.hi
  clear h
  unfold maxLen at hhi
  rw [hk] at y0 hle
  clear hk
  go_enter Tryz.func29, Tryz.ntmps29
  go_wp2
  go_ret
  exact ⟨by congr 2, rfl⟩
set_option maxRecDepth 100000 in
set_option maxHeartbeats 1000000 in
theorem kbytes_any {W : World} {db rb cap : Nat} {c : Dk} (h : KB W db rb cap c) :
    Calls Tryz.prog 14 #[.pointer (some ⟨db, 0, none⟩)] W fun e w' => e = .returned (.string c.s) ∧ W = w' := by
  have hcv := Lib.run_convert_whole (P := Tryz.prog) W 48 5 9 Tryz.underlying48 Tryz.underlying5 Tryz.underlying9 rb 0 c.s h.bytes cap
  obtain ⟨y0, y1, y2, y3, z0, z1, z2, z3⟩ := h.cells
  clear h
  go_enter Tryz.func14, Tryz.ntmps14
  go_wp2
  go_ret
  exact ⟨rfl, rfl⟩
end Go.Proofs.YtkjknbjjchdjlaaGreatDoor
namespace Go.Proofs.YtkjknbjjchdjlaaGreatDoor
open Go.RowKit
theorem kstep_copy {P : Program} {ops : Array Oper} {o : Oper} {a : Act} {w : World} {K : Act → World → Prop} {Q : Exit → Act → World → Prop} {E : Prop}
    (hg : o.guard = none) (d x : Operand) (dT sT : TypeId) (hop : o.op = Op.call { callee := Callee.builtin Builtin.copy, args := #[d, x], argTypes := #[dT, sT] })
    (vd vx : Value) (hd : a.eval d = vd) (hx : a.eval x = vx) (r : Value) (w' : World) (hrun : (Builtin.copy_ #[dT, sT] o.type #[vd, vx]).run P w = .ok r w')
    (hK : K (a.put o.dst r) w') :
    if Region.wanted o (yielded ops a.tmps) = true then Oper.wp P o a w K Q else E := by
  have hw : Region.wanted o (yielded ops a.tmps) = true := by simp [Region.wanted, hg]
  rw [if_pos hw]
  unfold Oper.wp
  simp [execOp, hop, resolve, invoke, builtin, hd, hx, hrun, Result.andThen]
  exact hK
set_option maxRecDepth 100000 in
set_option maxHeartbeats 1000000 in
theorem kwrite_any {W : World} {db rb cap : Nat} {c : Dk} (h : KB W db rb cap c) (p : Int) (t : ByteArray) (hp : p ≤ 9223372036854775807) (hs : c.s.size ≤ 100000000) (ht : t.size ≤ 1000) (hc : -1 ≤ c.cut ∧ c.cut ≤ 9223372036854775807) (hw : 0 ≤ c.wr ∧ c.wr ≤ 1000000) :
    Calls Tryz.prog 65 #[.pointer (some ⟨db, 0, none⟩), .int .i64 p, .string t] W fun e w' => e = .returned (kerrV (wrF c p t)) ∧ Mv (fun b => b = db ∨ b = rb) W w' ∧ KB w' db rb cap (wrD c p t) := by
  have C1 : Hid (Calls Tryz.prog 84 #[.pointer (some ⟨db, 0, none⟩), .int .i64 p, .int .i64 t.size] W fun e w' => e = .returned (kerrV (ckF c.off c.s.size p t.size)) ∧ W = w') := kcheck_any h p t.size hp hs
  have HK : Hid (KB W db rb cap c) := h
  by_cases h0 : ckF c.off c.s.size p t.size = 0
  rotate_left
  · rw [show wrF c p t = ckF c.off c.s.size p t.size from if_neg h0, show wrD c p t = c from if_neg h0]
    rw [kerrV_of h0] at C1 ⊢
    obtain ⟨F, HF⟩ : ∃ F, Hid (ckF c.off c.s.size p t.size = F) := ⟨_, rfl⟩
    rw [HF.out] at C1 ⊢
    clear h0 h HF
    go_enter Tryz.func65, Tryz.ntmps65
    go_wp2_with fail
    refine Calls.mono C1.out ?_
    rintro e w' ⟨rfl, rfl⟩
    go_wp2
    go_ret
    exact ⟨rfl, Mv.refl _ _, HK.out⟩
  obtain ⟨hof, hp0, _, hpn⟩ := ck_zero h0
  obtain ⟨F, HF⟩ : ∃ F, Hid (wrF c p t = F) := ⟨_, rfl⟩
  obtain ⟨D, HD⟩ : ∃ D, Hid (wrD c p t = D) := ⟨_, rfl⟩
  rw [HF.out, HD.out]
  have HF2 : Hid (F = if spN c.cut t.size < t.size then 16 else 0) := (HF.out.symm.trans (if_pos h0))
  have HD2 : Hid (D = ⟨wrS c.s p.toNat t (spN c.cut t.size).toNat, spC c.cut t.size, c.wr + spN c.cut t.size, decide (spN c.cut t.size < t.size)⟩) := (HD.out.symm.trans (if_pos h0))
  have hsp := spN_bd c.cut t.size hc.1
  have C2 : Hid (Calls Tryz.prog 85 #[.pointer (some ⟨db, 0, none⟩), .int .i64 t.size] W fun e w' => e = .returned (.int .i64 (spN c.cut t.size)) ∧ Mv (fun b => b = db) W w' ∧ KB w' db rb cap ⟨c.s, spC c.cut t.size, c.wr, c.off⟩) := kspend_any h t.size (by omega) (by omega) hc.2
  clear HF HD
  rw [h0] at C1
  obtain ⟨q, rfl⟩ : ∃ q : Nat, p = q := ⟨p.toNat, by omega⟩
  clear h0 h hp0
  obtain ⟨s, cut, wr_, off⟩ := c
  simp only at hof hpn C1 C2 HK hs hc hw HF2 HD2 hsp ⊢
  subst hof
  obtain ⟨k, ek⟩ : ∃ k : Nat, spN cut t.size = k := ⟨(spN cut t.size).toNat, by omega⟩
  rw [ek] at HF2 HD2 C2 hsp
  simp only [Int.toNat_natCast] at HD2
  obtain ⟨cu, ecu⟩ : ∃ cu, spC cut t.size = cu := ⟨_, rfl⟩
  rw [ecu] at C2 HD2
  have hle := HK.out.le
  simp only at hle
  obtain ⟨hw0, hw1⟩ := hw
  clear ek ecu hc HK
  rw [show (kerrV 0) = .nilIface from rfl] at C1
  have hkt : k ≤ t.size := by omega
  have hk1 : (k : Int) ≤ (t.size : Int) := by omega
  have hqs : q ≤ s.size := by omega
  have hqsI : (q : Int) ≤ (s.size : Int) := by omega
  clear hsp
  go_enter Tryz.func65, Tryz.ntmps65
  go_wp2_with fail
  refine Calls.mono C1.out ?_
  rintro e w' ⟨rfl, rfl⟩
  clear C1
  go_wp2_with fail
  refine Calls.mono C2.out ?_
  rintro e w1 ⟨rfl, M1, K1⟩
  clear C2
  have HK1 : Hid (KB w1 db rb cap ⟨s, cu, wr_, false⟩) := K1
  have HM1 : Hid (Mv (fun b => b = db) W w1) := M1
  obtain ⟨y0, y1, y2, y3, z0, z1, z2, z3⟩ := K1.cells
  simp only at y0 y1 y2 y3
  clear K1 M1
  obtain ⟨w2, hcp, K2, M2⟩ : ∃ w2, (∀ ty, (Builtin.copy_ #[48, 9] ty #[.slice (if cap = q then some ⟨rb, 0, none⟩ else some ⟨rb, q, none⟩) (s.size - q) (cap - q), .string (t.extract 0 k)]).run Tryz.prog w1.drew = .ok (.int .i64 k) w2) ∧ KB w2 db rb cap ⟨wrS s q t k, cu, wr_, false⟩ ∧ Mv (fun b => b = rb) w1.drew w2 := by
    have hK' : KB w1.drew db rb cap ⟨s, cu, wr_, false⟩ := HK1.out.mv (S := fun _ => False) (Mv.drew (Mv.refl _ _)) id id
    by_cases hk0 : k = 0
    · subst hk0
      refine ⟨w1.drew, fun ty => ?_, ?_, Mv.refl _ _⟩
      · exact Lib.run_copy_empty_string (P := Tryz.prog) w1.drew 48 9 ty 5 _ _ _ _ Tryz.underlying48 (by kernel_rfl) (by simp)
      · have e : wrS s q t 0 = s := by
          apply ByteArray.ext
          apply Array.toList_inj.1
          rw [wrS_list]
          simp
        rw [e]
        exact hK'
    · rw [if_neg (by omega)]
      obtain ⟨w2, a1, a2, a3⟩ := hK'.copied q t k hkt (by simp only; omega)
      exact ⟨w2, fun ty => a1 ty _ (by omega), a2, a3⟩
  obtain ⟨x0, x1, x2, x3, v0, v1, v2, v3⟩ := K2.cells
  simp only at x0 x1 x2 x3
  have HK2 : Hid (KB w2 db rb cap ⟨wrS s q t k, cu, wr_, false⟩) := K2
  have HM2 : Hid (Mv (fun b => b = rb) w1.drew w2) := M2
  have HCP : Hid (∀ ty, (Builtin.copy_ #[48, 9] ty #[.slice (if cap = q then some ⟨rb, 0, none⟩ else some ⟨rb, q, none⟩) (s.size - q) (cap - q), .string (t.extract 0 k)]).run Tryz.prog w1.drew = .ok (.int .i64 k) w2) := hcp
  clear K2 M2 hcp
  have hwrap : IntKind.i64.wrap (wr_ + (k : Int)) = wr_ + (k : Int)   := by first | exact wrap_small _ (by omega) (by omega) | exact wrap_small (by omega) (by omega)
  have HM : Hid (∀ (x : Int), Mv (fun b => b = db ∨ b = rb) W (w2.setCell ⟨db, 2, none⟩ (.int .i64 x))) := fun x => Mv.setCell (S := fun b => b = db ∨ b = rb) ((Mv.mono HM1.out (fun _ e => .inl e)).trans ((Mv.drew (Mv.refl _ _)).trans (Mv.mono HM2.out (fun _ e => .inr e)))) (.inl rfl) _
  go_upto_region 5 with fail
  go_region_law (refine kstep_copy rfl (.tmp 30) (.tmp 33) 48 9 rfl _ _ (by simp [Act.eval, Act.put]) (by simp [Act.eval, Act.put]) _ _ (HCP.out _) ?_)
  all_goals
    generalize (if cap = q then some (⟨rb, 0, none⟩ : Addr) else some ⟨rb, q, none⟩) = ad
    by_cases hb : k < t.size
    · have b1 : (k : Int) < (t.size : Int) := by omega
      go_wp2
      go_ret
      have eF : F = 16 := by rw [HF2.out, if_pos b1]
      have eD : D = ⟨wrS s q t k, cu, wr_ + k, true⟩ := by rw [HD2.out, decide_eq_true b1]
      exact ⟨by rw [eF]; rfl, Mv.setCell (S := fun b => b = db ∨ b = rb) (HM.out _) (.inl rfl) _, by rw [eD]; exact (HK2.out.set2 _).set3 true⟩
    · have b1 : ¬ (k : Int) < (t.size : Int) := by omega
      go_wp2
      go_ret
      have eF : F = 0 := by rw [HF2.out, if_neg (by omega)]
      have eD : D = ⟨wrS s q t k, cu, wr_ + k, false⟩ := by rw [HD2.out, decide_eq_false (by omega)]
      exact ⟨by rw [eF]; rfl, HM.out _, by rw [eD]; exact HK2.out.set2 _⟩
end Go.Proofs.YtkjknbjjchdjlaaGreatDoor
namespace Go.Proofs.YtkjknbjjchdjlaaGreatDoor
open Go.RowKit
theorem Tryz.infoU : (Tryz.prog.info? 5).map (fun i => (i.zero, i.size, i.bytes)) = some (some (.int .u8 0), 1, 1) := by kernel_rfl
theorem kinfo_three {P : Program} {t : TypeId} {z : Value} {n m : Nat} (h : (P.info? t).map (fun i => (i.zero, i.size, i.bytes)) = some (some z, n, m)) : ∃ i, P.info? t = some i ∧ i.zero = some z ∧ i.size = n ∧ i.bytes = m := by
  cases hi : P.info? t with
  | none => rw [hi] at h; cases h
  | some i => rw [hi] at h; simp at h; exact ⟨i, rfl, h.1, h.2.1, h.2.2⟩
/-- So many noughts. -/
def zeroS (n : Nat) : ByteArray := ⟨(List.replicate n (0 : UInt8)).toArray⟩
theorem zeroS_size (n : Nat) : (zeroS n).size = n := by simp [zeroS, ByteArray.size]
theorem zeroS_cells (n : Nat) : (madeCells #[.int .u8 0] n).toList = Lib.byteCells (zeroS n).data.toList := by
  apply List.ext_getElem
  · simp [madeCells, Lib.byteCells, zeroS]
  · intro i h1 h2
    simp [madeCells, Lib.byteCells, zeroS, Nat.mod_one]
/-- A disk of a box and a row. -/
theorem KB.mk' {w : World} {db base cap n : Nat} {v : Value} {c : Dk} (hrow : w.ownsRow base 5 1 v n (Lib.byteCells c.s.data.toList)) (rb : Nat) (hv : v = .slice (some ⟨rb, 0, none⟩) n cap) (hn : n = c.s.size)
    (hbox : w.heap[db]? = some (.cells #[v, .int .i64 c.cut, .int .i64 c.wr, .bool c.off] 50 (0, 0))) (hne : db ≠ rb) : KB w db rb cap c := by
  subst hv hn
  obtain ⟨h1, h2⟩ := hrow
  rcases h2 with ⟨e, _⟩ | ⟨g, cap', cur, e, hb, hg, hle, hm, hs, htk⟩
  · cases e
  · cases e
    exact ⟨hbox, ⟨cur, hg, by simpa using hs, by simpa using htk⟩, hle, hm, hne⟩
set_option maxRecDepth 100000 in
set_option maxHeartbeats 1000000 in
theorem knew_any (n : Nat) (W : World) (h : n ≤ 2000) :
    Calls Tryz.prog 5 #[.int .i64 n] W fun e w' => ∃ db rb cap, e = .returned (.tuple #[.pointer (some ⟨db, 0, none⟩), .nilIface]) ∧ KB w' db rb cap ⟨zeroS (64 * n), -1, 0, false⟩ ∧ W.heap.size ≤ db ∧ W.heap.size ≤ rb ∧ Below W.heap.size W w' := by
  have b1 : decide ((n : Int) < 0) = false := decide_eq_false (by omega)
  have b2 : decide (2000 < (n : Int)) = false := decide_eq_false (by omega)
  obtain ⟨i0, hi0, hz0, hz1, hz2⟩ := kinfo_three Tryz.infoU
  have HB : Hid (i0.bytes = 1) := hz2
  go_enter Tryz.func5, Tryz.ntmps5
  go_wp2_with (at_make; refine wpList_make_full _ rfl _ _ 48 rfl W.heap.size 5 i0 (.int .u8 0) 1 Tryz.underlying48 hi0 hz0 hz1 .i64 .i64 _ _ (64 * n) rfl rfl (by omega) (by omega) (by rw [HB.out]; omega) (by unfold maxLen; omega) (Nat.le_refl _) ?_)
  intro w1 hown hgrow
  rw [zeroS_cells] at hown
  have HOW : Hid (w1.ownsRow W.heap.size 5 1 (.slice (some ⟨W.heap.size, 0, none⟩) (64 * n) (64 * n)) (64 * n) (Lib.byteCells (zeroS (64 * n)).data.toList)) := hown
  have HB1 : Hid (Below W.heap.size W w1) := ⟨hgrow.os, hgrow.tape, hgrow.output, hgrow.size, fun k hk => hgrow.block k hk (by simp)⟩
  have hl1 : W.heap.size < w1.heap.size := (hown.lt W.heap.size rfl).2
  clear hown hgrow
  go_wp2
  go_ret2
  refine ⟨w1.heap.size, W.heap.size, 64 * n, rfl, ?_, by omega, Nat.le_refl _, HB1.out.alloc (Nat.le_of_lt hl1) _⟩
  refine KB.mk' (v := .slice (some ⟨W.heap.size, 0, none⟩) (64 * n) (64 * n)) (n := 64 * n) (base := W.heap.size) ?_ W.heap.size rfl (zeroS_size _).symm ?_ (by omega)
  · exact HOW.out.alloc _
  · exact heap_alloc_new w1 _
end Go.Proofs.YtkjknbjjchdjlaaGreatDoor
namespace Go.Proofs.YtkjknbjjchdjlaaGreatDoor
open Go.RowKit
def dgS : Nat → ByteArray | 0 => ⟨#[48]⟩ | _ => ⟨#[49]⟩
def sgS (k : Nat) : ByteArray := ⟨#[105, 100, 115, 104, 105, 102, 116]⟩ ++ dgS k
set_option maxRecDepth 100000 in
set_option maxHeartbeats 1000000 in
theorem small_any (k : Nat) (hk : k < 2) (w : World) : Calls Tryz.prog 109 #[.int .i64 k] w fun e w' => e = .returned (.string (dgS k)) ∧ w = w' := by
  have : k = 0 ∨ k = 1 := by omega
  rcases this with rfl | rfl
  · go_enter Tryz.func109, Tryz.ntmps109
    go_wp2
    go_ret
    exact ⟨rfl, rfl⟩
  · go_enter Tryz.func109, Tryz.ntmps109
    go_wp2
    go_ret
    exact ⟨rfl, rfl⟩
set_option maxRecDepth 100000 in
set_option maxHeartbeats 1000000 in
theorem fmtInt_any (k : Nat) (hk : k < 2) (w : World) : Calls Tryz.prog 94 #[.int .i64 k, .int .i64 10] w fun e w' => e = .returned (.string (dgS k)) ∧ w = w' := by
  have C := small_any k hk w
  have b1 : decide ((0 : Int) ≤ (k : Int)) = true := decide_eq_true (by omega)
  have b2 : decide ((k : Int) < 100) = true := decide_eq_true (by omega)
  go_enter Tryz.func94, Tryz.ntmps94
  go_wp2_with fail
  refine C.mono ?_
  rintro e w' ⟨rfl, rfl⟩
  go_wp2
  go_ret
  exact ⟨rfl, rfl⟩
set_option maxRecDepth 100000 in
set_option maxHeartbeats 1000000 in
theorem iitoa_any (k : Nat) (hk : k < 2) (w : World) : Calls Tryz.prog 74 #[.int .i64 k] w fun e w' => e = .returned (.string (dgS k)) ∧ w = w' := by
  have C := fmtInt_any k hk w
  go_enter Tryz.func74, Tryz.ntmps74
  go_wp2_with fail
  refine C.mono ?_
  rintro e w' ⟨rfl, rfl⟩
  go_wp2
  go_ret
  exact ⟨rfl, rfl⟩
set_option maxRecDepth 100000 in
set_option maxHeartbeats 1000000 in
theorem sitoa_any (k : Nat) (hk : k < 2) (w : World) : Calls Tryz.prog 57 #[.int .i64 k] w fun e w' => e = .returned (.string (dgS k)) ∧ w = w' := by
  have C := iitoa_any k hk w
  go_enter Tryz.func57, Tryz.ntmps57
  go_wp2_with fail
  refine C.mono ?_
  rintro e w' ⟨rfl, rfl⟩
  go_wp2
  go_ret
  exact ⟨rfl, rfl⟩
set_option maxRecDepth 100000 in
set_option maxHeartbeats 1000000 in
theorem signOf_any (k : Nat) (hk : k < 2) (w : World) : Calls Tryz.prog 33 #[.int .i64 k] w fun e w' => e = .returned (.string (sgS k)) ∧ w = w' := by
  have C := sitoa_any k hk w
  have hz : (dgS k).size = 1 := by
    have : k = 0 ∨ k = 1 := by omega
    rcases this with rfl | rfl <;> rfl
  go_enter Tryz.func33, Tryz.ntmps33
  go_wp2_with fail
  refine C.mono ?_
  rintro e w' ⟨rfl, rfl⟩
  go_wp2
  go_ret
  exact ⟨rfl, rfl⟩
set_option maxRecDepth 100000 in
set_option maxHeartbeats 1000000 in
theorem slHas_zero (n : Nat) (hn : 8 ≤ n) (hn2 : n ≤ 1000000) (k : Nat) (hk : k < 2) (w : World) : Calls Tryz.prog 56 #[.string (zeroS n), .string (sgS k)] w fun e w' => e = .returned (.bool false) ∧ w = w' := by
  have hs : (zeroS n).size = n := zeroS_size n
  have hp : (sgS k).size = 8 := by
    have : k = 0 ∨ k = 1 := by omega
    rcases this with rfl | rfl <;> rfl
  have b1 : decide (((sgS k).size : Int) ≤ ((zeroS n).size : Int)) = true := decide_eq_true (by omega)
  have hx : (((zeroS n).extract 0 8).toList == (sgS k).toList) = false := by
    have h0 : ((zeroS n).extract 0 8).toList = List.replicate 8 0 := by
      rw [Lib.toList_data]
      simp [zeroS, ByteArray.data_extract]
      rw [Nat.min_eq_left hn]; rfl
    rw [h0, Lib.toList_data]
    have : k = 0 ∨ k = 1 := by omega
    rcases this with rfl | rfl <;> rfl
  go_enter Tryz.func56, Tryz.ntmps56
  go_wp2
  go_ret
  exact ⟨rfl, rfl⟩
set_option maxRecDepth 100000 in
set_option maxHeartbeats 1000000 in
theorem has_zero (n : Nat) (hn : 8 ≤ n) (hn2 : n ≤ 1000000) (k : Nat) (hk : k < 2) (w : World) : Calls Tryz.prog 32 #[.string (zeroS n), .string (sgS k)] w fun e w' => e = .returned (.bool false) ∧ w = w' := by
  have C := slHas_zero n hn hn2 k hk w
  go_enter Tryz.func32, Tryz.ntmps32
  go_wp2_with fail
  refine C.mono ?_
  rintro e w' ⟨rfl, rfl⟩
  go_wp2
  go_ret
  exact ⟨rfl, rfl⟩
set_option maxRecDepth 100000 in
set_option maxHeartbeats 1000000 in
theorem standing_zero (n : Nat) (hn : 8 ≤ n) (hn2 : n ≤ 1000000) (w : World) : Calls Tryz.prog 15 #[.string (zeroS n)] w fun e w' => e = .returned (.tuple #[.int .i64 0, .bool false]) ∧ w = w' := by
  have C1 : Hid (∀ k : Nat, k < 2 → Calls Tryz.prog 33 #[.int .i64 k] w fun e w' => e = .returned (.string (sgS k)) ∧ w = w') := fun k hk => signOf_any k hk w
  have C2 : Hid (∀ k : Nat, k < 2 → Calls Tryz.prog 32 #[.string (zeroS n), .string (sgS k)] w fun e w' => e = .returned (.bool false) ∧ w = w') := fun k hk => has_zero n hn hn2 k hk w
  go_enter Tryz.func15, Tryz.ntmps15
  go_wp2
  go_loop [4, 5, 7, 8, 9, 10, 11] (fun _ i _ _ _ _ _ => ∃ k : Nat, k ≤ 2 ∧ i = .int .i64 k) (fun _ i _ _ _ _ _ => 2 - (intOf i).toNat)
  case atStart => exact ⟨0, by omega, rfl⟩
  case round =>
    obtain ⟨k, hk, rfl⟩ := hrel
    by_cases hlt : k < 2
    · have c1 := C1.out k hlt
      have c2 := C2.out k hlt
      have d1 : decide ((k : Int) < 2) = true := decide_eq_true (by omega)
      go_wp2_with fail
      refine c1.mono ?_
      rintro e w' ⟨rfl, rfl⟩
      go_wp2_with fail
      refine c2.mono ?_
      rintro e w' ⟨rfl, rfl⟩
      go_wp2
      go_round
      case rel => exact ⟨k + 1, by omega, by go_num⟩
      case measure => simp [intOf]; omega
    · have d1 : decide ((k : Int) < 2) = false := decide_eq_false (by omega)
      go_wp2
      go_ret2
      exact ⟨rfl, rfl⟩
set_option maxRecDepth 100000 in
set_option maxHeartbeats 1000000 in
theorem headAt_any (k : Nat) (hk : k < 2) (w : World) : Calls Tryz.prog 35 #[.int .i64 k] w fun e w' => e = .returned (.int .i64 (64 + k * 64)) ∧ w = w' := by
  go_enter Tryz.func35, Tryz.ntmps35
  go_wp2
  go_ret
  exact ⟨rfl, rfl⟩
set_option maxRecDepth 100000 in
set_option maxHeartbeats 1000000 in
theorem lowRec_any (k : Nat) (hk : k < 20) (w : World) : Calls Tryz.prog 52 #[.int .i64 k] w fun e w' => e = .returned (.int .i64 (192 + k * 1216)) ∧ w = w' := by
  go_enter Tryz.func52, Tryz.ntmps52
  go_wp2
  go_ret
  exact ⟨rfl, rfl⟩
set_option maxRecDepth 100000 in
set_option maxHeartbeats 1000000 in
theorem boxRec_any (w : World) : Calls Tryz.prog 27 #[.int .i64 0] w fun e w' => e = .returned (.int .i64 6272) ∧ w = w' := by
  have C := lowRec_any 5 (by omega) w
  go_enter Tryz.func27, Tryz.ntmps27
  go_wp2_with fail
  refine Calls.mono C ?_
  rintro e w' ⟨rfl, rfl⟩
  go_wp2
  go_ret
  exact ⟨rfl, rfl⟩
set_option maxRecDepth 100000 in
set_option maxHeartbeats 1000000 in
theorem boxBl_any (w : World) : Calls Tryz.prog 23 #[.int .i64 4] w fun e w' => e = .returned (.int .i64 10) ∧ w = w' := by
  go_enter Tryz.func23, Tryz.ntmps23
  go_wp2
  go_ret
  exact ⟨rfl, rfl⟩
end Go.Proofs.YtkjknbjjchdjlaaGreatDoor
namespace Go.Proofs.YtkjknbjjchdjlaaGreatDoor
open Go.RowKit
/-- A host's own cells. -/
abbrev hoC (db side : Nat) (g : Value) : Array Value := #[.pointer (some ⟨db, 0, none⟩), .bool false, .int .i64 side, .pointer none, .pointer none, .pointer none, .pointer none, .pointer none, g, .pointer none, .pointer none, .pointer none, .pointer none]
structure HK (w : World) (hb db rb cap n side m : Nat) (g : Value) : Prop where
  box : w.heap[hb]? = some (.cells (hoC db side g) 60 (0, 0))
  disk : ∃ c, KB w db rb cap c ∧ c.s.size = 64 * n ∧ c.cut = -1 ∧ c.off = false ∧ 0 ≤ c.wr ∧ c.wr ≤ m
  ne : hb ≠ db ∧ hb ≠ rb
  sd : side < 2
  nn : n ≤ 2000
theorem HK.lt {w : World} {hb db rb cap n side m : Nat} {g : Value} (h : HK w hb db rb cap n side m g) : hb < w.heap.size ∧ db < w.heap.size ∧ rb < w.heap.size := by
  obtain ⟨c, hc, _⟩ := h.disk
  exact ⟨lt_of_heap h.box, hc.lt⟩
theorem HK.mv {S : Nat → Prop} {w w' : World} {hb db rb cap n side m : Nat} {g : Value} (h : HK w hb db rb cap n side m g) (hm : Mv S w w') (h0 : ¬ S hb) (h1 : ¬ S db) (h2 : ¬ S rb) : HK w' hb db rb cap n side m g := by
  obtain ⟨c, hc, q⟩ := h.disk
  exact ⟨(hm.block hb h.lt.1 h0).trans h.box, ⟨c, hc.mv hm h1 h2, q⟩, h.ne, h.sd, h.nn⟩
theorem HK.below {w w' : World} {hb db rb cap n side m : Nat} {g : Value} (h : HK w hb db rb cap n side m g) (hm : Below w.heap.size w w') : HK w' hb db rb cap n side m g :=
  h.mv (S := fun _ => False) (Mv.of hm) (fun e => e) (fun e => e) (fun e => e)
set_option maxRecDepth 100000 in
set_option maxHeartbeats 1000000 in
theorem usable_any {w : World} {db rb cap n : Nat} {c : Dk} (h : KB w db rb cap c) (hs : c.s.size = 64 * n) (ho : c.off = false) (h2 : 200 ≤ n) : Calls Tryz.prog 13 #[.pointer (some ⟨db, 0, none⟩)] w fun e w' => e = .returned .nilIface ∧ w = w' := by
  have C1 := kpower_any h
  rw [ho] at C1
  have C2 := kblocks_any h n hs
  have d1 : decide ((n : Int) < 200) = false := decide_eq_false (by omega)
  go_enter Tryz.func13, Tryz.ntmps13
  go_wp2_with fail
  refine Calls.mono C1 ?_
  rintro e w' ⟨rfl, rfl⟩
  go_wp2_with fail
  refine Calls.mono C2 ?_
  rintro e w' ⟨rfl, rfl⟩
  go_wp2
  go_ret
  exact ⟨rfl, rfl⟩
set_option maxRecDepth 100000 in
set_option maxHeartbeats 1000000 in
theorem hoff_any {w : World} {hb db rb cap n side m : Nat} {g : Value} (h : HK w hb db rb cap n side m g) : Calls Tryz.prog 18 #[.pointer (some ⟨hb, 0, none⟩)] w fun e w' => e = .returned (.bool false) ∧ w = w' := by
  obtain ⟨c, hc, _, _, ho, _⟩ := h.disk
  have C1 := kpower_any hc
  rw [ho] at C1
  have c0 := cell_of_heap (i := 0) h.box rfl
  have c1 := cell_of_heap (i := 1) h.box rfl
  go_enter Tryz.func18, Tryz.ntmps18
  go_wp2_with fail
  refine Calls.mono C1 ?_
  rintro e w' ⟨rfl, rfl⟩
  go_wp2
  go_ret
  exact ⟨rfl, rfl⟩
set_option maxRecDepth 100000 in
set_option maxHeartbeats 1000000 in
theorem hwrite_any {w : World} {hb db rb cap n side m : Nat} {g : Value} (h : HK w hb db rb cap n side m g) (p : Nat) (t : ByteArray) (ht : t.size ≤ 1000) (hp : p + t.size ≤ 64 * n) (hm : m ≤ 100000) :
    Calls Tryz.prog 39 #[.pointer (some ⟨hb, 0, none⟩), .int .i64 p, .string t] w fun e w' => e = .returned .nilIface ∧ Mv (fun b => b = db ∨ b = rb) w w' ∧ HK w' hb db rb cap n side (m + t.size) g := by
  have HH : Hid (HK w hb db rb cap n side m g) := h
  obtain ⟨c, hc, q1, q2, q3, q4, q5⟩ := h.disk
  have hnn := h.nn
  have hck : ckF c.off c.s.size p t.size = 0 := by unfold ckF; rw [q3, if_neg (by decide), if_neg (by omega)]
  have hsp : spN c.cut t.size = t.size := by unfold spN; rw [q2, if_pos (by decide)]
  have hF : wrF c p t = 0 := by unfold wrF; rw [if_pos hck, hsp, if_neg (by omega)]
  have hD : wrD c p t = ⟨wrS c.s p t t.size, spC c.cut t.size, c.wr + t.size, decide ((t.size : Int) < t.size)⟩ := by
    unfold wrD; rw [if_pos hck, hsp]; simp
  have C1 := kwrite_any hc p t (by omega) (by omega) ht (by omega) (by omega)
  rw [hF] at C1
  have C1 : Hid (Calls Tryz.prog 65 #[.pointer (some ⟨db, 0, none⟩), .int .i64 p, .string t] w fun e w' => e = .returned .nilIface ∧ Mv (fun b => b = db ∨ b = rb) w w' ∧ KB w' db rb cap (wrD c p t)) := C1
  have c0 := cell_of_heap (i := 0) h.box rfl
  clear h hF hck hsp
  go_enter Tryz.func39, Tryz.ntmps39
  go_wp2_with fail
  refine Calls.mono C1.out ?_
  rintro e w' ⟨rfl, M, K⟩
  go_wp2
  go_ret
  refine ⟨rfl, M, ⟨(M.block hb HH.out.lt.1 (by have := HH.out.ne; omega)).trans HH.out.box, ⟨_, K, ?_⟩, HH.out.ne, HH.out.sd, HH.out.nn⟩⟩
  rw [hD]
  refine ⟨?_, ?_, ?_, ?_, ?_⟩
  · show (wrS _ _ _ _).size = _
    rw [wrS_size _ _ _ _ (by omega) (by omega)]; exact q1
  · show spC c.cut t.size = -1
    unfold spC; rw [q2, if_pos (by decide)]
  · show decide _ = false
    simp
  · show 0 ≤ c.wr + t.size
    omega
  · show c.wr + t.size ≤ ((m + t.size : Nat) : Int)
    omega
end Go.Proofs.YtkjknbjjchdjlaaGreatDoor
