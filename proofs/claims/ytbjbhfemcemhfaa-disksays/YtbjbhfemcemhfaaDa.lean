/-
  DISKS: what both answer, and what both hold in memory: no walk.
-/
import Derived.Test.YtbjbhfemcemhfaaAp
import Derived.Test.YtbjbhfemcemhfaaQa
import Derived.Lib.BufferWrite
import Derived.Lib.SlBytesRow
import Derived.Deep.RegionHeld3
import Derived.Deep.QuietTactic
import Derived.BigQuiet
import Derived.Deep.Cut
namespace Go.Proofs.Ytbjbhfemcemhfaa
open Go.RowKit

def kerrV (n : Int) : Value := if n = 0 then .nilIface else .iface 47 (.int .i64 n)
theorem kerrV_of {n : Int} (h : n ≠ 0) : kerrV n = .iface 47 (.int .i64 n) := if_neg h
/-- Is there power, and are there so many bytes? -/
def ckF (off : Bool) (sz : Nat) (p n : Int) : Int := if off = true then 16 else if p < 0 ∨ n < 0 ∨ (sz : Int) - p < n then 1 else 0
/-- For how many bytes does power last? -/
def spN (cut n : Int) : Int := if cut < 0 then n else min n cut
def spC (cut n : Int) : Int := if cut < 0 then cut else cut - min n cut
/-- The bytes behind a write of k of t's. -/
def wrS (s : ByteArray) (p : Nat) (t : ByteArray) (k : Nat) : ByteArray := s.extract 0 p ++ t.extract 0 k ++ s.extract (p + k) s.size
/-- A disk. -/
structure Dk where
  s : ByteArray
  cut : Int
  wr : Int
  off : Bool
def wrF (c : Dk) (p : Int) (t : ByteArray) : Int := if ckF c.off c.s.size p t.size = 0 then (if spN c.cut t.size < t.size then 16 else 0) else ckF c.off c.s.size p t.size
def wrD (c : Dk) (p : Int) (t : ByteArray) : Dk :=
  if ckF c.off c.s.size p t.size = 0 then ⟨wrS c.s p.toNat t (spN c.cut t.size).toNat, spC c.cut t.size, c.wr + spN c.cut t.size, decide (spN c.cut t.size < t.size)⟩ else c
def ctF (off : Bool) (n : Int) : Int := if off = true then 16 else if n < 0 then 1 else 0
def ctD (c : Dk) (n : Int) : Dk := if ctF c.off n = 0 then ⟨c.s, n, c.wr, c.off⟩ else c
def onD (c : Dk) : Dk := ⟨c.s, -1, c.wr, false⟩
theorem spN_bd (cut : Int) (n : Nat) (_h : -1 ≤ cut) : 0 ≤ spN cut n ∧ spN cut n ≤ n := by
  unfold spN; split <;> omega
theorem wrS_size (s : ByteArray) (p : Nat) (t : ByteArray) (k : Nat) (hk : k ≤ t.size) (hp : p + k ≤ s.size) : (wrS s p t k).size = s.size := by
  simp [wrS, ByteArray.size_extract]; omega
theorem wrS_list (s : ByteArray) (p : Nat) (t : ByteArray) (k : Nat) : (wrS s p t k).data.toList = s.data.toList.take p ++ t.data.toList.take k ++ s.data.toList.drop (p + k) := by
  have hl : s.data.toList.length = s.size := by simp
  simp [wrS, ByteArray.data_extract, ByteArray.data_append]
  try (rw [List.take_of_length_le (by simp)])
/-- What is so of a disk all the time. -/
structure DkOk (c : Dk) (n : Nat) (m : Int) : Prop where
  sz : c.s.size = n
  cut : -1 ≤ c.cut ∧ c.cut ≤ 9223372036854775807
  wr : 0 ≤ c.wr ∧ c.wr ≤ m
theorem ck_zero {off : Bool} {sz : Nat} {p n : Int} (h : ckF off sz p n = 0) : off = false ∧ 0 ≤ p ∧ 0 ≤ n ∧ p + n ≤ sz := by
  unfold ckF at h
  split at h
  · omega
  · split at h
    · omega
    · rename_i h1 h2
      exact ⟨by simpa using h1, by omega, by omega, by omega⟩
theorem wrD_ok {c : Dk} {n : Nat} {m : Int} (h : DkOk c n m) (p : Int) (t : ByteArray) (k : Nat) (ht : t.size ≤ k) : DkOk (wrD c p t) n (m + k) := by
  obtain ⟨h1, h2, h3⟩ := h
  unfold wrD
  split
  · rename_i h0
    obtain ⟨_, q1, _, q3⟩ := ck_zero h0
    have hb := spN_bd c.cut t.size h2.1
    refine ⟨?_, ?_, ?_⟩
    · show (wrS _ _ _ _).size = _
      rw [wrS_size _ _ _ _ (by omega) (by omega)]; exact h1
    · show -1 ≤ spC c.cut t.size ∧ spC c.cut t.size ≤ _
      unfold spC; split <;> omega
    · show 0 ≤ c.wr + spN c.cut t.size ∧ c.wr + spN c.cut t.size ≤ _
      omega
  · exact ⟨h1, h2, by omega⟩
theorem ctD_ok {c : Dk} {n : Nat} {m : Int} (h : DkOk c n m) (x : Int) (hx : x ≤ 9223372036854775807) : DkOk (ctD c x) n m := by
  obtain ⟨h1, h2, h3⟩ := h
  unfold ctD
  split
  · rename_i h0
    refine ⟨h1, ?_, h3⟩
    show -1 ≤ x ∧ x ≤ _
    unfold ctF at h0
    split at h0
    · omega
    · split at h0 <;> omega
  · exact ⟨h1, h2, h3⟩
theorem onD_ok {c : Dk} {n : Nat} {m : Int} (h : DkOk c n m) : DkOk (onD c) n m := ⟨h.sz, ⟨by show (-1 : Int) ≤ -1; decide, by show (-1 : Int) ≤ 9223372036854775807; decide⟩, h.wr⟩
theorem DkOk.mono {c : Dk} {n : Nat} {m m' : Int} (h : DkOk c n m) (hm : m ≤ m') : DkOk c n m' := ⟨h.sz, h.cut, by have := h.wr; omega⟩

/-- The program's disk in memory. -/
structure KB (w : World) (db rb cap : Nat) (c : Dk) : Prop where
  box : w.heap[db]? = some (.cells #[.slice (some ⟨rb, 0, none⟩) c.s.size cap, .int .i64 c.cut, .int .i64 c.wr, .bool c.off] 49 (0, 0))
  row : ∃ cur, w.heap[rb]? = some (.cells cur 5 (0, 0)) ∧ cur.size = cap ∧ cur.toList.take c.s.size = Lib.byteCells c.s.data.toList
  le : c.s.size ≤ cap
  hi : cap ≤ maxLen
  ne : db ≠ rb
/-- The document's. -/
structure RB (w : World) (qb : Nat) (c : Dk) : Prop where
  box : w.heap[qb]? = some (.cells #[.string c.s, .int .i64 c.cut, .bool c.off, .int .i64 c.wr] 33 (0, 0))
theorem lt_of_heap {w : World} {b : Nat} {o : Obj} (h : w.heap[b]? = some o) : b < w.heap.size := by
  by_cases hb : b < w.heap.size
  · exact hb
  · rw [Array.getElem?_eq_none (by omega)] at h; cases h
theorem cell_of_heap {w : World} {b i : Nat} {cs : Array Value} {t : TypeId} {v : Value} (h : w.heap[b]? = some (.cells cs t (0, 0))) (hi : cs[i]? = some v) : w.cell? ⟨b, i, none⟩ = some v := by
  simp [World.cell?, h, hi]
theorem frozen_of_heap {w : World} {b : Nat} {cs : Array Value} {t : TypeId} (h : w.heap[b]? = some (.cells cs t (0, 0))) (i : Nat) : w.frozen? ⟨b, i, none⟩ = false := by
  simp [World.frozen?, h]
theorem KB.lt {w : World} {db rb cap : Nat} {c : Dk} (h : KB w db rb cap c) : db < w.heap.size ∧ rb < w.heap.size := by
  obtain ⟨cur, h1, _⟩ := h.row
  exact ⟨lt_of_heap h.box, lt_of_heap h1⟩
theorem KB.cells {w : World} {db rb cap : Nat} {c : Dk} (h : KB w db rb cap c) :
    w.cell? ⟨db, 0, none⟩ = some (.slice (some ⟨rb, 0, none⟩) c.s.size cap) ∧ w.cell? ⟨db, 1, none⟩ = some (.int .i64 c.cut) ∧ w.cell? ⟨db, 2, none⟩ = some (.int .i64 c.wr) ∧ w.cell? ⟨db, 3, none⟩ = some (.bool c.off) ∧
      w.frozen? ⟨db, 0, none⟩ = false ∧ w.frozen? ⟨db, 1, none⟩ = false ∧ w.frozen? ⟨db, 2, none⟩ = false ∧ w.frozen? ⟨db, 3, none⟩ = false :=
  ⟨cell_of_heap h.box rfl, cell_of_heap h.box rfl, cell_of_heap h.box rfl, cell_of_heap h.box rfl, frozen_of_heap h.box _, frozen_of_heap h.box _, frozen_of_heap h.box _, frozen_of_heap h.box _⟩
theorem RB.cells {w : World} {qb : Nat} {c : Dk} (h : RB w qb c) :
    w.cell? ⟨qb, 0, none⟩ = some (.string c.s) ∧ w.cell? ⟨qb, 1, none⟩ = some (.int .i64 c.cut) ∧ w.cell? ⟨qb, 2, none⟩ = some (.bool c.off) ∧ w.cell? ⟨qb, 3, none⟩ = some (.int .i64 c.wr) ∧
      w.frozen? ⟨qb, 0, none⟩ = false ∧ w.frozen? ⟨qb, 1, none⟩ = false ∧ w.frozen? ⟨qb, 2, none⟩ = false ∧ w.frozen? ⟨qb, 3, none⟩ = false :=
  ⟨cell_of_heap h.box rfl, cell_of_heap h.box rfl, cell_of_heap h.box rfl, cell_of_heap h.box rfl, frozen_of_heap h.box _, frozen_of_heap h.box _, frozen_of_heap h.box _, frozen_of_heap h.box _⟩
theorem KB.bytes {w : World} {db rb cap : Nat} {c : Dk} (h : KB w db rb cap c) : Lib.Bytes w rb 0 c.s := by
  obtain ⟨cur, h1, h2, h3⟩ := h.row
  intro i hi
  rw [Nat.zero_add]
  refine cell_of_heap h1 ?_
  have hl : c.s.data.toList.length = c.s.size := by simp
  have : (cur.toList.take c.s.size)[i]? = some (.int .u8 (c.s[i].toNat : Int)) := by
    rw [h3, Lib.byteCells, List.getElem?_map]
    rw [List.getElem?_eq_getElem (by omega)]
    rfl
  rw [List.getElem?_take_of_lt hi] at this
  simpa using this
theorem KB.mv {S : Nat → Prop} {w w' : World} {db rb cap : Nat} {c : Dk} (h : KB w db rb cap c) (hb : Mv S w w') (h1 : ¬ S db) (h2 : ¬ S rb) : KB w' db rb cap c := by
  obtain ⟨l1, l2⟩ := h.lt
  obtain ⟨cur, g1, g2, g3⟩ := h.row
  exact ⟨(hb.block db l1 h1).trans h.box, ⟨cur, (hb.block rb l2 h2).trans g1, g2, g3⟩, h.le, h.hi, h.ne⟩
theorem RB.lt {w : World} {qb : Nat} {c : Dk} (h : RB w qb c) : qb < w.heap.size := lt_of_heap h.box
theorem RB.mv {S : Nat → Prop} {w w' : World} {qb : Nat} {c : Dk} (h : RB w qb c) (hb : Mv S w w') (h1 : ¬ S qb) : RB w' qb c := ⟨(hb.block qb h.lt h1).trans h.box⟩
theorem KB.set1 {w : World} {db rb cap : Nat} {c : Dk} (h : KB w db rb cap c) (x : Int) : KB (w.setCell ⟨db, 1, none⟩ (.int .i64 x)) db rb cap ⟨c.s, x, c.wr, c.off⟩ := by
  obtain ⟨cur, g1, g2, g3⟩ := h.row
  exact ⟨Lib.heap_setCell_same (i := 1) h.box _, ⟨cur, (heap_setCell_other _ _ _ _ (fun e => h.ne e.symm)).trans g1, g2, g3⟩, h.le, h.hi, h.ne⟩
theorem KB.set2 {w : World} {db rb cap : Nat} {c : Dk} (h : KB w db rb cap c) (x : Int) : KB (w.setCell ⟨db, 2, none⟩ (.int .i64 x)) db rb cap ⟨c.s, c.cut, x, c.off⟩ := by
  obtain ⟨cur, g1, g2, g3⟩ := h.row
  exact ⟨Lib.heap_setCell_same (i := 2) h.box _, ⟨cur, (heap_setCell_other _ _ _ _ (fun e => h.ne e.symm)).trans g1, g2, g3⟩, h.le, h.hi, h.ne⟩
theorem KB.set3 {w : World} {db rb cap : Nat} {c : Dk} (h : KB w db rb cap c) (x : Bool) : KB (w.setCell ⟨db, 3, none⟩ (.bool x)) db rb cap ⟨c.s, c.cut, c.wr, x⟩ := by
  obtain ⟨cur, g1, g2, g3⟩ := h.row
  exact ⟨Lib.heap_setCell_same (i := 3) h.box _, ⟨cur, (heap_setCell_other _ _ _ _ (fun e => h.ne e.symm)).trans g1, g2, g3⟩, h.le, h.hi, h.ne⟩
theorem RB.set0 {w : World} {qb : Nat} {c : Dk} (h : RB w qb c) (x : ByteArray) : RB (w.setCell ⟨qb, 0, none⟩ (.string x)) qb ⟨x, c.cut, c.wr, c.off⟩ := ⟨Lib.heap_setCell_same (i := 0) h.box _⟩
theorem RB.set1 {w : World} {qb : Nat} {c : Dk} (h : RB w qb c) (x : Int) : RB (w.setCell ⟨qb, 1, none⟩ (.int .i64 x)) qb ⟨c.s, x, c.wr, c.off⟩ := ⟨Lib.heap_setCell_same (i := 1) h.box _⟩
theorem RB.set2 {w : World} {qb : Nat} {c : Dk} (h : RB w qb c) (x : Bool) : RB (w.setCell ⟨qb, 2, none⟩ (.bool x)) qb ⟨c.s, c.cut, c.wr, x⟩ := ⟨Lib.heap_setCell_same (i := 2) h.box _⟩
theorem RB.set3 {w : World} {qb : Nat} {c : Dk} (h : RB w qb c) (x : Int) : RB (w.setCell ⟨qb, 3, none⟩ (.int .i64 x)) qb ⟨c.s, c.cut, x, c.off⟩ := ⟨Lib.heap_setCell_same (i := 3) h.box _⟩
theorem heap_setRow_other (w : World) (g k : Nat) (cs : Array Value) (h : k ≠ g) : (w.setRow g cs).heap[k]? = w.heap[k]? := by
  simp [World.setRow, Array.getElem?_modify]
  intro e
  exact absurd e.symm h
/-- Bytes are copied into the row. -/
theorem KB.copied {w : World} {db rb cap : Nat} {c : Dk} (h : KB w db rb cap c) (p : Nat) (t : ByteArray) (k : Nat) (hk : k ≤ t.size) (hp : p + k ≤ c.s.size) :
    ∃ w', (∀ (ty : TypeId) (n : Nat), k ≤ n → (Builtin.copy_ #[31, 9] ty #[.slice (some ⟨rb, p, none⟩) n (cap - p), .string (t.extract 0 k)]).run Try.prog w = .ok (.int .i64 k) w') ∧ KB w' db rb cap ⟨wrS c.s p t k, c.cut, c.wr, c.off⟩ ∧ Mv (fun b => b = rb) w w' := by
  obtain ⟨cur, g1, g2, g3⟩ := h.row
  have hle := h.le
  have hsz : (t.extract 0 k).size = k := by simp [ByteArray.size_extract]; omega
  have hcl : cur.toList.length = cap := by simpa using g2
  refine ⟨w.setRow rb (cur.toList.take p ++ Lib.byteCells (t.extract 0 k).data.toList ++ cur.toList.drop (p + (t.extract 0 k).size)).toArray, fun ty n hn => ?_, ⟨?_, ⟨_, setRow_heap w rb cur _ 5 _ g1, ?_, ?_⟩, ?_, h.hi, h.ne⟩, ?_⟩
  · have := Lib.run_copy_row_string (P := Try.prog) w 31 9 ty 5 rb p n (cap - p) (t.extract 0 k) cur 5 Try.underlying31 (by kernel_rfl) g1 (by omega) (by omega)
    rw [this, hsz]
    rfl
  · rw [heap_setRow_other _ _ _ _ h.ne, h.box]
    simp only [wrS_size c.s p t k hk hp]
  · simp [Lib.byteCells]; omega
  · show List.take (wrS c.s p t k).size _ = Lib.byteCells (wrS c.s p t k).data.toList
    rw [wrS_size c.s p t k hk hp, wrS_list, hsz]
    have hl : c.s.data.toList.length = c.s.size := by simp
    have htl : t.data.toList.length = t.size := by simp
    have e1 : cur.toList.take p = Lib.byteCells (c.s.data.toList.take p) := by
      have := congrArg (List.take p) g3
      rw [List.take_take, Nat.min_eq_left (by omega)] at this
      rw [this, Lib.byteCells, Lib.byteCells, List.map_take]
    have e2 : (cur.toList.drop (p + k)).take (c.s.size - (p + k)) = Lib.byteCells (c.s.data.toList.drop (p + k)) := by
      have := congrArg (List.drop (p + k)) g3
      rw [List.drop_take] at this
      rw [this, Lib.byteCells, Lib.byteCells, List.map_drop]
    have e3 : (t.extract 0 k).data.toList = t.data.toList.take k := by simp [ByteArray.data_extract]
    rw [e3, List.toList_toArray, List.take_append, List.take_of_length_le (by simp [Lib.byteCells]; omega)]
    have e4 : c.s.size - (cur.toList.take p ++ Lib.byteCells (t.data.toList.take k)).length = c.s.size - (p + k) := by
      simp [Lib.byteCells]; omega
    rw [e4, e2, e1]
    simp [Lib.byteCells]
  · show (wrS c.s p t k).size ≤ cap
    rw [wrS_size c.s p t k hk hp]; exact hle
  · exact ⟨rfl, rfl, rfl, by simp [World.setRow], fun b _ hb => heap_setRow_other _ _ _ _ hb⟩
end Go.Proofs.Ytbjbhfemcemhfaa
