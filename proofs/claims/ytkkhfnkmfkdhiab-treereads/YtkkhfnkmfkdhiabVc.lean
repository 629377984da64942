/-
  WHAT lay HOLDS: its row, its box: the facts of no program.
-/
import Derived.Test.YtkkhfnkmfkdhiabVb
import Derived.Test.YtkkhfnkmfkdhiabWa
namespace Go.Proofs.Ytkkhfnkmfkdhiab
open Go.RowKit

mutual
/-- All numbers small. -/
def Sml : Nd → Prop
  | .mk k m u g _ at_ d ks => (0 ≤ k ∧ k ≤ 100) ∧ (0 ≤ m ∧ m ≤ 65535) ∧ (0 ≤ u ∧ u ≤ 65535) ∧ (0 ≤ g ∧ g ≤ 65535) ∧ (at_.length ≤ 1000 ∧ ∀ r ∈ at_, r.n.size ≤ 1000 ∧ r.v.size ≤ 1000) ∧ d.size ≤ 1000 ∧ ks.length ≤ 1000 ∧ SmlL ks
def SmlL : Kds → Prop
  | [] => True
  | p :: l => p.1.size ≤ 1000 ∧ Sml p.2 ∧ SmlL l
end
theorem smlL_get : ∀ {ks : Kds} {i : Nat} {n : ByteArray} {x : Nd}, SmlL ks → ks[i]? = some (n, x) → n.size ≤ 1000 ∧ Sml x
  | [], i, n, x, _, h => by simp at h
  | p :: l, 0, n, x, h, e => by
    rw [SmlL] at h
    simp at e
    subst e
    exact ⟨h.1, h.2.1⟩
  | p :: l, i + 1, n, x, h, e => by
    rw [SmlL] at h
    exact smlL_get h.2.2 (by simpa using e)
structure LS (w0 W wr : World) (v vr : Value) (n : Nat) (xs : List Value) (sb : Nat) (x : Nd) (h : Hd) (pre : List UInt8) : Prop where
  row : wr.ownsRow w0.heap.size 5 1 vr (n + pre.length) (xs ++ bc pre)
  gr : Gr W wr v vr
  box : NBox wr sb x h
  ne : some sb ≠ vr.ownBlock
  low : Below w0.heap.size w0 wr
theorem NBox.gr {w w' : World} {v v' : Value} {sb : Nat} {x : Nd} {h : Hd} (hb : NBox w sb x h) (hg : Gr w w' v v') (hne : some sb ≠ v.ownBlock) : NBox w' sb x h := by
  have hlt := hb.lt
  obtain ⟨k, m, u, g, o, at_, d, ks⟩ := x
  have q : ∀ j, w'.cell? ⟨sb, j, none⟩ = w.cell? ⟨sb, j, none⟩ := fun j => World.cell?_of_block (w := w) (hg.g.block sb hlt hne)
  obtain ⟨e0, e1, e2, e3, e4, e5, e6, e7⟩ := hb
  exact ⟨(q 0).trans e0, (q 1).trans e1, (q 2).trans e2, (q 3).trans e3, (q 4).trans e4, (q 5).trans e5, (q 6).trans e6, (q 7).trans e7⟩
theorem gr_ne {w w' : World} {v v' : Value} {sb : Nat} (hg : Gr w w' v v') (hlt : sb < w.heap.size) (hne : some sb ≠ v.ownBlock) : some sb ≠ v'.ownBlock := by
  rcases hg.o with e | ⟨s, e, hs⟩
  · rw [e]; exact hne
  · rw [e]; intro q
    have : sb = s := by simpa using q
    omega
theorem LS.app {w0 W wr w' : World} {v vr v' : Value} {n : Nat} {xs : List Value} {sb : Nat} {x : Nd} {h : Hd} {pre : List UInt8} (H : LS w0 W wr v vr n xs sb x h pre) (hg : Gr wr w' vr v') (piece : List UInt8) {q : Nat} (hrow : w'.ownsRow w0.heap.size 5 1 v' q (xs ++ (bc pre ++ bc piece))) (hq : q = n + pre.length + piece.length) : LS w0 W w' v v' n xs sb x h (pre ++ piece) := by
  refine ⟨?_, H.gr.trans hg, H.box.gr hg H.ne, gr_ne hg H.box.lt H.ne, ?_⟩
  · rw [List.length_append, bc_append, ← Nat.add_assoc, ← hq]; exact hrow
  · exact H.low.grown hg.g H.low.size (fun q e => (H.row.lt q e).1)
theorem LS.alloc {w0 W wr : World} {v vr : Value} {n : Nat} {xs : List Value} {sb : Nat} {x : Nd} {h : Hd} {pre : List UInt8} (H : LS w0 W wr v vr n xs sb x h pre) (o : Obj) : LS w0 W (wr.alloc o) v vr n xs sb x h pre := by
  have b : Below wr.heap.size wr (wr.alloc o) := (Below.refl _ _).alloc (Nat.le_refl _) o
  exact ⟨H.row.alloc _, H.gr.trans ⟨⟨b.os, b.tape, b.output, b.size, fun q hq _ => b.block q hq⟩, .inl rfl⟩, H.box.below b, H.ne, H.low.trans (b.mono H.low.size)⟩
theorem LS.drew {w0 W wr : World} {v vr : Value} {n : Nat} {xs : List Value} {sb : Nat} {x : Nd} {h : Hd} {pre : List UInt8} (H : LS w0 W wr v vr n xs sb x h pre) : LS w0 W wr.drew v vr n xs sb x h pre := by
  have b : Below wr.heap.size wr wr.drew := below_drewN (Below.refl _ wr) 1
  exact ⟨H.row.drew, H.gr.trans ⟨⟨b.os, b.tape, b.output, b.size, fun q hq _ => b.block q hq⟩, .inl rfl⟩, H.box.below b, H.ne, H.low.trans (b.mono H.low.size)⟩
theorem LS.start {w0 W : World} {v : Value} {n : Nat} {xs : List Value} (hW : Below w0.heap.size w0 W) (hrow : W.ownsRow w0.heap.size 5 1 v n xs) (k m u g : Int) (o : Bool) (at_ : List Kv) (d : ByteArray) (ks : Kds) (h : Hd) :
    LS w0 W (W.alloc (.cells #[.int .i64 k, .int .i64 m, .int .i64 u, .int .i64 g, .bool o, .slice h.aa at_.length h.ca, .string d, .slice h.ak ks.length h.ck] 25)) v v n xs W.heap.size (.mk k m u g o at_ d ks) h [] := by
  have b : Below W.heap.size W (W.alloc (.cells #[.int .i64 k, .int .i64 m, .int .i64 u, .int .i64 g, .bool o, .slice h.aa at_.length h.ca, .string d, .slice h.ak ks.length h.ck] 25)) := (Below.refl _ _).alloc (Nat.le_refl _) _
  refine ⟨?_, ⟨⟨b.os, b.tape, b.output, b.size, fun q hq _ => b.block q hq⟩, .inl rfl⟩, NBox.new W k m u g o at_ d ks h, ?_, hW.trans (b.mono hW.size)⟩
  · have := hrow.alloc (.cells #[.int .i64 k, .int .i64 m, .int .i64 u, .int .i64 g, .bool o, .slice h.aa at_.length h.ca, .string d, .slice h.ak ks.length h.ck] 25)
    rw [show bc [] = [] from rfl, List.append_nil]
    exact this
  · intro e
    have := (hrow.lt _ e.symm).2
    omega
theorem one_byteR (w : World) (z : Int) (t : TypeId) (hz : 0 ≤ z ∧ z ≤ 255) : ∀ j u, (bc [b8 z])[j]? = some u → (w.alloc (.cells #[.int .u8 z] t)).cell? ((⟨w.heap.size, 0, none⟩ : Addr).add j) = some u := by
  have e : IntKind.u8.wrap z = z := by rw [IntKind.wrap_u8]; omega
  have := one_byte w z t
  rwa [e] at this
theorem idx3 (x y z : Value) (w : World) : (Instr.index 160 (.agg #[x, y, z]) (.int .i64 0)).run Try.prog w = .ok x w ∧ (Instr.index 160 (.agg #[x, y, z]) (.int .i64 1)).run Try.prog w = .ok y w ∧ (Instr.index 160 (.agg #[x, y, z]) (.int .i64 2)).run Try.prog w = .ok z w := ⟨by kernel_rfl, by kernel_rfl, by kernel_rfl⟩
def n2L : List Int → List UInt8
  | [] => []
  | z :: l => num2 z ++ n2L l
/-- Two bytes. -/
theorem two_bytesR (w : World) (z : Int) (t : TypeId) (hz : 0 ≤ z ∧ z ≤ 65535) : ∀ j u, (bc (num2 z))[j]? = some u → (w.alloc (.cells #[.int .u8 (z / 256), .int .u8 (z % 256)] t)).cell? ((⟨w.heap.size, 0, none⟩ : Addr).add j) = some u := by
  intro j u hj
  rw [addr_add, Nat.zero_add]
  refine (World.cell?_alloc_at _ _ _ _ rfl).trans ?_
  have e : z / 256 % 256 = z / 256 := by omega
  match j with
  | 0 => simp [bc, num2] at hj; subst hj; simp [b8_val, e]
  | 1 => simp [bc, num2] at hj; subst hj; simp [b8_val]
  | j + 2 => simp [bc, num2] at hj
theorem num2_length (z : Int) : (num2 z).length = 2 := rfl
theorem atB_drop {l : List Kv} {j : Nat} {r : Kv} (h : l[j]? = some r) : atB (l.drop j) = txt r.n ++ (txt r.v ++ atB (l.drop (j + 1))) := by
  obtain ⟨hlt, he⟩ := List.getElem?_eq_some_iff.1 h
  rw [List.drop_eq_getElem_cons hlt, he, atB]
theorem byL_drop {l : Kds} {j : Nat} {m : ByteArray} {x : Nd} (h : l[j]? = some (m, x)) : byL (l.drop j) = txt m ++ (byN x ++ byL (l.drop (j + 1))) := by
  obtain ⟨hlt, he⟩ := List.getElem?_eq_some_iff.1 h
  rw [List.drop_eq_getElem_cons hlt, he, byL]
end Go.Proofs.Ytkkhfnkmfkdhiab
