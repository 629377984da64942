/-
  WHAT layText DOES: the walk.
-/
import Derived.Test.YtkkhfnkmfkdhiabVa
import Derived.Test.YtkkhfnkmfkdhiabWi
namespace Go.Proofs.Ytkkhfnkmfkdhiab
open Go.RowKit

theorem Try.infoB : (Try.prog.info? 5).map (fun i => (i.zero, i.size, i.bytes)) = some (some (.int .u8 0), 1, 1) := by kernel_rfl
theorem one_byte (w : World) (z : Int) (t : TypeId) : ∀ j u, (bc [b8 z])[j]? = some u → (w.alloc (.cells #[.int .u8 (IntKind.u8.wrap z)] t)).cell? ((⟨w.heap.size, 0, none⟩ : Addr).add j) = some u := by
  intro j u hj
  rw [addr_add, Nat.zero_add]
  refine (World.cell?_alloc_at _ _ _ _ rfl).trans ?_
  cases j with
  | zero =>
    simp [bc] at hj
    subst hj
    simp [IntKind.wrap_u8, b8_val]
  | succ j => simp [bc] at hj
theorem gr_app {w w' : World} {o : Obj} {v v' : Value} (hg : (w.alloc o).grownBy w' v.ownBlock) (ho : v'.ownBlock = v.ownBlock ∨ v'.ownBlock = some (w.heap.size + 1)) : Gr w w' v v' := by
  refine ⟨?_, ?_⟩
  · obtain ⟨a1, a2, a3, a4, a5⟩ := hg
    have b := (Below.refl _ w).alloc (Nat.le_refl _) o
    exact ⟨a1.trans b.os, a2.trans b.tape, a3.trans b.output, Nat.le_trans b.size a4, fun q hq hne => (a5 q (Nat.lt_of_lt_of_le hq b.size) hne).trans (b.block q hq)⟩
  · rcases ho with e | e
    · exact .inl e
    · exact .inr ⟨_, e, by omega⟩
theorem Gr.size {w w' : World} {v v' : Value} (h : Gr w w' v v') : w.heap.size ≤ w'.heap.size := h.g.size

set_option maxRecDepth 100000 in
set_option maxHeartbeats 1000000 in
theorem layText_any {base : Nat} (s : ByteArray) (W : World) (v : Value) (n : Nat) (xs : List Value) (hrow : W.ownsRow base 5 1 v n xs) (hbase : base ≤ W.heap.size) (hn : n + s.size ≤ 900000) :
    Calls Try.prog 95 #[v, .string s] W fun e w' => ∃ v', e = .returned v' ∧ w'.ownsRow base 5 1 v' (n + (1 + s.size)) (xs ++ bc (txt s)) ∧ Gr W w' v v' := by
  obtain ⟨i0, hi0, hz0, hz1, hz2⟩ := info_three Try.infoB
  have HROW : Hid (W.ownsRow base 5 1 v n xs) := hrow
  clear hrow
  go_enter Try.func95, Try.ntmps95
  go_wp2_with (at_builtin; refine wpList_append_src (W.alloc (.cells #[.int .u8 (IntKind.u8.wrap s.size)] 5)) rfl (.tmp 5) (.tmp 9) 94 rfl base 5 i0 (.int .u8 0) 1 1 Try.underlying94 hi0 hz0 hz1 hz2 rfl (by decide) v n xs rfl (HROW.out.alloc _) (some ⟨W.heap.size, 0, none⟩) 1 1 (bc [b8 s.size]) rfl rfl (.inr ⟨_, rfl, one_byte _ _ _⟩) (bc_one _) (by unfold maxLen; omega) (by omega) (by rw [World.size_alloc]; omega) ?_)
  intro v1 w1 hown1 hgr1 ho1
  have G1 : Gr W w1 v v1 := gr_app hgr1 ho1
  have hb1 : base ≤ w1.heap.size := Nat.le_trans hbase G1.size
  have HG1 : Hid (Gr W w1 v v1) := G1
  clear hgr1 ho1 G1 HROW
  go_wp2_with (at_builtin; refine wpList_append_str w1 rfl (.tmp 11) (.tmp 12) 94 9 rfl base 5 i0 Try.underlying94 Try.underlying9 hi0 hz0 hz1 hz2 v1 (n + 1) (xs ++ bc [b8 s.size]) rfl hown1 (by omega) s rfl (by omega) hb1 ?_)
  intro v2 w2 hown2 G2
  go_wp2
  go_ret
  refine ⟨v2, rfl, ?_, HG1.out.trans G2⟩
  rw [show n + (1 + s.size) = n + 1 + s.size by omega, show bc (txt s) = bc [b8 s.size] ++ bc s.data.toList from by rw [← bc_append]; rfl]
  exact hown2
end Go.Proofs.Ytkkhfnkmfkdhiab
