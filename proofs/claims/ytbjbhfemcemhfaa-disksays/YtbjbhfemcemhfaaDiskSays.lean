/-
  PROVED: for every number of blocks and all acts the call of DiskSays returns true, and the arguments read behind it as they read before. No condition.
-/
import Derived.Test.YtbjbhfemcemhfaaDg
import Derived.SliceStrings
import Derived.ProofKit
import Derived.OpenShut
import Derived.ShutString
import Derived.ChangeOld
import Derived.Below
import Derived.Deep.Slices
import Derived.Deep.Strs
import Derived.Lib.SmallJoins
import Derived.ChangeMaps5
namespace Go.Proofs.Ytbjbhfemcemhfaa
open Go.ChangeShapes Go.WideShapes Go.ChangeAt Go.RowKit Go.Deep Go.ChangeMaps

namespace DiskSaysRow
theorem own : ownKnob Try.prog.godebug = none := by kernel_rfl
theorem laidOut : laidOutB Try.prog = true := by kernel_rfl
theorem cells9 : Try.prog.cellsOf 9 = 1 := by kernel_rfl
theorem cells3 : Try.prog.cellsOf 3 = 1 := by kernel_rfl
theorem cellsAct : Try.prog.cellsOf 35 = 4 := by kernel_rfl
theorem four_of {α : Type} {l : List α} (h : l.length = 4) : ∃ a b c d, l = [a, b, c, d] := by
  match l, h with
  | [a, b, c, d], _ => exact ⟨a, b, c, d, rfl⟩
/-- A slice of acts that came in. -/
theorem acts_of_trod {H : Type} {enc : TypeId × Value → H} {W : World} {m : Nat} {v : Value} {y : DataW H × List MemPlace} (h : DataW.trod enc Try.prog W 0 (fun _ => true) true m 22 [v] = some y) :
    ∃ a n cap l, v = .slice a n cap ∧ l.length = n ∧ AcM W.cell? a l ∧ ∀ r ∈ l, ((Lit.int .i64 r.p).wf = true ∧ (Lit.int .i64 r.n).wf = true) := by
  rcases open_slice Try.underlying22 h with ⟨hcs, _⟩ | ⟨x, len, cap, mm, n, D, Pl, hcs, _, hl, _, hmm, _, hx⟩
  · obtain rfl : v = .slice none 0 0 := by simpa using hcs
    exact ⟨none, 0, 0, [], rfl, rfl, .inl rfl, by simp⟩
  · obtain rfl : v = .slice (some x) len cap := by simpa using hcs
    have hlm : len ≤ mm := by rw [hmm]; simp; exact hl
    have each : ∀ i, i < len → ∃ r : Act', (W.cell? (x.add (i * 4)) = some (.string r.k) ∧ W.cell? ((x.add (i * 4)).add 1) = some (.string r.s) ∧ W.cell? ((x.add (i * 4)).add 2) = some (.int .i64 r.p) ∧ W.cell? ((x.add (i * 4)).add 3) = some (.int .i64 r.n)) ∧ ((Lit.int .i64 r.p).wf = true ∧ (Lit.int .i64 r.n).wf = true) := by
      intro i hi
      obtain ⟨cs', h1, h2⟩ := hx i (by omega)
      rw [cellsAct] at h1
      obtain ⟨_, hlen, hcell⟩ := World.cells?_some h1
      obtain ⟨c0, c1, c2, c3, rfl⟩ := four_of hlen
      obtain ⟨y0, y1, y2, y3, k, _, _, t0, t1, t2, t3⟩ := Go.Joins.trod_struct4 Try.underlying35 h2
      rw [cells9] at t0 t1
      rw [cells3] at t2 t3
      obtain ⟨u0, e0, _⟩ := DataW.trod_string Try.underlying9 t0
      obtain ⟨u1, e1, _⟩ := DataW.trod_string Try.underlying9 t1
      obtain ⟨u2, e2, _, w2⟩ := DataW.trod_int Try.underlying3 t2
      obtain ⟨u3, e3, _, w3⟩ := DataW.trod_int Try.underlying3 t3
      simp at e0 e1 e2 e3
      subst e0 e1 e2 e3
      have g0 := hcell 0 (by omega)
      have g1 := hcell 1 (by omega)
      have g2 := hcell 2 (by omega)
      have g3 := hcell 3 (by omega)
      exact ⟨⟨u0, u1, u2, u3⟩, ⟨by simpa [Addr.add] using g0, by simpa using g1, by simpa using g2, by simpa using g3⟩, w2, w3⟩
    obtain ⟨f, hf⟩ : ∃ f : Nat → Act', ∀ i, i < len → (W.cell? (x.add (i * 4)) = some (.string (f i).k) ∧ W.cell? ((x.add (i * 4)).add 1) = some (.string (f i).s) ∧ W.cell? ((x.add (i * 4)).add 2) = some (.int .i64 (f i).p) ∧ W.cell? ((x.add (i * 4)).add 3) = some (.int .i64 (f i).n)) ∧ ((Lit.int .i64 (f i).p).wf = true ∧ (Lit.int .i64 (f i).n).wf = true) := by
      refine ⟨fun i => if h : i < len then Classical.choose (each i h) else ⟨⟨#[]⟩, ⟨#[]⟩, 0, 0⟩, fun i hi => ?_⟩
      simp only [hi, dite_true]
      exact Classical.choose_spec (each i hi)
    refine ⟨some x, len, cap, (List.range len).map f, rfl, by simp, ?_, ?_⟩
    · by_cases h0 : len = 0
      · subst h0; exact .inl rfl
      · obtain ⟨b, off, spot⟩ := x
        have hspot : spot = none := by
          have := World.cell?_spot (hf 0 (by omega)).1.1
          simpa [Addr.add] using this
        subst hspot
        refine .inr ⟨b, off, rfl, fun k r hk => ?_⟩
        have hkl : k < len := by have := (List.getElem?_eq_some_iff.1 hk).1; simpa using this
        have er : r = f k := by simp [hkl] at hk; exact hk.symm
        subst er
        obtain ⟨⟨g0, g1, g2, g3⟩, _⟩ := hf k hkl
        have e : (⟨b, off, none⟩ : Addr).add (k * 4) = ⟨b, off + k * 4, none⟩ := by by_cases hj0 : k * 4 = 0 <;> simp [Addr.add, hj0]
        rw [e] at g0 g1 g2 g3
        exact ⟨g0, by simpa [Addr.add] using g1, by simpa [Addr.add] using g2, by simpa [Addr.add] using g3⟩
    · intro r hr
      obtain ⟨i, hi, rfl⟩ := List.mem_map.1 hr
      exact (hf i (by simpa using hi)).2
theorem walk {W : World} (blocks : Int) (a : Option Addr) (n cap : Nat) (l : List Act') (hn : l.length = n) (hS : AcM W.cell? a l) (hwf : ∀ r ∈ l, ((Lit.int .i64 r.p).wf = true ∧ (Lit.int .i64 r.n).wf = true)) :
    Calls Try.prog 3 #[.int .i64 blocks, .slice a n cap] W fun e w' => e = .returned (.bool true) ∧ Below W.heap.size W w' := by
  subst hn
  exact disk_any blocks a cap l hS hwf

set_option maxRecDepth 100000 in
theorem lifted (os : Os) (started : os.Started) (H : Type) (enc : TypeId × Value → H) :
    ReturnsInHanded {} Try.checked os 3 .any (Rows.diskSaysSpec.pre6 enc Try.prog Try.f3 Rows.diskSaysRow.domain false) (Rows.diskSaysSpec.post enc Try.prog Try.f3 false true false false) := by
  refine returnsInHanded_of_change (C := Try.checked) own started (by kernel_rfl) Try.func3
    (ChangeSpec.witness6 (enc := enc) (C := Try.checked) false ⟨#[], #[.int .i64 0, .slice none 0 0], []⟩ 8 (by kernel_rfl) (by kernel_rfl) (by kernel_rfl) (by kernel_rfl)) ?_
  intro W base args ds gs before hval0 hW hcnd _
  have hval : ∀ (j : Nat) t v, Try.f3.params[j]? = some t → args[j]? = some v → Value.okWide Try.prog W .any base t v := hval0
  have hW' := hW
  obtain ⟨p, q, hA0, hV, rfl, hfz, hnd⟩ := hW
  have hA : DataW.TrodAll enc Try.prog W 0 (fun _ => true) true Try.f3.params.toList args.toList ds p := hA0
  rw [Try.params3] at hA hval
  obtain ⟨v0, v1, d0, d1, p0, p1, rfl, rfl, rfl, h0, h1⟩ := trodAll_two hA
  obtain ⟨rfl, rfl⟩ := trodVars_none hV
  have k1 := h1
  have lt1 : ∀ x ∈ p1, x.block < W.heap.size := by obtain ⟨m, hm⟩ := k1; exact DataW.trod_lt m _ _ _ hm
  obtain ⟨x, rfl, rfl, rfl, wx⟩ := open_int Try.underlying3 (hval 0 3 v0 rfl rfl) h0
  obtain ⟨a1, len1, cap1, rfl⟩ := okWide_slice Try.underlying22 (hval 1 22 v1 rfl rfl)
  obtain ⟨f1, g1⟩ := h1
  obtain ⟨a, n, c, l, e1, hn, hS1, hwf⟩ := acts_of_trod (by simpa [Value.cells] using g1)
  obtain ⟨rfl, rfl, rfl⟩ : a1 = a ∧ len1 = n ∧ cap1 = c := by simpa using e1
  clear hA0 hval0
  refine (walk x a1 len1 cap1 l hn hS1 hwf).mono fun e W' ⟨he, bel⟩ => ?_
  subst he
  exact ⟨_, rfl, _, _, _, [], _, [], hW', trodAll_mk1 (shut_bool Try.underlying4 _), trodAll_mk2 (shut_int Try.underlying3 wx) (Below.trod laidOut (by kernel_rfl) (of_decide_eq_true (by kernel_rfl)) k1 bel lt1), rfl, bel.frame _, fun h => by cases h⟩
end DiskSaysRow

theorem diskSays_holds : Rows.DiskSaysSaid :=
  OpenClaim.holds_of_wide 3 Try.f3 rfl rfl rfl rfl rfl rfl rfl ⟨rfl, rfl, rfl, rfl, rfl⟩ rfl rfl rfl rfl rfl (by kernel_rfl) Try.func3 (by kernel_rfl)
    (of_decide_eq_true (by kernel_rfl)) (by unfold Func.isWrapper; first | (rw [if_pos (by decide +kernel)]; kernel_rfl) | (rw [if_neg (by decide +kernel)]; exact ⟨rfl, rfl⟩))
    (fun os started H enc _ => DiskSaysRow.lifted os started H enc)
#print axioms diskSays_holds
end Go.Proofs.Ytbjbhfemcemhfaa
