/-
  PROVED: for every list of what is said (to set a value, or to drop it) the call of TopAttrs returns true, and the argument reads behind it as it read before. No condition.
-/
import Derived.Test.YtpjhckjmahagnaaAs
import Derived.Test.YtpjhckjmahagnaaAr
namespace Go.Proofs.Ytpjhckjmahagnaa
open Go.ChangeShapes Go.WideShapes Go.ChangeAt Go.RowKit Go.Deep

namespace RowsIn
theorem cells80 : Try.prog.cellsOf 80 = 3 := by kernel_rfl
theorem cells4 : Try.prog.cellsOf 4 = 1 := by kernel_rfl
theorem three_of {α : Type} {l : List α} (h : l.length = 3) : ∃ a b c, l = [a, b, c] := by
  match l, h with
  | [a, b, c], _ => exact ⟨a, b, c, rfl⟩

theorem sys_of_trod {H : Type} {enc : TypeId × Value → H} {W : World} {m : Nat} {v : Value} {y : DataW H × List MemPlace} (h : DataW.trod enc Try.prog W 0 (fun _ => true) true m 78 [v] = some y) :
    ∃ a n cap l, v = .slice a n cap ∧ l.length = n ∧ Sys W a l := by
  rcases open_slice Try.underlying78 h with ⟨hcs, _⟩ | ⟨x, len, cap, mm, n, D, Pl, hcs, _, hl, _, hmm, _, hx⟩
  · obtain rfl : v = .slice none 0 0 := by simpa using hcs
    exact ⟨none, 0, 0, [], rfl, rfl, .inl rfl⟩
  · obtain rfl : v = .slice (some x) len cap := by simpa using hcs
    have hlm : len ≤ mm := by rw [hmm]; simp; exact hl
    have each : ∀ i, i < len → ∃ r : Sy, W.cell? (x.add (i * 3)) = some (.bool r.d) ∧ W.cell? ((x.add (i * 3)).add 1) = some (.string r.n) ∧ W.cell? ((x.add (i * 3)).add 2) = some (.string r.v) := by
      intro i hi
      obtain ⟨cs', h1, h2⟩ := hx i (by omega)
      rw [cells80] at h1
      obtain ⟨_, hlen, hcell⟩ := World.cells?_some h1
      obtain ⟨c0, c1, c2, rfl⟩ := three_of hlen
      obtain ⟨y0, y1, y2, k, _, _, t0, t1, t2⟩ := trod_struct3 Try.underlying80 h2
      rw [cells4] at t0
      rw [cells9] at t1 t2
      obtain ⟨u0, e0, _⟩ := DataW.trod_bool Try.underlying4 t0
      obtain ⟨u1, e1, _, w1⟩ := DataW.trod_string Try.underlying9 t1
      obtain ⟨u2, e2, _, w2⟩ := DataW.trod_string Try.underlying9 t2
      simp at e0 e1 e2
      subst e0 e1 e2
      have g0 := hcell 0 (by omega)
      have g1 := hcell 1 (by omega)
      have g2 := hcell 2 (by omega)
      exact ⟨⟨u0, u1, u2⟩, by simpa [Addr.add] using g0, by simpa using g1, by simpa using g2⟩
    obtain ⟨f, hf⟩ : ∃ f : Nat → Sy, ∀ i, i < len → W.cell? (x.add (i * 3)) = some (.bool (f i).d) ∧ W.cell? ((x.add (i * 3)).add 1) = some (.string (f i).n) ∧ W.cell? ((x.add (i * 3)).add 2) = some (.string (f i).v) := by
      refine ⟨fun i => if h : i < len then Classical.choose (each i h) else ⟨false, ByteArray.empty, ByteArray.empty⟩, fun i hi => ?_⟩
      simp only [hi, dite_true]
      exact Classical.choose_spec (each i hi)
    refine ⟨some x, len, cap, (List.range len).map f, rfl, by simp, ?_⟩
    by_cases h0 : len = 0
    · subst h0; exact .inl rfl
    · obtain ⟨b, off, spot⟩ := x
      have hspot : spot = none := by
        have := World.cell?_spot (hf 0 (by omega)).1
        simpa [Addr.add] using this
      subst hspot
      refine .inr ⟨b, off, rfl, fun k r hk => ?_⟩
      have hkl : k < len := by have := (List.getElem?_eq_some_iff.1 hk).1; simpa using this
      have er : r = f k := by simp [hkl] at hk; exact hk.symm
      subst er
      obtain ⟨g0, g1, g2⟩ := hf k hkl
      have e : (⟨b, off, none⟩ : Addr).add (k * 3) = ⟨b, off + k * 3, none⟩ := by by_cases hj0 : k * 3 = 0 <;> simp [Addr.add, hj0]
      rw [e] at g0 g1 g2
      exact ⟨g0, by simpa [Addr.add] using g1, by simpa [Addr.add] using g2⟩
end RowsIn

namespace TopAttrsRow
theorem walk (a : Option Addr) (n cap : Nat) (l : List Sy) (w : World) (hn : l.length = n) (h : Sys w a l) :
    Calls Try.prog 10 #[.slice a n cap] w fun e w' => e = .returned (.bool true) ∧ Below w.heap.size w w' := by
  subst hn
  exact topAttrs_any a cap l w h

set_option maxRecDepth 100000 in
theorem lifted (os : Os) (started : os.Started) (H : Type) (enc : TypeId × Value → H) :
    ReturnsInHanded {} Try.checked os 10 .any (Rows.topAttrsSpec.pre6 enc Try.prog Try.f10 Rows.topAttrsRow.domain false) (Rows.topAttrsSpec.post enc Try.prog Try.f10 false true false false) := by
  refine returnsInHanded_of_change (C := Try.checked) RowsIn.own started (by kernel_rfl) Try.func10
    (ChangeSpec.witness6 (enc := enc) (C := Try.checked) false ⟨#[], #[.slice none 0 0], []⟩ 8 (by kernel_rfl) (by kernel_rfl) (by kernel_rfl) (by kernel_rfl)) ?_
  intro W base args ds gs before hval0 hW hcnd _
  have hval : ∀ (j : Nat) t v, Try.f10.params[j]? = some t → args[j]? = some v → Value.okWide Try.prog W .any base t v := hval0
  have hW' := hW
  obtain ⟨p, q, hA0, hV, rfl, hfz, hnd⟩ := hW
  have hA : DataW.TrodAll enc Try.prog W 0 (fun _ => true) true Try.f10.params.toList args.toList ds p := hA0
  rw [Try.params10] at hA hval
  obtain ⟨v0, d0, rfl, rfl, h0⟩ := trodAll_one hA
  obtain ⟨rfl, rfl⟩ := trodVars_none hV
  have k0 := h0
  have lt0 : ∀ x ∈ p, x.block < W.heap.size := by obtain ⟨m, hm⟩ := k0; exact DataW.trod_lt m _ _ _ hm
  obtain ⟨a0, len0, cap0, rfl⟩ := okWide_slice Try.underlying78 (hval 0 78 v0 rfl rfl)
  obtain ⟨f0, g0⟩ := h0
  obtain ⟨a, n, c, l, e0, hn, hK⟩ := RowsIn.sys_of_trod (by simpa [Value.cells] using g0)
  obtain ⟨rfl, rfl, rfl⟩ : a0 = a ∧ len0 = n ∧ cap0 = c := by simpa using e0
  clear hA0 hval0
  refine (walk a0 len0 cap0 l W hn hK).mono fun e W' ⟨he, bel⟩ => ?_
  subst he
  exact ⟨_, rfl, _, _, _, [], _, [], hW', trodAll_mk1 (shut_bool Try.underlying4 _), trodAll_mk1 (Below.trod RowsIn.laidOut (by kernel_rfl) (of_decide_eq_true (by kernel_rfl)) k0 bel lt0), rfl, bel.frame _, fun h => by cases h⟩
end TopAttrsRow

theorem topAttrs_holds : Rows.TopAttrsSaid :=
  OpenClaim.holds_of_wide 10 Try.f10 rfl rfl rfl rfl rfl rfl rfl ⟨rfl, rfl, rfl, rfl, rfl⟩ rfl rfl rfl rfl rfl (by kernel_rfl) Try.func10 (by kernel_rfl)
    (of_decide_eq_true (by kernel_rfl)) (by unfold Func.isWrapper; first | (rw [if_pos (by decide +kernel)]; kernel_rfl) | (rw [if_neg (by decide +kernel)]; exact ⟨rfl, rfl⟩))
    (fun os started H enc _ => TopAttrsRow.lifted os started H enc)
#print axioms topAttrs_holds
end Go.Proofs.Ytpjhckjmahagnaa
