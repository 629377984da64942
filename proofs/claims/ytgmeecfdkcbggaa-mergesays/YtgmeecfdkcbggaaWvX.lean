/-
  A TREE THAT CAME IN, as the walks want it.
  A slice of ranges that came in.
  NODES AND MAPS THAT CAME IN, their ids ints.
-/
import Derived.Test.YtgmeecfdkcbggaaMeX
import Derived.SliceStrings
import Derived.ProofKit
import Derived.OpenShut
import Derived.ShutString
import Derived.ChangeOld
import Derived.Below
import Derived.Deep.Slices
import Derived.Deep.Strs
import Derived.Test.YtgmeecfdkcbggaaNcX
namespace Go.Proofs.Ytgmeecfdkcbggaa
open Go.ChangeShapes Go.WideShapes Go.ChangeAt Go.RowKit Go.Deep Go.ChangeMaps
namespace RowsIn
theorem own : ownKnob Try.prog.godebug = none := by kernel_rfl
theorem laidOut : laidOutB Try.prog = true := by kernel_rfl
theorem cellsTA : Try.prog.cellsOf 79 = 2 := by kernel_rfl
theorem cells9 : Try.prog.cellsOf 9 = 1 := by kernel_rfl
theorem two_of {α : Type} {l : List α} (h : l.length = 2) : ∃ a b, l = [a, b] := by
  match l, h with
  | [a, b], _ => exact ⟨a, b, rfl⟩
theorem kvm_of_trod {H : Type} {enc : TypeId × Value → H} {W : World} {m : Nat} {v : Value} {y : DataW H × List MemPlace} (h : DataW.trod enc Try.prog W 0 (fun _ => true) true m 28 [v] = some y) :
    ∃ a n cap l, v = .slice a n cap ∧ l.length = n ∧ n ≤ cap ∧ cap ≤ 9223372036854775807 ∧ Kvm W.cell? a l := by
  rcases open_slice Try.underlying28 h with ⟨hcs, _⟩ | ⟨x, len, cap, mm, n, D, Pl, hcs, _, hl, hcm, hmm, _, hx⟩
  · obtain rfl : v = .slice none 0 0 := by simpa using hcs
    exact ⟨none, 0, 0, [], rfl, rfl, by omega, by omega, .inl rfl⟩
  · obtain rfl : v = .slice (some x) len cap := by simpa using hcs
    have hlm : len ≤ mm := by rw [hmm]; simp; exact hl
    have each : ∀ i, i < len → ∃ r : Kv, W.cell? (x.add (i * 2)) = some (.string r.n) ∧ W.cell? ((x.add (i * 2)).add 1) = some (.string r.v) := by
      intro i hi
      obtain ⟨cs', h1, h2⟩ := hx i (by omega)
      rw [cellsTA] at h1
      obtain ⟨_, hlen, hcell⟩ := World.cells?_some h1
      obtain ⟨c0, c1, rfl⟩ := two_of hlen
      obtain ⟨y0, y1, k, _, _, t0, t1⟩ := trod_struct2 Try.underlying79 h2
      rw [cells9] at t0 t1
      obtain ⟨u0, e0, _, w0⟩ := DataW.trod_string Try.underlying9 t0
      obtain ⟨u1, e1, _, w1⟩ := DataW.trod_string Try.underlying9 t1
      simp at e0 e1
      subst e0 e1
      have g0 := hcell 0 (by omega)
      have g1 := hcell 1 (by omega)
      exact ⟨⟨u0, u1⟩, by simpa [Addr.add] using g0, by simpa using g1⟩
    obtain ⟨f, hf⟩ : ∃ f : Nat → Kv, ∀ i, i < len → W.cell? (x.add (i * 2)) = some (.string (f i).n) ∧ W.cell? ((x.add (i * 2)).add 1) = some (.string (f i).v) := by
      refine ⟨fun i => if h : i < len then Classical.choose (each i h) else ⟨ByteArray.empty, ByteArray.empty⟩, fun i hi => ?_⟩
      simp only [hi, dite_true]
      exact Classical.choose_spec (each i hi)
    refine ⟨some x, len, cap, (List.range len).map f, rfl, by simp, hl, by unfold maxLen at hcm; omega, ?_⟩
    by_cases h0 : len = 0
    · subst h0; exact .inl rfl
    · obtain ⟨b, off, spot⟩ := x
      have hspot : spot = none := by
        have := World.cell?_spot (hf 0 (by omega)).1
        simpa [Addr.add] using this
      subst hspot
      refine .inr ⟨b, off, rfl, fun k r hk => ?_⟩
      have hkl : k < len := by have := (List.getElem?_eq_some_iff.1 hk).1; simpa using this
      have er : r = f k := by simp [hkl] at hk; exact hk.symm
      subst er
      obtain ⟨g0, g1⟩ := hf k hkl
      have e : (⟨b, off, none⟩ : Addr).add (k * 2) = ⟨b, off + k * 2, none⟩ := by by_cases hj0 : k * 2 = 0 <;> simp [Addr.add, hj0]
      rw [e] at g0 g1
      exact ⟨g0, by simpa [Addr.add] using g1⟩
theorem cellsTN : Try.prog.cellsOf 31 = 8 := by kernel_rfl
theorem cellsTK : Try.prog.cellsOf 48 = 9 := by kernel_rfl
theorem cellsTAs : Try.prog.cellsOf 28 = 1 := by kernel_rfl
theorem cellsTKs : Try.prog.cellsOf 29 = 1 := by kernel_rfl
theorem cells3 : Try.prog.cellsOf 3 = 1 := by kernel_rfl
theorem cells4 : Try.prog.cellsOf 4 = 1 := by kernel_rfl
theorem eight_of {α : Type} {l : List α} (h : l.length = 8) : ∃ a b c d e f g i, l = [a, b, c, d, e, f, g, i] := by
  match l, h with
  | [a, b, c, d, e, f, g, i], _ => exact ⟨a, b, c, d, e, f, g, i, rfl⟩
theorem nine_of {α : Type} {l : List α} (h : l.length = 9) : ∃ z l', l = z :: l' ∧ l'.length = 8 := by
  match l, h with
  | z :: l', h => exact ⟨z, l', rfl, by simpa using h⟩
set_option maxRecDepth 100000 in
/-- A slice of strings that came in. -/
theorem strs_of_trod {H : Type} {enc : TypeId × Value → H} {W : World} {m : Nat} {v : Value} {y : DataW H × List MemPlace} (h : DataW.trod enc Try.prog W 0 (fun _ => true) true m 23 [v] = some y) :
    ∃ a n cap xs, v = .slice a n cap ∧ xs.length = n ∧ n ≤ cap ∧ cap ≤ 9223372036854775807 ∧ Strs W.cell? a xs := by
  rcases open_strings Try.underlying23 Try.underlying9 cells9 h with ⟨hcs, _⟩ | ⟨x, l, c, ss, hcs, _, hl, hm, hz, _, hcell, _⟩
  · obtain rfl : v = .slice none 0 0 := by simpa using hcs
    exact ⟨none, 0, 0, [], rfl, rfl, by omega, by omega, .inl rfl⟩
  · obtain rfl : v = .slice (some x) l c := by simpa using hcs
    have hz' : ss.length = c := by simpa using hz
    unfold maxLen at hm
    refine ⟨some x, l, c, ss.take l, rfl, by simp; omega, hl, by omega, ?_⟩
    by_cases h0 : l = 0
    · subst h0; exact .inl (by simp)
    · obtain ⟨b, off, spot⟩ := x
      have hspot : spot = none := by simpa [Addr.add] using World.cell?_spot (hcell 0 (by omega))
      subst hspot
      refine .inr ⟨b, off, rfl, fun i u hi => ?_⟩
      have hil : i < l := by have := (List.getElem?_eq_some_iff.1 hi).1; simp at this; omega
      have e : (⟨b, off, none⟩ : Addr).add i = ⟨b, off + i, none⟩ := by by_cases hj0 : i = 0 <;> simp [Addr.add, hj0]
      have hc := hcell i (by omega)
      rw [e] at hc
      rw [hc]
      rw [List.getElem?_take, if_pos hil] at hi
      simp [List.getD, hi]
end RowsIn
end Go.Proofs.Ytgmeecfdkcbggaa
namespace Go.Proofs.Ytgmeecfdkcbggaa
open Go.ChangeShapes Go.WideShapes Go.ChangeAt Go.RowKit Go.Deep
namespace RowsIn
theorem i64_of_wf {x : Int} (h : (Lit.int .i64 x).wf = true) : I64 x := by
  simp [Lit.wf, IntKind.min, IntKind.max, IntKind.signed, IntKind.bits] at h
  exact ⟨by omega, by omega⟩
end RowsIn
end Go.Proofs.Ytgmeecfdkcbggaa
namespace Go.Proofs.Ytgmeecfdkcbggaa
open Go.ChangeShapes Go.WideShapes Go.ChangeAt Go.RowKit Go.Deep
theorem idL_of : ∀ {ks : Kds}, (∀ (i : Nat) (n : ByteArray) (x : Nd), ks[i]? = some (n, x) → IdN x) → IdL ks
  | [], _ => by rw [IdL]; trivial
  | (n, x) :: l, h => by
    rw [IdL]
    exact ⟨h 0 n x rfl, idL_of fun i n' x' hi => h (i + 1) n' x' (by simpa using hi)⟩
namespace RowsIn
theorem ndL_0' (x : Nd) (h : Hd) : (ndL x h)[0]? = some (.int .i64 x.kind) := by obtain ⟨k, m, u, g, o, at_, d, ks⟩ := x; rfl
theorem ndI_of_trod {H : Type} {enc : TypeId × Value → H} {W : World} : ∀ (m : Nat) (cs : List Value) (y : DataW H × List MemPlace), DataW.trod enc Try.prog W 0 (fun _ => true) true m 31 cs = some y →
    ∃ x h, cs = ndL x h ∧ NdV W.cell? x h ∧ IdN x := by
  intro m
  induction m using Nat.strongRecOn with
  | ind m IH =>
    intro cs y hy
    obtain ⟨xs, n, hmn, _, hcl, hlen, hx⟩ := DataW.trod_struct Try.underlying31 hy
    obtain ⟨c0, c1, c2, c3, c4, c5, c6, c7, rfl⟩ := eight_of (hcl.trans cellsTN)
    obtain ⟨y0, y1, y2, y3, y4, y5, y6, y7, rfl⟩ := eight_of (show xs.length = 8 from hlen)
    have t0 : DataW.trod enc Try.prog W 0 (fun _ => true) true n 3 [c0] = some y0 := by simpa [cells3] using hx 0 _ rfl
    have t1 : DataW.trod enc Try.prog W 0 (fun _ => true) true n 3 [c1] = some y1 := by simpa [cells3] using hx 1 _ rfl
    have t2 : DataW.trod enc Try.prog W 0 (fun _ => true) true n 3 [c2] = some y2 := by simpa [cells3] using hx 2 _ rfl
    have t3 : DataW.trod enc Try.prog W 0 (fun _ => true) true n 3 [c3] = some y3 := by simpa [cells3] using hx 3 _ rfl
    have t4 : DataW.trod enc Try.prog W 0 (fun _ => true) true n 4 [c4] = some y4 := by simpa [cells4] using hx 4 _ rfl
    have t5 : DataW.trod enc Try.prog W 0 (fun _ => true) true n 28 [c5] = some y5 := by simpa [cellsTAs] using hx 5 _ rfl
    have t6 : DataW.trod enc Try.prog W 0 (fun _ => true) true n 9 [c6] = some y6 := by simpa [cells9] using hx 6 _ rfl
    have t7 : DataW.trod enc Try.prog W 0 (fun _ => true) true n 29 [c7] = some y7 := by simpa [cellsTKs] using hx 7 _ rfl
    obtain ⟨x0, e0, _⟩ := DataW.trod_int Try.underlying3 t0
    obtain ⟨x1, e1, _⟩ := DataW.trod_int Try.underlying3 t1
    obtain ⟨x2, e2, _, wf2⟩ := DataW.trod_int Try.underlying3 t2
    obtain ⟨x3, e3, _, wf3⟩ := DataW.trod_int Try.underlying3 t3
    obtain ⟨x4, e4, _⟩ := DataW.trod_bool Try.underlying4 t4
    obtain ⟨x6, e6, _, _⟩ := DataW.trod_string Try.underlying9 t6
    simp at e0 e1 e2 e3 e4 e6
    subst e0 e1 e2 e3 e4 e6
    obtain ⟨aa, na, ca, l, rfl, rfl, hca, hcam, hKv⟩ := kvm_of_trod t5
    rcases DataW.trod_slice Try.underlying29 t7 with ⟨hcs, _⟩ | ⟨a, len, cap, elems, rest, n2, hn2, hcs, _, _, hl, hm, hlen2, hel, _, _⟩
    · obtain rfl : c7 = .slice none 0 0 := by simpa using hcs
      exact ⟨.mk x0 x1 x2 x3 x4 l x6 [], ⟨aa, ca, none, 0⟩, rfl, .mk 0 0 (fun _ => ⟨none, 0, none, 0⟩) hKv ⟨hca, hcam⟩ ⟨by simp, by simp⟩ (.inl rfl) (fun i n x hi => by simp at hi) (fun i n x hi => by simp at hi), by rw [IdN]; exact ⟨i64_of_wf wf2, i64_of_wf wf3, by rw [IdL]; trivial⟩⟩
    · obtain rfl : c7 = .slice (some a) len cap := by simpa using hcs
      have each : ∀ i, i < len → ∃ (nm : ByteArray) (x : Nd) (h : Hd), (∃ z, W.cells? 0 (a.add (i * 9)) 9 = some z ∧ z = .string nm :: ndL x h) ∧ NdV W.cell? x h ∧ IdN x := by
        intro i hi
        have key := hel i hi
        rw [cellsTK, List.getElem?_eq_getElem (by omega)] at key
        obtain ⟨cs', h1, h2⟩ := Option.bind_eq_some_iff.1 key
        obtain ⟨xs', n3, hn3, _, hl9, hlen3, hx3⟩ := DataW.trod_struct Try.underlying48 h2
        obtain ⟨z, l', rfl, hl8⟩ := nine_of (hl9.trans cellsTK)
        obtain ⟨y0', y1', rfl⟩ := two_of (show xs'.length = 2 from hlen3)
        have s0 : DataW.trod enc Try.prog W 0 (fun _ => true) true n3 9 [z] = some y0' := by simpa [cells9] using hx3 0 _ rfl
        obtain ⟨nm, en, _, _⟩ := DataW.trod_string Try.underlying9 s0
        have en' : z = .string nm := by simpa using en
        have s1' : DataW.trod enc Try.prog W 0 (fun _ => true) true n3 31 l' = some y1' := by
          have e : List.take 8 l' = l' := List.take_of_length_le (by omega)
          have := hx3 1 _ rfl
          simpa [cellsTN, e] using this
        obtain ⟨x, h, e, hN, hI⟩ := IH n3 (by omega) _ _ s1'
        exact ⟨nm, x, h, ⟨_, h1, by rw [en', e]⟩, hN, hI⟩
      obtain ⟨F, hF⟩ : ∃ F : Nat → ByteArray × Nd × Hd, ∀ i, i < len → (∃ z, W.cells? 0 (a.add (i * 9)) 9 = some z ∧ z = .string (F i).1 :: ndL (F i).2.1 (F i).2.2) ∧ NdV W.cell? (F i).2.1 (F i).2.2 ∧ IdN (F i).2.1 := by
        refine ⟨fun i => if h : i < len then ⟨Classical.choose (each i h), Classical.choose (Classical.choose_spec (each i h)), Classical.choose (Classical.choose_spec (Classical.choose_spec (each i h)))⟩ else ⟨ByteArray.empty, .mk 0 0 0 0 false [] ByteArray.empty [], ⟨none, 0, none, 0⟩⟩, fun i hi => ?_⟩
        simp only [hi, dite_true]
        exact Classical.choose_spec (Classical.choose_spec (Classical.choose_spec (each i hi)))
      by_cases h0 : len = 0
      · subst h0
        exact ⟨.mk x0 x1 x2 x3 x4 l x6 [], ⟨aa, ca, some a, cap⟩, rfl, .mk 0 0 (fun _ => ⟨none, 0, none, 0⟩) hKv ⟨hca, hcam⟩ ⟨by simp, by unfold maxLen at hm; show cap ≤ _; omega⟩ (.inl rfl) (fun i n x hi => by simp at hi) (fun i n x hi => by simp at hi), by rw [IdN]; exact ⟨i64_of_wf wf2, i64_of_wf wf3, by rw [IdL]; trivial⟩⟩
      · obtain ⟨b, off, spot⟩ := a
        have cell : ∀ i, i < len → ∀ q v, (Value.string (F i).1 :: ndL (F i).2.1 (F i).2.2)[q]? = some v → W.cell? (((⟨b, off, spot⟩ : Addr).add (i * 9)).add q) = some v := by
          intro i hi q v hq
          obtain ⟨⟨z, h1, rfl⟩, _⟩ := hF i hi
          obtain ⟨_, hz, hcell⟩ := World.cells?_some h1
          have hq9 : q < 9 := by have := (List.getElem?_eq_some_iff.1 hq).1; omega
          rw [hcell q hq9]; exact hq
        have hspot : spot = none := by
          have := World.cell?_spot (cell 0 (by omega) 0 _ rfl)
          simpa [Addr.add] using this
        subst hspot
        have adr : ∀ i q, (((⟨b, off, none⟩ : Addr).add (i * 9)).add q) = ⟨b, off + i * 9 + q, none⟩ := by
          intro i q
          by_cases hi : i * 9 = 0 <;> by_cases hq : q = 0 <;> simp [Addr.add, hi, hq]
        have get : ∀ i n x, ((List.range len).map (fun i => ((F i).1, (F i).2.1)))[i]? = some (n, x) → i < len ∧ n = (F i).1 ∧ x = (F i).2.1 := by
          intro i n x hi
          have hil : i < len := by have := (List.getElem?_eq_some_iff.1 hi).1; simpa using this
          simp [hil] at hi
          exact ⟨hil, hi.1.symm, hi.2.symm⟩
        refine ⟨.mk x0 x1 x2 x3 x4 l x6 ((List.range len).map (fun i => ((F i).1, (F i).2.1))), ⟨aa, ca, some ⟨b, off, none⟩, cap⟩, by simp [ndL], .mk b off (fun i => (F i).2.2) hKv ⟨hca, hcam⟩ ⟨by simp; exact hl, by unfold maxLen at hm; show cap ≤ _; omega⟩ (.inr rfl) ?_ ?_, ?_⟩
        · intro i n x hi
          obtain ⟨hil, rfl, rfl⟩ := get i n x hi
          refine kdAt_iff.2 fun q v hq => ?_
          have := cell i hil q v hq
          rwa [adr] at this
        · intro i n x hi
          obtain ⟨hil, rfl, rfl⟩ := get i n x hi
          exact (hF i hil).2.1
        · rw [IdN]
          refine ⟨i64_of_wf wf2, i64_of_wf wf3, idL_of fun i n x hi => ?_⟩
          obtain ⟨hil, rfl, rfl⟩ := get i n x hi
          exact (hF i hil).2.2
set_option maxRecDepth 100000 in
/-- A slice of nodes that came in. -/
theorem ns_of_trod {H : Type} {enc : TypeId × Value → H} {W : World} {m : Nat} {v : Value} {y : DataW H × List MemPlace} (h : DataW.trod enc Try.prog W 0 (fun _ => true) true m 22 [v] = some y) :
    ∃ a n cap xs, v = .slice a n cap ∧ xs.length = n ∧ n ≤ cap ∧ cap ≤ 9223372036854775807 ∧ NsV W.cell? a xs ∧ ∀ x ∈ xs, IdN x := by
  rcases DataW.trod_slice Try.underlying22 h with ⟨hcs, _⟩ | ⟨a, len, cap, elems, rest, n2, hn2, hcs, _, _, hl, hm, hlen2, hel, _, _⟩
  · obtain rfl : v = .slice none 0 0 := by simpa using hcs
    exact ⟨none, 0, 0, [], rfl, rfl, by omega, by omega, .inl rfl, fun x hx => by cases hx⟩
  · obtain rfl : v = .slice (some a) len cap := by simpa using hcs
    have hm2 : cap ≤ 9223372036854775807 := by unfold maxLen at hm; omega
    have each : ∀ i, i < len → ∃ (x : Nd) (h : Hd), W.cells? 0 (a.add (i * 8)) 8 = some (ndL x h) ∧ NdV W.cell? x h ∧ IdN x := by
      intro i hi
      have key := hel i hi
      rw [cellsTN, List.getElem?_eq_getElem (by omega)] at key
      obtain ⟨cs', h1, h2⟩ := Option.bind_eq_some_iff.1 key
      obtain ⟨x, hd, e, hN, hI⟩ := ndI_of_trod _ _ _ h2
      exact ⟨x, hd, by rw [h1, e], hN, hI⟩
    obtain ⟨F, hF⟩ : ∃ F : Nat → Nd × Hd, ∀ i, i < len → W.cells? 0 (a.add (i * 8)) 8 = some (ndL (F i).1 (F i).2) ∧ NdV W.cell? (F i).1 (F i).2 ∧ IdN (F i).1 := by
      refine ⟨fun i => if h : i < len then ⟨Classical.choose (each i h), Classical.choose (Classical.choose_spec (each i h))⟩ else ⟨zN, zH⟩, fun i hi => ?_⟩
      simp only [hi, dite_true]
      exact Classical.choose_spec (Classical.choose_spec (each i hi))
    have get : ∀ i x, ((List.range len).map (fun i => (F i).1))[i]? = some x → i < len ∧ x = (F i).1 := by
      intro i x hi
      have hil : i < len := by have := (List.getElem?_eq_some_iff.1 hi).1; simpa using this
      simp [hil] at hi
      exact ⟨hil, hi.symm⟩
    refine ⟨some a, len, cap, (List.range len).map (fun i => (F i).1), rfl, by simp, hl, hm2, ?_, fun x hx => ?_⟩
    · by_cases h0 : len = 0
      · subst h0; exact .inl rfl
      · obtain ⟨b, off, spot⟩ := a
        have cell : ∀ i, i < len → ∀ q v, (ndL (F i).1 (F i).2)[q]? = some v → W.cell? (((⟨b, off, spot⟩ : Addr).add (i * 8)).add q) = some v := by
          intro i hi q v hq
          obtain ⟨h1, _⟩ := hF i hi
          obtain ⟨_, hz, hcell⟩ := World.cells?_some h1
          have hq8 : q < 8 := by have := (List.getElem?_eq_some_iff.1 hq).1; rw [ndL_length] at this; exact this
          rw [hcell q hq8]; exact hq
        have hspot : spot = none := by
          have := World.cell?_spot (cell 0 (by omega) 0 _ (ndL_0' (F 0).1 (F 0).2))
          simpa [Addr.add] using this
        subst hspot
        have adr : ∀ i q, (((⟨b, off, none⟩ : Addr).add (i * 8)).add q) = ⟨b, off + i * 8 + q, none⟩ := by
          intro i q
          by_cases hi : i * 8 = 0 <;> by_cases hq : q = 0 <;> simp [Addr.add, hi, hq]
        refine .inr ⟨b, off, rfl, fun i => (F i).2, fun i x hi => ?_⟩
        obtain ⟨hil, rfl⟩ := get i x hi
        refine ⟨nat_iff.2 fun q v hq => ?_, (hF i hil).2.1⟩
        have := cell i hil q v hq
        rwa [adr] at this
    · obtain ⟨i, hi, rfl⟩ := List.mem_map.1 hx
      exact (hF i (by simpa using hi)).2.2
end RowsIn
end Go.Proofs.Ytgmeecfdkcbggaa
