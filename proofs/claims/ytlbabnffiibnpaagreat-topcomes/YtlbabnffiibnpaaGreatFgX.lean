/-
  WHAT places GATHERS, in memory: no walk.
  WHAT places GATHERS: its first loops: the walk.
  WHAT slices.SortFunc DOES, at places: the library contract, applied.
  PLACES SORTED BY THEIR NAMES: the library contract, applied.
  WHAT IS SHOWN AT PLACES; places with nothing in them: the walks.
-/
import Derived.Test.YtlbabnffiibnpaaGreatHcX
import Derived.Test.YtlbabnffiibnpaaGreatUbX
import Derived.Maps.OwnOps
import Derived.Deep.RegionHeld3
import Derived.BigQuiet
import Derived.Shelf.SlSortCmp.WholeK
import Derived.Shelf.SlSortCmp.NoneTotal
import Derived.Test.YtlbabnffiibnpaaGreatProg
namespace Go.Proofs.YtlbabnffiibnpaaGreat
open Go.RowKit Go.Maps
theorem row_setCell {w : World} {base : Nat} {e : TypeId} {size g n cap : Nat} {xs : List Value} (h : w.ownsRow base e size (.slice (some ⟨g, 0, none⟩) n cap) n xs) (j : Nat) (u : Value) : (w.setCell ⟨g, j, none⟩ u).ownsRow base e size (.slice (some ⟨g, 0, none⟩) n cap) n (xs.set j u) := by
  refine ⟨by rw [List.length_set]; exact h.1, .inr ?_⟩
  rcases h.2 with ⟨e1, _⟩ | ⟨g', cap', cur, e1, hb, hg, h1, h2, h3, h4⟩
  · cases e1
  simp only [Value.slice.injEq, Option.some.injEq, Addr.mk.injEq, true_and] at e1
  obtain ⟨⟨rfl, _⟩, rfl⟩ := e1
  refine ⟨g, cap, cur.setIfInBounds j u, rfl, hb, ?_, h1, h2, by rw [Array.size_setIfInBounds]; exact h3, ?_⟩
  · obtain ⟨hlt, hk⟩ := Array.getElem?_eq_some_iff.1 hg
    show (w.heap.modify g _)[g]? = _
    rw [Array.getElem?_eq_getElem (by rw [Array.size_modify]; exact hlt), Array.getElem_modify_self, hk]
    rfl
  · rw [Array.toList_setIfInBounds, List.take_set, h4]
def plv : List Pe → List Value
  | [] => []
  | e :: r => .string e.n :: .slice e.a e.L.length e.c :: plv r
theorem plv_app : ∀ A B : List Pe, plv (A ++ B) = plv A ++ plv B
  | [], _ => rfl
  | e :: r, B => by simp [plv, plv_app r B]
theorem plv_at : ∀ (A : List Pe) (i : Nat) (e : Pe), A[i]? = some e → (plv A)[i * 2]? = some (.string e.n) ∧ (plv A)[i * 2 + 1]? = some (.slice e.a e.L.length e.c)
  | [], i, e, h => by simp at h
  | t :: A, 0, e, h => by simp at h; subst h; exact ⟨rfl, rfl⟩
  | t :: A, i + 1, e, h => by
    have := plv_at A i e (by simpa using h)
    rw [show (i + 1) * 2 = i * 2 + 2 by omega]
    simpa [plv] using this
theorem plv_one : ∀ (A : List Pe), ∀ u ∈ plv A, u.oneCell' = true
  | [], u, h => by cases h
  | e :: r, u, hu => by
    simp [plv] at hu
    rcases hu with rfl | rfl | hu
    · rfl
    · rfl
    · exact plv_one r u hu
theorem plv_set : ∀ (A : List Pe) (i : Nat) (e o : Pe), A[i]? = some o → o.n = e.n → plv (A.set i e) = (plv A).set (i * 2 + 1) (.slice e.a e.L.length e.c)
  | [], i, e, o, h, _ => by simp at h
  | t :: A, 0, e, o, h, hn => by
    simp at h
    subst h
    simp [plv, hn]
  | t :: A, i + 1, e, o, h, hn => by
    have := plv_set A i e o (by simpa using h) hn
    rw [show (i + 1) * 2 + 1 = i * 2 + 1 + 1 + 1 by omega]
    simp [plv, this]
/-- Where a name stands. -/
def idxN (nm : ByteArray) : List ByteArray → Nat → Option Nat
  | [], _ => none
  | x :: r, i => if x = nm then some i else idxN nm r (i + 1)
theorem idxN_no {nm : ByteArray} : ∀ {N : List ByteArray} {i : Nat}, nm ∉ N → idxN nm N i = none
  | [], _, _ => rfl
  | x :: r, i, h => by rw [idxN, if_neg (fun e => h (by rw [e]; exact List.mem_cons_self ..)), idxN_no fun e => h (List.mem_cons_of_mem _ e)]
theorem idxN_in {nm : ByteArray} : ∀ {N : List ByteArray} {i : Nat}, nm ∈ N → ∃ k, idxN nm N i = some (i + k) ∧ N[k]? = some nm
  | [], _, h => by cases h
  | x :: r, i, h => by
    rw [idxN]
    by_cases e : x = nm
    · rw [if_pos e]; exact ⟨0, rfl, by simp [e]⟩
    · rw [if_neg e]
      obtain ⟨k, h1, h2⟩ := idxN_in (i := i + 1) ((List.mem_cons.1 h).resolve_left fun q => e q.symm)
      exact ⟨k + 1, by rw [h1]; congr 1; omega, by simpa using h2⟩
theorem idxN_app {nm x : ByteArray} : ∀ {N : List ByteArray} {i : Nat}, idxN nm (N ++ [x]) i = (idxN nm N i).or (if x = nm then some (i + N.length) else none)
  | [], i => by
    show (if x = nm then some i else none) = (none : Option Nat).or (if x = nm then some (i + 0) else none)
    split <;> rfl
  | y :: r, i => by
    rw [List.cons_append, idxN, idxN]
    split
    · rfl
    · rw [idxN_app, List.length_cons, show i + 1 + r.length = i + (r.length + 1) by omega]
abbrev kN (nm : ByteArray) : Lit := .string nm.data.toList
theorem kN_inj {a b : ByteArray} (h : a ≠ b) : kN a ≠ kN b := fun e => h (by
  have e1 : a.data.toList = b.data.toList := by injection e
  have e2 : a.data = b.data := Array.toList_inj.1 e1
  cases a; cases b; simp at e2; rw [e2])
theorem kN_lit (nm : ByteArray) : WideAt.IsKeyLit (kN nm) := by simp [WideAt.IsKeyLit]
def TieN (D : DataW Unit) (N : List ByteArray) : Prop := IsMap D ∧ ∀ nm : ByteArray, Maps.has D (kN nm) = (idxN nm N 0).isSome ∧ D.atKey (kN nm) (.lit (.int .i64 0)) = .lit (.int .i64 (((idxN nm N 0).getD 0 : Nat) : Int))
theorem tieN_nil : TieN (.map []) [] := ⟨isMap_empty, fun _ => ⟨rfl, rfl⟩⟩
theorem tieN_put {D : DataW Unit} {N : List ByteArray} {x : ByteArray} (h : TieN D N) (hn : x ∉ N) : TieN (D.put (kN x) (.lit (.int .i64 (N.length : Int)))) (N ++ [x]) := by
  refine ⟨h.1.put _ _, fun nm => ?_⟩
  rw [idxN_app]
  by_cases e : x = nm
  · subst e
    rw [if_pos rfl, idxN_no hn, has_put_same h.1 (kN_lit _), atKey_put_same h.1 (kN_lit _)]
    exact ⟨rfl, by simp⟩
  · have hne := kN_inj fun q => e (Eq.symm q)
    rw [if_neg e, Option.or_none, has_put_other hne, atKey_put_other hne]
    exact h.2 nm
theorem keyS : Keyed Tryz.prog 9 := string_keyed Tryz.underlying9
theorem zeroI3 (w : World) : (zeroValue 3).run Tryz.prog w = .ok (.int .i64 0) w := by kernel_rfl
theorem omap_keep {w w' : World} {b n : Nat} {D : DataW Unit} (h : w.ownsMap Tryz.prog 9 (plainElem Tryz.prog 3) b n D) (hb : w'.heap[b]? = w.heap[b]?) : w'.ownsMap Tryz.prog 9 (plainElem Tryz.prog 3) b n D := by
  obtain ⟨es, clock, hh, r⟩ := h
  exact ⟨es, clock, hb.trans hh, r⟩
theorem omap_row {w : World} {b n base m : Nat} {D : DataW Unit} {t : TypeId} {size : Nat} {v : Value} {xs : List Value} (h : w.ownsMap Tryz.prog 9 (plainElem Tryz.prog 3) b n D) (hr : w.ownsRow base t size v m xs) : v.ownBlock ≠ some b := by
  obtain ⟨es, clock, hh, r⟩ := h
  rcases hr.2 with ⟨rfl, _⟩ | ⟨g, cap, cur, rfl, _, hg, _⟩
  · simp [Value.ownBlock]
  · intro e
    simp [Value.ownBlock] at e
    subst e
    rw [hh] at hg
    cases hg
theorem rows_ne {w : World} {b1 b2 n1 n2 s1 s2 : Nat} {t1 t2 : TypeId} {v1 v2 : Value} {x1 x2 : List Value} (ht : t1 ≠ t2) (h1 : w.ownsRow b1 t1 s1 v1 n1 x1) (h2 : w.ownsRow b2 t2 s2 v2 n2 x2) : v1.ownBlock = none ∨ v1.ownBlock ≠ v2.ownBlock := by
  rcases h1.2 with ⟨rfl, _⟩ | ⟨g, cap, cur, rfl, _, hg, _⟩
  · exact .inl rfl
  · right
    rcases h2.2 with ⟨rfl, _⟩ | ⟨g', cap', cur', rfl, _, hg', _⟩
    · simp [Value.ownBlock]
    · intro e
      simp [Value.ownBlock] at e
      subst e
      rw [hg] at hg'
      simp at hg'
      exact ht hg'.2
/-- What stands while kids are gone over. -/
structure PlJ (w W : World) (mb : Nat) (v : Value) (E : List Pe) : Prop where
  low : Below w.heap.size w W
  row : W.ownsRow w.heap.size 92 2 v E.length (plv E)
  each : ∀ e ∈ E, W.ownsRow w.heap.size 59 2 (.slice e.a e.L.length e.c) e.L.length (flatS e.L)
  apart : ∀ (i j : Nat) e f, E[i]? = some e → E[j]? = some f → i ≠ j → e.a ≠ f.a
  ne : ∀ e ∈ E, e.L ≠ []
  mp : ∃ D, W.ownsMap Tryz.prog 9 (plainElem Tryz.prog 3) mb E.length D ∧ TieN D (E.map (·.n))
  mlow : w.heap.size ≤ mb
theorem PlJ.keep {w W W' : World} {mb : Nat} {v : Value} {E : List Pe} (h : PlJ w W mb v E) (hb : Below W.heap.size W W') : PlJ w W' mb v E := by
  obtain ⟨D, h1, h2⟩ := h.mp
  exact ⟨h.low.trans (hb.mono h.low.size), ownsRow_bel h.row hb, fun e he => ownsRow_bel (h.each e he) hb, h.apart, h.ne, ⟨D, omap_keep h1 (hb.block mb h1.lt), h2⟩, h.mlow⟩
theorem own_some {w : World} {base : Nat} {t : TypeId} {a : Option Addr} {n cap size : Nat} {xs : List Value} (h : w.ownsRow base t size (.slice a n cap) n xs) (hn : 0 < n) : ∃ g, a = some ⟨g, 0, none⟩ ∧ base ≤ g ∧ g < w.heap.size := by
  rcases h.2 with ⟨_, h0⟩ | ⟨g, cap', cur, e, hb, hg, _⟩
  · omega
  · simp only [Value.slice.injEq, true_and] at e
    exact ⟨g, e.1, hb, (Array.getElem?_eq_some_iff.1 hg).1⟩
theorem PlJ.new {w W W1 W4 : World} {mb : Nat} {v v' : Value} {E : List Pe} {nm : ByteArray} {s : Sp} {D : DataW Unit} (h : PlJ w W mb v E) (hD : W1.ownsMap Tryz.prog 9 (plainElem Tryz.prog 3) mb (E.length + 1) D) (hT : TieN D (E.map (·.n) ++ [nm])) (hg1 : W.grownBy W1 (some mb))
    (hown : W4.ownsRow w.heap.size 92 2 v' (E.length + 1) (plv E ++ plv [⟨nm, some ⟨W1.heap.size, 0, none⟩, 1, [s]⟩]))
    (hg4 : ((W1.alloc (.cells #[.pointer (some ⟨s.b, s.p, none⟩), .int .i64 s.ly] 59)).alloc (.cells #[.string nm, .slice (some ⟨W1.heap.size, 0, none⟩) 1 1] 92)).grownBy W4 v.ownBlock) :
    PlJ w W4 mb v' (E ++ [⟨nm, some ⟨W1.heap.size, 0, none⟩, 1, [s]⟩]) := by
  have hs3 : ((W1.alloc (.cells #[.pointer (some ⟨s.b, s.p, none⟩), .int .i64 s.ly] 59)).alloc (.cells #[.string nm, .slice (some ⟨W1.heap.size, 0, none⟩) 1 1] 92)).heap.size = W1.heap.size + 1 + 1 := by rw [World.size_alloc, World.size_alloc]
  have hlow1 : w.heap.size ≤ W1.heap.size := Nat.le_trans h.low.size hg1.size
  have hvW : ∀ g, v.ownBlock = some g → w.heap.size ≤ g ∧ g < W.heap.size := fun g hg => ⟨(h.row.lt g hg).1, (h.row.lt g hg).2⟩
  -- what an elder block is
  have blk : ∀ k, k < W.heap.size → k ≠ mb → v.ownBlock ≠ some k → W4.heap[k]? = W.heap[k]? := fun k hk h1 h2 => by
    rw [hg4.block k (by rw [hs3]; have := hg1.size; omega) (fun e => h2 e.symm), Below.heap_alloc _ _ _ (by rw [World.size_alloc]; have := hg1.size; omega), Below.heap_alloc _ _ _ (by have := hg1.size; omega)]
    exact hg1.block k hk (by simpa using h1)
  obtain ⟨D0, hD0, _⟩ := h.mp
  have low4 : Below w.heap.size W W4 := ⟨hg4.os.trans hg1.os, hg4.tape.trans hg1.tape, hg4.output.trans hg1.output, by have h1 := hg4.size; rw [hs3] at h1; have := hg1.size; omega, fun k hk => blk k (Nat.lt_of_lt_of_le hk h.low.size) (fun e => by have := h.mlow; omega) (fun e => by have := (hvW k e).1; omega)⟩
  have hnew : ((W1.alloc (.cells #[.pointer (some ⟨s.b, s.p, none⟩), .int .i64 s.ly] 59))).ownsRow w.heap.size 59 2 (.slice (some ⟨W1.heap.size, 0, none⟩) 1 1) 1 (flatS [s]) :=
    ⟨rfl, .inr ⟨W1.heap.size, 1, #[.pointer (some ⟨s.b, s.p, none⟩), .int .i64 s.ly], rfl, hlow1, heap_alloc_new W1 _, Nat.le_refl _, by decide, rfl, rfl⟩⟩
  refine ⟨h.low.trans low4, ?_, ?_, ?_, ?_, ?_, h.mlow⟩
  · rw [List.length_append, plv_app]; exact hown
  · intro e he
    rcases List.mem_append.1 he with he | he
    · have hr := h.each e he
      refine owns_keep hr fun g hg => ?_
      have hn := omap_row hD0 hr
      have hne := rows_ne (show 59 ≠ 92 by decide) hr h.row
      refine blk g (hr.lt g hg).2 (fun e1 => hn (by rw [hg, e1])) (fun e1 => ?_)
      rcases hne with q | q
      · rw [hg] at q; cases q
      · exact q (hg.trans e1.symm)
    · rw [List.mem_singleton] at he
      subst he
      refine (hnew.alloc _).kept hg4 (.inr fun e1 => ?_)
      have h1 := (hvW W1.heap.size (by rw [← e1]; rfl)).2
      have := hg1.size
      omega
  · intro i j e f hi hj hij
    have key : ∀ (i : Nat) e, E[i]? = some e → e.a ≠ some ⟨W1.heap.size, 0, none⟩ := fun i e hi e1 => by
      have hr := h.each e (List.mem_of_getElem? hi)
      obtain ⟨g, e2, _, h3⟩ := own_some hr (List.length_pos_iff.2 (h.ne e (List.mem_of_getElem? hi)))
      rw [e1] at e2
      simp only [Option.some.injEq, Addr.mk.injEq] at e2
      have := hg1.size
      omega
    rw [List.getElem?_append] at hi hj
    split at hi
    · split at hj
      · exact h.apart i j e f hi hj hij
      · rw [List.getElem?_singleton] at hj
        split at hj
        · cases hj; exact key i e hi
        · cases hj
    · rename_i hil
      rw [List.getElem?_singleton] at hi
      split at hi
      · cases hi
        split at hj
        · exact fun e1 => key j f hj e1.symm
        · rw [List.getElem?_singleton] at hj
          split at hj
          · omega
          · cases hj
      · cases hi
  · intro e he
    rcases List.mem_append.1 he with he | he
    · exact h.ne e he
    · rw [List.mem_singleton] at he
      subst he
      simp
  · refine ⟨D, ?_, by rw [List.map_append]; exact hT⟩
    rw [List.length_append]
    refine omap_keep hD ?_
    have hmb := hD0.lt
    rw [hg4.block mb (by rw [hs3]; have := hg1.size; omega) (fun e => omap_row hD0 h.row e.symm), Below.heap_alloc _ _ _ (by rw [World.size_alloc]; have := hg1.size; omega), Below.heap_alloc _ _ _ (by have := hg1.size; omega)]
theorem PlJ.add {w W W2 : World} {mb rb cap : Nat} {E : List Pe} {i : Nat} {e : Pe} {s : Sp} {a2 : Option Addr} {c2 : Nat} (h : PlJ w W mb (.slice (some ⟨rb, 0, none⟩) E.length cap) E) (hi : E[i]? = some e)
    (hown : W2.ownsRow w.heap.size 59 2 (.slice a2 (e.L.length + 1) c2) (e.L.length + 1) (flatS e.L ++ flatS [s])) (hg : (W.alloc (.cells #[.pointer (some ⟨s.b, s.p, none⟩), .int .i64 s.ly] 59)).grownBy W2 (Value.slice e.a e.L.length e.c).ownBlock)
    (ho : (Value.slice a2 (e.L.length + 1) c2).ownBlock = (Value.slice e.a e.L.length e.c).ownBlock ∨ (Value.slice a2 (e.L.length + 1) c2).ownBlock = some (W.alloc (.cells #[.pointer (some ⟨s.b, s.p, none⟩), .int .i64 s.ly] 59)).heap.size) :
    PlJ w (W2.setCell ⟨rb, i * 2 + 1, none⟩ (.slice a2 (e.L.length + 1) c2)) mb (.slice (some ⟨rb, 0, none⟩) E.length cap) (E.set i ⟨e.n, a2, c2, e.L ++ [s]⟩) := by
  have hm := List.mem_of_getElem? hi
  have hre := h.each e hm
  have hpos := List.length_pos_iff.2 (h.ne e hm)
  obtain ⟨ge, ea, hge1, hge2⟩ := own_some hre hpos
  obtain ⟨g2, ea2, hg21, hg22⟩ := own_some hown (by omega)
  rw [World.size_alloc] at ho
  rw [ea, ea2] at ho
  simp only [Value.ownBlock, Option.some.injEq] at ho
  rw [ea] at hg
  simp only [Value.ownBlock] at hg
  have hilt := (List.getElem?_eq_some_iff.1 hi).1
  obtain ⟨rr, er, hrb1, hrb2⟩ := own_some h.row (by omega)
  simp only [Option.some.injEq, Addr.mk.injEq] at er
  obtain ⟨er, _⟩ := er
  subst er
  have hrbe : rb ≠ ge := fun q => by
    rcases rows_ne (show 92 ≠ 59 by decide) h.row hre with e1 | e1
    · cases e1
    · exact e1 (by rw [ea]; show some rb = some ge; rw [q])
  obtain ⟨D, hD, hT⟩ := h.mp
  have hmbe : mb ≠ ge := fun q => omap_row hD hre (by rw [ea, q]; rfl)
  have hmbr : mb ≠ rb := fun q => omap_row hD h.row (by rw [q]; rfl)
  have hsz2 := hg.size
  rw [World.size_alloc] at hsz2
  have blk : ∀ k, k < W.heap.size → k ≠ ge → W2.heap[k]? = W.heap[k]? := fun k hk h1 => by
    rw [hg.block k (by rw [World.size_alloc]; omega) (by simpa using h1), Below.heap_alloc _ _ _ hk]
  have blk2 : ∀ k, k < W.heap.size → k ≠ ge → k ≠ rb → (W2.setCell ⟨rb, i * 2 + 1, none⟩ (.slice a2 (e.L.length + 1) c2)).heap[k]? = W.heap[k]? := fun k hk h1 h2 => by
    rw [Below.heap_setCell _ _ _ _ (by exact h2)]; exact blk k hk h1
  have hrbg2 : g2 ≠ rb := by
    rcases ho with q | q
    · rw [q]; exact fun e1 => hrbe e1.symm
    · rw [q]; omega
  have low2 : Below w.heap.size W W2 := ⟨hg.os, hg.tape, hg.output, by omega, fun k hk => blk k (Nat.lt_of_lt_of_le hk h.low.size) (by omega)⟩
  refine ⟨h.low.trans (low2.setCell (p := ⟨rb, i * 2 + 1, none⟩) hrb1 _), ?_, ?_, ?_, ?_, ?_, h.mlow⟩
  · rw [List.length_set, plv_set E i ⟨e.n, a2, c2, e.L ++ [s]⟩ e hi rfl, show (e.L ++ [s]).length = e.L.length + 1 by simp]
    exact row_setCell (owns_keep h.row fun k hk => by
      simp [Value.ownBlock] at hk
      subst hk
      exact blk rb hrb2 hrbe) _ _
  · intro f hf
    obtain ⟨j, hj⟩ := List.getElem?_of_mem hf
    rw [List.getElem?_set] at hj
    split at hj
    · cases hj
      · show World.ownsRow _ _ _ _ (.slice a2 (e.L ++ [s]).length c2) (e.L ++ [s]).length (flatS (e.L ++ [s]))
        rw [flatS_app, show (e.L ++ [s]).length = e.L.length + 1 by simp]
        exact owns_keep hown fun k hk => by
          rw [ea2] at hk
          simp [Value.ownBlock] at hk
          subst hk
          exact Below.heap_setCell _ _ _ _ (by exact hrbg2)
    · rename_i hij
      have hr := h.each f (List.mem_of_getElem? hj)
      obtain ⟨gf, ef, hf1, hf2⟩ := own_some hr (List.length_pos_iff.2 (h.ne f (List.mem_of_getElem? hj)))
      have hfe : gf ≠ ge := fun q => h.apart j i f e hj hi (fun q => hij q.symm) (by rw [ef, ea, q])
      have hfr : gf ≠ rb := fun q => by
        rcases rows_ne (show 92 ≠ 59 by decide) h.row hr with e1 | e1
        · cases e1
        · exact e1 (by rw [ef]; show some rb = some gf; rw [q])
      refine owns_keep hr fun k hk => ?_
      rw [ef] at hk
      simp [Value.ownBlock] at hk
      subst hk
      exact blk2 _ hf2 hfe hfr
  · -- rows lie apart
    have key : ∀ (j : Nat) f, E[j]? = some f → j ≠ i → f.a ≠ a2 := fun j f hj hji e1 => by
      have hr := h.each f (List.mem_of_getElem? hj)
      obtain ⟨gf, ef, hf1, hf2⟩ := own_some hr (List.length_pos_iff.2 (h.ne f (List.mem_of_getElem? hj)))
      rw [ef, ea2] at e1
      simp only [Option.some.injEq, Addr.mk.injEq] at e1
      rcases ho with q | q
      · exact h.apart j i f e hj hi hji (by rw [ef, ea]; simp)
      · omega
    intro p q f f' hp hq hpq
    rw [List.getElem?_set] at hp hq
    split at hp
    · rename_i e1
      cases hp
      split at hq
      · omega
      · exact fun e2 => key q f' hq (by omega) e2.symm
    · split at hq
      · cases hq
        exact key p f hp (by omega)
      · exact h.apart p q f f' hp hq hpq
  · intro f hf
    obtain ⟨j, hj⟩ := List.getElem?_of_mem hf
    rw [List.getElem?_set] at hj
    split at hj
    · cases hj; simp
    · exact h.ne f (List.mem_of_getElem? hj)
  · refine ⟨D, ?_, ?_⟩
    · rw [List.length_set]
      exact omap_keep hD (blk2 mb hD.lt hmbe hmbr)
    · have e1 : (E.set i ⟨e.n, a2, c2, e.L ++ [s]⟩).map (·.n) = E.map (·.n) := by
        rw [List.map_set]
        apply List.ext_getElem?
        intro j
        rw [List.getElem?_set]
        split
        · rename_i e2
          subst e2
          obtain ⟨hlt, ee⟩ := List.getElem?_eq_some_iff.1 hi
          simp [hlt, ee]
        · rfl
      rw [e1]; exact hT
theorem PlJ.start {w W : World} {mb : Nat} (hl : Below w.heap.size w W) (hm : w.heap.size ≤ mb) {D : DataW Unit} (hD : W.ownsMap Tryz.prog 9 (plainElem Tryz.prog 3) mb 0 D) (hT : TieN D []) : PlJ w W mb (.slice none 0 0) [] :=
  ⟨hl, World.ownsRow_nil _ _ _ _, fun e he => (by cases he), fun i j e f hi => (by simp at hi), fun e he => (by cases he), ⟨D, hD, hT⟩, hm⟩
end Go.Proofs.YtlbabnffiibnpaaGreat
namespace Go.Proofs.YtlbabnffiibnpaaGreat
open Go.RowKit Go.Maps
/-- The kids of a spot, with their names. -/
def KOf (c : Mem) (d : Sp) (k : List KSf) : Prop := k.length = d.x.dirKs.length ∧ ∀ (j : Nat) p, d.x.dirKs[j]? = some p → ∃ (kb ko : Nat) (s : Sp), d.h.ak = some ⟨kb, ko, none⟩ ∧ k[j]? = some (p.1, s) ∧ s.b = kb ∧ s.p = ko + j * 9 + 1 ∧ s.ly = d.ly ∧ s.x = p.2 ∧ c ⟨kb, ko + j * 9, none⟩ = some (.string p.1) ∧ SpAt c s
theorem kof_of {c : Mem} {d : Sp} (h : SpAt c d) : ∃ k, KOf c d k := by
  obtain ⟨b, p, ly, ⟨kk, m, u, g, o, at_, dd, ks⟩, hd⟩ := d
  by_cases hk : kk = 2
  · obtain ⟨_, _, _, hK⟩ := ndV_iff.1 h.2
    have e0 : (Nd.mk kk m u g o at_ dd ks).dirKs = ks := if_pos hk
    rcases hK with e | ⟨kb, ko, e, f, hf⟩
    · refine ⟨[], ?_⟩
      unfold KOf
      rw [show (Sp.mk b p ly (.mk kk m u g o at_ dd ks) hd).x.dirKs = ks from e0, e]
      exact ⟨rfl, fun j p hj => by simp at hj⟩
    · refine ⟨ks.mapIdx fun j p => (p.1, ⟨kb, ko + j * 9 + 1, ly, p.2, f j⟩), ?_⟩
      unfold KOf
      rw [show (Sp.mk b p ly (.mk kk m u g o at_ dd ks) hd).x.dirKs = ks from e0]
      refine ⟨by simp, fun j q hj => ⟨kb, ko, ⟨kb, ko + j * 9 + 1, ly, q.2, f j⟩, e, ?_, rfl, rfl, rfl, rfl, (hf j q.1 q.2 hj).1.1, (hf j q.1 q.2 hj).1.2, (hf j q.1 q.2 hj).2⟩⟩
      rw [List.getElem?_mapIdx, hj]; rfl
  · refine ⟨[], ?_⟩
    unfold KOf
    rw [show (Sp.mk b p ly (.mk kk m u g o at_ dd ks) hd).x.dirKs = [] from if_neg hk]
    exact ⟨rfl, fun j p hj => by simp at hj⟩
theorem kof_all {c : Mem} {D : List Sp} (hD : ∀ d ∈ D, SpAt c d) : ∃ K : List (List KSf), K.length = D.length ∧ ∀ (i : Nat) d, D[i]? = some d → ∃ k, K[i]? = some k ∧ KOf c d k := by
  induction D with
  | nil => exact ⟨[], rfl, fun i d hi => by simp at hi⟩
  | cons d D ih =>
    obtain ⟨K, h1, h2⟩ := ih fun e he => hD e (List.mem_cons_of_mem _ he)
    obtain ⟨k, hk⟩ := kof_of (hD d (List.mem_cons_self ..))
    refine ⟨k :: K, by simp [h1], fun i e hi => ?_⟩
    cases i with
    | zero => simp at hi; subst hi; exact ⟨k, rfl, hk⟩
    | succ i => exact h2 i e (by simpa using hi)
theorem fstS_kof {c : Mem} {d : Sp} {k : List KSf} (h : KOf c d k) (nm : ByteArray) : (fstS nm k).map Sp.pr = (kidO nm d.x).map fun y => (y, d.ly) := by
  rw [kidO_eq]
  obtain ⟨h1, h2⟩ := h
  generalize d.x.dirKs = ks at h1 h2
  have key : ∀ (ks : Kds) (k : List KSf), k.length = ks.length → (∀ (j : Nat) p, ks[j]? = some p → ∃ s : Sp, k[j]? = some (p.1, s) ∧ s.ly = d.ly ∧ s.x = p.2) → (fstS nm k).map Sp.pr = (fstK nm ks).map fun y => (y, d.ly) := by
    intro ks
    induction ks with
    | nil =>
      intro k hk _
      rw [List.eq_nil_of_length_eq_zero hk]; rfl
    | cons p ks ih =>
      intro k hk hj
      cases k with
      | nil => simp at hk
      | cons q k =>
        obtain ⟨s, e1, e2, e3⟩ := hj 0 p rfl
        simp at e1
        subst e1
        rw [fstS, fstK]
        split
        · simp [Sp.pr, e2, e3]
        · exact ih k (by simpa using hk) fun j p' hp' => by
            obtain ⟨s', f1, f2⟩ := hj (j + 1) p' (by simpa using hp')
            exact ⟨s', by simpa using f1, f2⟩
  exact key ks k h1 fun j p hj => by
    obtain ⟨_, _, s, _, e1, _, _, e2, e3, _⟩ := h2 j p hj
    exact ⟨s, e1, e2, e3⟩
theorem wnt_kof {c : Mem} {D : List Sp} {K : List (List KSf)} (hl : K.length = D.length) (h : ∀ (i : Nat) d, D[i]? = some d → ∃ k, K[i]? = some k ∧ KOf c d k) (nm : ByteArray) : (wnt nm K []).map Sp.pr = kidsP nm (D.map Sp.pr) := by
  unfold wnt kidsP
  show (K.filterMap (fstS nm) ++ []).map Sp.pr = _
  rw [List.append_nil]
  induction D generalizing K with
  | nil => rw [List.eq_nil_of_length_eq_zero hl]; rfl
  | cons d D ih =>
    cases K with
    | nil => simp at hl
    | cons k K =>
      obtain ⟨k', e1, hk⟩ := h 0 d rfl
      simp at e1
      subst e1
      have ih2 := ih (K := K) (by simpa using hl) fun i e hi => by
        obtain ⟨k2, f1, f2⟩ := h (i + 1) e (by simpa using hi)
        exact ⟨k2, by simpa using f1, f2⟩
      have e2 := fstS_kof hk nm
      rw [List.filterMap_cons, List.map_cons, List.filterMap_cons]
      have e3 : Option.map (fun y => (y, d.pr.snd)) (kidO nm d.pr.fst) = (fstS nm k).map Sp.pr := e2.symm
      rw [e3]
      cases fstS nm k with
      | none => exact ih2
      | some s => simp only [List.map_cons, Option.map_some]; rw [ih2]
/-- The kids that are asked for, as a slice. -/
theorem kidsS_any {w : World} {d : Sp} (hs : SpAt w.cell? d) : ∃ ka kc, (d.x.dirKs ≠ [] → ka = d.h.ak) ∧
    Calls Tryz.prog 56 #[.agg #[.pointer (some ⟨d.b, d.p, none⟩), .int .i64 d.ly]] w fun e w' => e = .returned (.slice ka d.x.dirKs.length kc) ∧ Below w.heap.size w w' := by
  have h := kids_any hs
  by_cases hk : d.x.kind = 2
  · refine ⟨d.h.ak, d.h.ck, fun _ => rfl, ?_⟩
    rw [if_pos hk] at h
    have e : d.x.dirKs = d.x.kids := if_pos hk
    rw [e]; exact h
  · refine ⟨none, 0, fun hne => absurd (if_neg hk) hne, ?_⟩
    rw [if_neg hk] at h
    have e : d.x.dirKs = [] := if_neg hk
    rw [e]; exact h
/-- What is gathered so far, as it stands in memory. -/
def pls (E : List Pe) : Pls := E.map Pe.pl
theorem pls_n (E : List Pe) : (pls E).map (·.1) = E.map (·.n) := by unfold pls; rw [List.map_map]; rfl
theorem pls_get {E : List Pe} {i : Nat} {e : Pe} (h : E[i]? = some e) : (pls E)[i]? = some (e.n, e.L) := by unfold pls; rw [List.getElem?_map, h]; rfl
theorem pls_set (E : List Pe) (i : Nat) (e : Pe) : pls (E.set i e) = (pls E).set i (e.n, e.L) := by unfold pls; rw [List.map_set]; rfl
theorem pls_app (E : List Pe) (e : Pe) : pls (E ++ [e]) = pls E ++ [(e.n, e.L)] := by unfold pls; rw [List.map_append]; rfl
theorem Tryz.infoP : (Tryz.prog.info? 92).map (fun i => (i.zero, i.size, i.bytes)) = some (some (.agg #[.string ⟨#[]⟩, .slice none 0 0]), 2, 40) := by kernel_rfl
/-- How much is gathered. -/
def gat : List Pe → Nat
  | [] => 0
  | e :: r => e.L.length + gat r
theorem gat_app : ∀ (A : List Pe) (e : Pe), gat (A ++ [e]) = gat A + e.L.length
  | [], e => by simp [gat]
  | a :: A, e => by simp [gat, gat_app A e]; omega
theorem gat_len : ∀ {E : List Pe}, (∀ e ∈ E, e.L ≠ []) → E.length ≤ gat E
  | [], _ => Nat.le_refl _
  | e :: E, h => by
    have h1 := gat_len fun f hf => h f (List.mem_cons_of_mem _ hf)
    have h2 := List.length_pos_iff.2 (h e (List.mem_cons_self ..))
    simp [gat]; omega
theorem gat_mem : ∀ {E : List Pe} {e : Pe}, e ∈ E → e.L.length ≤ gat E
  | [], _, h => by cases h
  | a :: E, e, h => by
    rcases List.mem_cons.1 h with q | q
    · rw [q]; simp [gat]
    · have := gat_mem q; simp [gat]; omega
theorem gat_set : ∀ {E : List Pe} {i : Nat} {e e' : Pe}, E[i]? = some e → e'.L.length = e.L.length + 1 → gat (E.set i e') = gat E + 1
  | [], i, e, e', h, _ => by simp at h
  | a :: E, 0, e, e', h, k => by simp at h; subst h; simp [gat, k]; omega
  | a :: E, i + 1, e, e', h, k => by have := gat_set (E := E) (i := i) (by simpa using h) k; simp [gat, this]; omega
def kc (K : List (List KSf)) : Nat := (K.map List.length).sum
theorem kc_snoc (K : List (List KSf)) (k : List KSf) : kc (K ++ [k]) = kc K + k.length := by simp [kc]
theorem kc_take {K : List (List KSf)} {j : Nat} {k : List KSf} (h : K[j]? = some k) : kc (K.take j) + k.length ≤ kc K := by
  have e : K = K.take j ++ k :: K.drop (j + 1) := take_nextM h
  have e2 : kc K = kc (K.take j ++ k :: K.drop (j + 1)) := by rw [← e]
  rw [e2]
  simp [kc]
theorem kc_tot {c : Mem} {D : List Sp} {K : List (List KSf)} (hl : K.length = D.length) (h : ∀ (i : Nat) d, D[i]? = some d → ∃ k, K[i]? = some k ∧ KOf c d k) : kc K ≤ tot (D.map Sp.pr) := by
  induction D generalizing K with
  | nil => rw [List.eq_nil_of_length_eq_zero hl]; exact Nat.zero_le _
  | cons d D ih =>
    cases K with
    | nil => simp at hl
    | cons k K =>
      obtain ⟨k', e1, hk⟩ := h 0 d rfl
      simp at e1
      subst e1
      have ih2 := ih (K := K) (by simpa using hl) fun i e hi => by
        obtain ⟨k2, f1, f2⟩ := h (i + 1) e (by simpa using hi)
        exact ⟨k2, by simpa using f1, f2⟩
      have h1 := hk.1
      have h2 := cnt_kidsN d.x
      have h3 := cntL_len d.x.dirKs
      have e4 : cnt d.pr.1 = cnt d.x := rfl
      simp only [kc, List.map_cons, List.sum_cons, tot] at ih2 ⊢
      omega
end Go.Proofs.YtlbabnffiibnpaaGreat
namespace Go.Proofs
open Go.Shelf
def Tryz.sortL_ren : Go.Shelf.Ren := ⟨fun | 6 => 60 | 14 => 73 | 15 => 74 | 20 => 78 | 21 => 79 | 22 => 80 | 23 => 81 | 24 => 82 | 25 => 83 | 26 => 84 | 27 => 85 | 28 => 86 | 29 => 87 | 46 => 91 | 47 => 92 | 48 => 93 | 49 => 94 | 50 => 95 | 57 => 97 | n => n, fun | 0 => 0 | 3 => 3 | 4 => 4 | 5 => 5 | 9 => 9 | 22 => 88 | 25 => 121 | 39 => 132 | 45 => 138 | 46 => 139 | 50 => 115 | 53 => 145 | 55 => 147 | 66 => 149 | 70 => 153 | 76 => 155 | 77 => 134 | 24 => 92 | n => n, fun n => n⟩
theorem Tryz.sortL : Go.Proofs.SlLaysF0.n6 Tryz.prog Tryz.sortL_ren := {
  mixed := by kernel_rfl
  f6 := ⟨ "slices.SortFunc[[]idshift/merge.place,idshift/merge.place]", by decide, Tryz.func60.trans (congrArg some (by kernel_rfl))⟩
  f14 := ⟨ "slices.pdqsortCmpFunc[idshift/merge.place]", by decide, Tryz.func73.trans (congrArg some (by kernel_rfl))⟩
  f15 := Tryz.func74.trans (congrArg some (by kernel_rfl))
  f20 := ⟨ "slices.insertionSortCmpFunc[idshift/merge.place]", by decide, Tryz.func78.trans (congrArg some (by kernel_rfl))⟩
  f21 := ⟨ "slices.heapSortCmpFunc[idshift/merge.place]", by decide, Tryz.func79.trans (congrArg some (by kernel_rfl))⟩
  f22 := ⟨ "slices.breakPatternsCmpFunc[idshift/merge.place]", by decide, Tryz.func80.trans (congrArg some (by kernel_rfl))⟩
  f23 := ⟨ "slices.choosePivotCmpFunc[idshift/merge.place]", by decide, Tryz.func81.trans (congrArg some (by kernel_rfl))⟩
  f24 := ⟨ "slices.reverseRangeCmpFunc[idshift/merge.place]", by decide, Tryz.func82.trans (congrArg some (by kernel_rfl))⟩
  f25 := ⟨ "slices.partialInsertionSortCmpFunc[idshift/merge.place]", by decide, Tryz.func83.trans (congrArg some (by kernel_rfl))⟩
  f26 := ⟨ "slices.partitionEqualCmpFunc[idshift/merge.place]", by decide, Tryz.func84.trans (congrArg some (by kernel_rfl))⟩
  f27 := ⟨ "slices.partitionCmpFunc[idshift/merge.place]", by decide, Tryz.func85.trans (congrArg some (by kernel_rfl))⟩
  f28 := Tryz.func86.trans (congrArg some (by kernel_rfl))
  f29 := Tryz.func87.trans (congrArg some (by kernel_rfl))
  f46 := ⟨ "slices.siftDownCmpFunc[idshift/merge.place]", by decide, Tryz.func91.trans (congrArg some (by kernel_rfl))⟩
  f47 := Tryz.func92.trans (congrArg some (by kernel_rfl))
  f48 := Tryz.func93.trans (congrArg some (by kernel_rfl))
  f49 := ⟨ "slices.medianAdjacentCmpFunc[idshift/merge.place]", by decide, Tryz.func94.trans (congrArg some (by kernel_rfl))⟩
  f50 := ⟨ "slices.medianCmpFunc[idshift/merge.place]", by decide, Tryz.func95.trans (congrArg some (by kernel_rfl))⟩
  f57 := ⟨ "slices.order2CmpFunc[idshift/merge.place]", by decide, Tryz.func97.trans (congrArg some (by kernel_rfl))⟩
  t0 := Tryz.underlying0
  a0 := Tryz.isAgg0
  z0 := Tryz.sizeOf0
  v0 := Tryz.zeroValue0
  t3 := Tryz.underlying3
  a3 := Tryz.isAgg3
  z3 := Tryz.sizeOf3
  v3 := Tryz.zeroValue3
  t4 := Tryz.underlying4
  a4 := Tryz.isAgg4
  z4 := Tryz.sizeOf4
  v4 := Tryz.zeroValue4
  t5 := Tryz.underlying5
  a5 := Tryz.isAgg5
  z5 := Tryz.sizeOf5
  v5 := Tryz.zeroValue5
  t9 := Tryz.underlying9
  a9 := Tryz.isAgg9
  z9 := Tryz.sizeOf9
  v9 := Tryz.zeroValue9
  t22 := Tryz.underlying88
  a22 := Tryz.isAgg88
  z22 := Tryz.sizeOf88
  v22 := Tryz.zeroValue88
  t25 := Tryz.underlying121
  a25 := Tryz.isAgg121
  z25 := Tryz.sizeOf121
  v25 := Tryz.zeroValue121
  t39 := Tryz.underlying132
  a39 := Tryz.isAgg132
  z39 := Tryz.sizeOf132
  v39 := Tryz.zeroValue132
  t45 := Tryz.underlying138
  a45 := Tryz.isAgg138
  z45 := Tryz.sizeOf138
  v45 := Tryz.zeroValue138
  t46 := Tryz.underlying139
  a46 := Tryz.isAgg139
  z46 := Tryz.sizeOf139
  v46 := Tryz.zeroValue139
  t50 := Tryz.underlying115
  a50 := Tryz.isAgg115
  z50 := Tryz.sizeOf115
  v50 := Tryz.zeroValue115
  t53 := Tryz.underlying145
  a53 := Tryz.isAgg145
  z53 := Tryz.sizeOf145
  v53 := Tryz.zeroValue145
  t55 := Tryz.underlying147
  a55 := Tryz.isAgg147
  z55 := Tryz.sizeOf147
  v55 := Tryz.zeroValue147
  t66 := Tryz.underlying149
  a66 := Tryz.isAgg149
  z66 := Tryz.sizeOf149
  v66 := Tryz.zeroValue149
  t70 := Tryz.underlying153
  a70 := Tryz.isAgg153
  z70 := Tryz.sizeOf153
  v70 := Tryz.zeroValue153
  t76 := Tryz.underlying155
  a76 := Tryz.isAgg155
  z76 := Tryz.sizeOf155
  v76 := Tryz.zeroValue155
  t77 := Tryz.underlying134
  a77 := Tryz.isAgg134
  z77 := Tryz.sizeOf134
  v77 := Tryz.zeroValue134 }
end Go.Proofs
namespace Go.Proofs.YtlbabnffiibnpaaGreat
open Go.RowKit Go.Shelf Go.Sort
instance : Inhabited Pe := ⟨⟨⟨#[]⟩, none, 0, []⟩⟩
def encPe (e : Pe) : List Value := [.string e.n, .slice e.a e.L.length e.c]
def cfPe (x y : Pe) : Int := cmpB x.n y.n
theorem ltPe (x y : Pe) : ltOf cfPe x y = ltB x.n y.n := by
  unfold ltOf cfPe cmpB
  cases h1 : ltB x.n y.n with
  | true => rfl
  | false =>
    cases h2 : ltB y.n x.n with
    | true => rfl
    | false => rfl
theorem swoPe : SWO (ltOf cfPe) where
  irrefl x := by rw [ltPe]; exact ltB_irrefl _
  trans x y z h1 h2 := by rw [ltPe] at *; exact ltB_trans h1 h2
  ntrans x y z h1 h2 := by
    rw [ltPe] at *
    cases h : ltB x.n z.n with
    | false => rfl
    | true =>
      rcases ltB_total x.n y.n with e | e | e
      · rw [h1] at e; cases e
      · rw [← e, h] at h2; cases h2
      · rw [ltB_trans e h] at h2; cases h2
theorem holds_pe {w : World} {b : Nat} {G : List Pe} (h : PRow w b G) : HoldsK encPe 2 w b 0 G.toArray := by
  intro j hj
  rw [size_flatK] at hj
  rw [get_flatK _ _ _ _ hj]
  have hi : j / 2 < G.length := by simp at hj; omega
  obtain ⟨c0, c1⟩ := h.cell (j / 2) G[j / 2] (List.getElem?_eq_getElem hi)
  have e1 : G.toArray[j / 2]! = G[j / 2] := by simp [hi]
  rw [e1]
  refine ⟨?_, h.free _⟩
  rw [Nat.zero_add]
  generalize G[j / 2] = x at c0 c1
  rcases Nat.mod_two_eq_zero_or_one j with e | e
  · rw [e]
    rw [show j / 2 * 2 = j by omega] at c0
    exact c0
  · rw [e]
    rw [show j / 2 * 2 + 1 = j by omega] at c1
    exact c1
theorem heap_sw {w : World} {b off m : Nat} {d : Array Pe} {os : Array Obj} (k : Nat) (hk : k < w.heap.size) (hne : k ≠ b) : (sortWorldK encPe 2 w b off m d os).heap[k]? = w.heap[k]? := by
  unfold sortWorldK grow putRowK putRow mapBlock
  show ((w.heap.modify b _) ++ os)[k]? = _
  rw [Array.getElem?_append_left (by rw [Array.size_modify]; exact hk), Array.getElem?_modify, if_neg (fun e => hne e.symm)]
theorem mv_sw {w : World} {b off m : Nat} {d : Array Pe} {os : Array Obj} : Mv (fun k => k = b) w (sortWorldK encPe 2 w b off m d os) := by
  refine ⟨rfl, rfl, rfl, ?_, fun k hk hs => heap_sw k hk hs⟩
  unfold sortWorldK grow putRowK putRow mapBlock
  show _ ≤ ((w.heap.modify b _) ++ os).size
  rw [Array.size_append, Array.size_modify]
  omega
set_option maxRecDepth 100000 in
theorem sortP_any {w : World} {b cap : Nat} {G : List Pe} (h : PRow w b G) (hl : G.length ≤ 1000) :
    Calls Tryz.prog 60 #[.slice (some ⟨b, 0, none⟩) G.length cap, .func (.func 61) #[] #[]] w fun e w' => e = .returned (.tuple #[]) ∧ Mv (fun k => k = b) w w' ∧ ∃ G' : List Pe, G'.Perm G ∧ G'.Pairwise (fun a b => ltB b.n a.n = false) ∧ ∀ (i : Nat) e, G'[i]? = some e → w'.cell? ⟨b, i * 2, none⟩ = some (.string e.n) ∧ w'.cell? ⟨b, i * 2 + 1, none⟩ = some (.slice e.a e.L.length e.c) := by
  have eg : ∀ args w, (callFunc 61 args).run Tryz.prog w = .ok (.enter 61 args) w := enters_of Tryz.func61 (by kernel_rfl) rfl
  have hcmp : CmpLays Tryz.prog 61 #[] encPe 2 cfPe b 0 G.toArray.size w := fun m os dk _ x y => by
    refine (order_any x.n y.n x.a y.a x.L.length x.c y.L.length y.c _).mono ?_
    rintro e w' ⟨rfl, rfl⟩
    exact ⟨rfl, 0, _, by rw [alloc_eq_grow, alloc_eq_grow, grow_grow]; rfl⟩
  have hcon := AnyQ.slices_SortFunc Tryz.sortL 2 Tryz.isAgg92 Tryz.sizeOf92 encPe (fun _ => rfl) (fun x v hv => by simp [encPe] at hv; rcases hv with rfl | rfl <;> rfl) cfPe swoPe 61 #[] b 0 cap G.toArray w eg hcmp (holds_pe h) h.lt (by simp; omega)
  have hcon2 : Calls Tryz.prog 60 #[.slice (some ⟨b, 0, none⟩) G.length cap, .func (.func 61) #[] #[]] w _ := hcon
  refine hcon2.mono ?_
  rintro e w' ⟨rfl, d', n, os, hp, hs, rfl⟩
  obtain ⟨hp1, _, hp3⟩ := hp
  have hsz : d'.size = G.length := by rw [hp1]; simp
  refine ⟨rfl, mv_sw, d'.toList, ?_, ?_, fun i e hi => ?_⟩
  · have e1 : d'.extract 0 G.toArray.size = d' := by rw [← hp1]; simp
    have e2 : G.toArray.extract 0 G.toArray.size = G.toArray := by simp
    rw [e1, e2] at hp3
    exact hp3
  · rw [List.pairwise_iff_getElem]
    intro i j hi hj hij
    have hj' : j < d'.size := by simpa using hj
    have := hs i j (Nat.zero_le _) hij (by rw [← hp1]; exact hj')
    rw [ltPe] at this
    rw [getElem!_pos d' j hj', getElem!_pos d' i (by omega)] at this
    simpa using this
  · have hH : HoldsK encPe 2 (sortWorldK encPe 2 w b 0 n d' os) b 0 d' := by
      unfold sortWorldK
      refine holdsK_grow _ _ _ _ _ _ _ ?_ (holdsK_putRowK _ _ _ _ _ G.toArray _ (holdsK_ahead _ _ _ _ _ _ _ (holds_pe h)) hp1)
      show b < (putRowK encPe 2 (Go.Sort.ahead w n) b 0 d').heap.size
      unfold putRowK putRow mapBlock
      show b < (w.heap.modify b _).size
      rw [Array.size_modify]; exact h.lt
    have hi2 : i < d'.size := by have := (List.getElem?_eq_some_iff.1 hi).1; simpa using this
    have e1 : d'[i]! = e := by
      rw [getElem!_pos d' i hi2]
      have := (List.getElem?_eq_some_iff.1 hi).2
      simpa using this
    have c0 := hH.cell hi2 (show 0 < 2 by omega)
    have c1 := hH.cell hi2 (show 1 < 2 by omega)
    rw [e1] at c0 c1
    simp only [Nat.zero_add, Nat.add_zero] at c0 c1
    exact ⟨c0.1, c1.1⟩
end Go.Proofs.YtlbabnffiibnpaaGreat
namespace Go.Proofs.YtlbabnffiibnpaaGreat
open Go.RowKit Go.Shelf
/-- shown(slices.Values(l)), the second call. -/
theorem showV_any {A : World} {S : Nat → Bool} (hS : ∀ k, S k = true → k < A.heap.size) {a : Option Addr} {cap : Nat} {D : List Sp} (hr : SpRow (offS A.cell? S) a D) (hD : ∀ s ∈ D, SpAt (offS A.cell? S) s) (hlen : D.length ≤ 1000) :
    Calls Tryz.prog 45 #[.func (.func 71) #[] #[.pointer (some ⟨A.heap.size, 0, none⟩)]] (A.alloc (.cells #[.slice a D.length cap] 55)) fun e B => ∃ a' cap', e = .returned (.slice a' (shS D).length cap') ∧ (shS D).length ≤ cap' ∧ cap' ≤ 9223372036854775807 ∧ SpRow (offS B.cell? S) a' (shS D) ∧ Below A.heap.size A B := by
  have hB1 : Below A.heap.size A (A.alloc (.cells #[.slice a D.length cap] 55)) := (Below.refl _ A).alloc (Nat.le_refl _) _
  have hm1 := mle_below hB1
  have hle := offS_le A.cell? S
  have c0 : (A.alloc (.cells #[.slice a D.length cap] 55)).cell? ⟨A.heap.size, 0, none⟩ = some (.slice a D.length cap) := World.cell?_alloc_at _ _ _ _ rfl
  have hits := values1_any A.heap.size _ a cap D _ rfl c0 hlen ((hr.on hle).on hm1)
  refine (shown_any hits (enters_of Tryz.func71 (by kernel_rfl) rfl) (fun s hs => ((hD s hs).on hle).on hm1) hlen).mono ?_
  rintro e B ⟨a', cap', rfl, h1, h2, h3, h4, hB⟩
  refine ⟨a', cap', rfl, h1, h2, ?_, hB1.trans (hB.mono hB1.size)⟩
  rcases h3 with e | ⟨b, off, e, h3⟩
  · exact .inl e
  · rcases h4 with e2 | ⟨g, o2, e2, hg⟩
    · exact .inl e2
    · rw [e] at e2
      simp only [Option.some.injEq, Addr.mk.injEq] at e2
      refine .inr ⟨b, off, e, fun i d hi => ?_⟩
      have hb : S b = false := by
        cases hh : S b with
        | false => rfl
        | true => have := hS b hh; have := hB1.size; omega
      rw [offS_ne (show S (⟨b, off + i * 2, none⟩ : Addr).block = false from hb), offS_ne (show S (⟨b, off + i * 2 + 1, none⟩ : Addr).block = false from hb)]
      exact h3 i d hi
theorem indexP_nil (a : Option Addr) (cap : Nat) (w : World) :
    Calls Tryz.prog 72 #[.slice a 0 cap, .func (.func 59) #[] #[]] w fun e w' => e = .returned (.int .i64 (-1)) ∧ w = w' := by
  go_enter Tryz.func72, Tryz.ntmps72
  go_wp2
  go_loop [8] (fun i => i = .int .i64 0) (fun _ => 0)
  case atStart => rfl
  case round =>
    subst hrel
    go_wp2
    go_ret
    exact ⟨rfl, rfl⟩
theorem delP_nil (a : Option Addr) (cap : Nat) (w : World) :
    Calls Tryz.prog 58 #[.slice a 0 cap, .func (.func 59) #[] #[]] w fun e w' => e = .returned (.slice a 0 cap) ∧ w = w' := by
  have HI : Hid _ := indexP_nil a cap w
  go_enter Tryz.func58, Tryz.ntmps58
  go_wp2_with fail
  refine Calls.mono HI.out ?_
  rintro e w1 ⟨rfl, rfl⟩
  go_wp2
  go_ret
  exact ⟨rfl, rfl⟩
theorem sortP_nil (a : Option Addr) (cap : Nat) (fv : Value) (w : World) :
    Calls Tryz.prog 60 #[.slice a 0 cap, fv] w fun e w' => e = .returned (.tuple #[]) ∧ w' = w := AnyF.slices_SortFunc_none Tryz.sortL a cap fv w
/-- A slice of places: names, and what is seen there. -/
def PlL (c : Mem) (v : Value) (M : List (ByteArray × Fls)) : Prop := ∃ (a : Option Addr) (cap : Nat) (G : List Pe), v = .slice a G.length cap ∧ G.length ≤ cap ∧ cap ≤ 9223372036854775807 ∧
  (G = [] ∨ ∃ b, a = some ⟨b, 0, none⟩ ∧ ∀ (i : Nat) e, G[i]? = some e → c ⟨b, i * 2, none⟩ = some (.string e.n) ∧ c ⟨b, i * 2 + 1, none⟩ = some (.slice e.a e.L.length e.c)) ∧
  (∀ e ∈ G, SpL c (.slice e.a e.L.length e.c) (e.L.map Sp.pr)) ∧ (pls G).map plP = M
theorem PlL.on {c c' : Mem} {v : Value} {M : List (ByteArray × Fls)} (h : PlL c v M) (hb : MLe c c') : PlL c' v M := by
  obtain ⟨a, cap, G, h1, h2, h3, h4, h5, h6⟩ := h
  refine ⟨a, cap, G, h1, h2, h3, ?_, fun e he => (h5 e he).on hb, h6⟩
  rcases h4 with e | ⟨b, e, h⟩
  · exact .inl e
  · exact .inr ⟨b, e, fun i e hi => ⟨hb _ _ (h i e hi).1, hb _ _ (h i e hi).2⟩⟩
structure GOK (c : Mem) (e : Pe) : Prop where
  row : SpRow c e.a e.L
  at_ : ∀ s ∈ e.L, SpAt c s
  cap : e.L.length ≤ e.c
  cap2 : e.c ≤ 9223372036854775807
  len : e.L.length ≤ 1000
theorem GOK.on {c c' : Mem} {e : Pe} (h : GOK c e) (hb : MLe c c') : GOK c' e := ⟨h.row.on hb, fun s hs => (h.at_ s hs).on hb, h.cap, h.cap2, h.len⟩
theorem GOK.spl {c : Mem} {e : Pe} (h : GOK c e) : SpL c (.slice e.a e.L.length e.c) (e.L.map Sp.pr) := ⟨e.a, e.c, e.L, rfl, h.cap, h.cap2, h.row, h.at_, rfl⟩
theorem PRow.set1 {w : World} {b : Nat} {G : List Pe} (h : PRow w b G) {i : Nat} {o : Pe} (hi : G[i]? = some o) (e : Pe) (hn : e.n = o.n) : PRow (w.setCell ⟨b, i * 2 + 1, none⟩ (.slice e.a e.L.length e.c)) b (G.set i e) := by
  obtain ⟨o1, o2⟩ := h.cell i o hi
  have hlt := (List.getElem?_eq_some_iff.1 hi).1
  refine ⟨fun j f hj => ?_, fun j => by rw [World.frozen?_setCell]; exact h.free j, by rw [World.size_setCell]; exact h.lt⟩
  rw [List.getElem?_set] at hj
  split at hj
  · rename_i e1
    subst e1
    cases hj
    refine ⟨?_, World.cell?_setCell_same _ _ _ o2⟩
    rw [World.cell?_setCell_other _ _ _ _ (by simp), hn]
    exact o1
  · rename_i e1
    obtain ⟨q1, q2⟩ := h.cell j f hj
    refine ⟨?_, ?_⟩
    · rw [World.cell?_setCell_other _ _ _ _ (fun e => by have := (Addr.mk.inj e).2.1; omega)]; exact q1
    · rw [World.cell?_setCell_other _ _ _ _ (fun e => by have := (Addr.mk.inj e).2.1; omega)]; exact q2
theorem pls_some (G : List Pe) : pls (someP G) = (pls G).filter fun p => !p.2.isEmpty := by
  unfold pls someP
  rw [List.filter_map]
  rfl
def shE (p : ByteArray × List Sp) : ByteArray × List Sp := (p.1, shS p.2)
theorem set_map {A : Pls} {j : Nat} {p : ByteArray × List Sp} (h : A[j]? = some p) : ((A.take j).map shE ++ A.drop j).set j (shE p) = (A.take (j + 1)).map shE ++ A.drop (j + 1) := by
  obtain ⟨hlt, e⟩ := List.getElem?_eq_some_iff.1 h
  have hl : ((A.take j).map shE).length = j := by rw [List.length_map, List.length_take]; omega
  rw [List.set_append_right _ _ (by omega), hl, Nat.sub_self, List.drop_eq_getElem_cons hlt, List.set_cons_zero, List.take_add_one, h, List.map_append]
  simp
end Go.Proofs.YtlbabnffiibnpaaGreat
