/-
  ROWS OF ATTRIBUTES AND OF KIDS THAT A CALL OWNS, read; a node that is stored.
  A RANGE OVER A FUNCTION, AT THE WIDE FENCE: the statement; one round.
  SPOTS: nodes where they stand; an iterator over spots; the layers' one: the walk.
  WHAT sign AND Name DO, the program's and the document's: the walks.
  WHAT strings.Cut DOES AT A DOT, AND WHAT Class DOES, the program's and the document's: the walks.
  LISTS OF ATTRIBUTES IN MEMORY; what attr.Check does: the walk.
  WHAT AttrFault, lightAttrs, SameAttrs, same AND is DO: the walks.
-/
import Derived.Test.YtgmeecfdkcbggaaApX
import Derived.RangeFuncNested
import Derived.RangeFuncBound
import Derived.RangeFuncCalls
import Derived.RangeFuncLeaves
import Derived.Shelf.Abstract
import Derived.Shelf.RegionOpen
import Derived.WalkKit
import Derived.OwnWalkIn
import Derived.TacticsInMore
import Derived.LoopNIn
import Derived.LoopIn
import Derived.Test.YtgmeecfdkcbggaaRows
import Derived.WalkSpells
import Derived.WalkLawsBesides
import Derived.Lib.Strings
import Derived.Shelf.Strings.Search1
import Derived.Shelf.Strings.Search2
import Derived.Test.YtgmeecfdkcbggaaProg
import Derived.Lib.CutLaws
import Derived.Deep.QuietTactic
import Derived.BigQuiet
namespace Go.Proofs.Ytgmeecfdkcbggaa
open Go.RowKit
def flat : List Kv → List Value
  | [] => []
  | r :: l => .string r.n :: .string r.v :: flat l
theorem flat_length : ∀ L : List Kv, (flat L).length = L.length * 2
  | [] => rfl
  | r :: l => by simp [flat, flat_length l]; omega
theorem flat_one : ∀ L : List Kv, ∀ u ∈ flat L, u.oneCell' = true
  | [], u, h => by cases h
  | r :: l, u, h => by
    simp [flat] at h
    rcases h with rfl | rfl | h
    · rfl
    · rfl
    · exact flat_one l u h
theorem flat_get : ∀ (L : List Kv) (k : Nat) (r : Kv), L[k]? = some r → (flat L)[k * 2]? = some (.string r.n) ∧ (flat L)[k * 2 + 1]? = some (.string r.v)
  | [], k, r, h => by simp at h
  | x :: l, 0, r, h => by simp at h; subst h; simp [flat]
  | x :: l, k + 1, r, h => by
    have := flat_get l k r (by simpa using h)
    have e : (k + 1) * 2 = k * 2 + 2 := by omega
    rw [e]
    simpa [flat] using this
theorem addr_add (b off j : Nat) : (⟨b, off, none⟩ : Addr).add j = ⟨b, off + j, none⟩ := by by_cases hj0 : j = 0 <;> simp [Addr.add, hj0]
/-- An owned row, cell by cell. -/
theorem owns_cells {w : World} {base : Nat} {e : TypeId} {size : Nat} {v : Value} {n : Nat} {xs : List Value} (h : w.ownsRow base e size v n xs) :
    ∃ a cap, v = .slice a n cap ∧ n ≤ cap ∧ cap ≤ 9223372036854775807 ∧ ((a = none ∧ n = 0 ∧ xs = [] ∧ cap = 0) ∨ ∃ g, a = some ⟨g, 0, none⟩ ∧ base ≤ g ∧ g < w.heap.size ∧ (∀ j u, xs[j]? = some u → w.cell? ⟨g, j, none⟩ = some u) ∧ ∀ j, w.frozen? ⟨g, j, none⟩ = false) := by
  obtain ⟨a, cap, hv, h1, h2, hf⟩ := ownsRow_form h
  refine ⟨a, cap, hv, h1, by unfold maxLen at h2; omega, ?_⟩
  rcases hf with hf | ⟨g, cur, ha, hb, hg, _, hx⟩
  · exact .inl hf
  · refine .inr ⟨g, ha, hb, ?_, fun j u hj => ownsRow_cell hg hx hj, fun j => ?_⟩
    · by_cases hlt : g < w.heap.size
      · exact hlt
      · rw [Array.getElem?_eq_none (by omega)] at hg; cases hg
    · simp [World.frozen?, hg]
theorem kvm_of_owns {w : World} {base : Nat} {e : TypeId} {v : Value} {n : Nat} {L : List Kv} (h : w.ownsRow base e 2 v n (flat L)) : ∃ a cap, v = .slice a n cap ∧ n ≤ cap ∧ cap ≤ 9223372036854775807 ∧ Kvm w.cell? a L := by
  obtain ⟨a, cap, hv, h1, h2, hf⟩ := owns_cells h
  refine ⟨a, cap, hv, h1, h2, ?_⟩
  rcases hf with ⟨_, _, hx, _⟩ | ⟨g, ha, _, _, hc, _⟩
  · left
    cases L with
    | nil => rfl
    | cons r l => simp [flat] at hx
  · refine .inr ⟨g, 0, ha, fun k r hk => ?_⟩
    obtain ⟨h1, h2⟩ := flat_get L k r hk
    rw [Nat.zero_add]
    exact ⟨hc _ _ h1, hc _ _ h2⟩
/-- New kids, which may be written. -/
def FreshK (base : Nat) (w : World) (a : Option Addr) (ks : Kds) : Prop := ks = [] ∨ ∃ g, a = some ⟨g, 0, none⟩ ∧ base ≤ g ∧ g < w.heap.size ∧ ∀ j, w.frozen? ⟨g, j, none⟩ = false
theorem FreshK.below {base : Nat} {w w' : World} {a : Option Addr} {ks : Kds} (h : FreshK base w a ks) (hb : Below w.heap.size w w') : FreshK base w' a ks := by
  rcases h with h | ⟨g, ha, h1, h2, h3⟩
  · exact .inl h
  · exact .inr ⟨g, ha, h1, Nat.lt_of_lt_of_le h2 hb.size, fun j => (hb.frozen (p := ⟨g, j, none⟩) h2).trans (h3 j)⟩
/-- A memory but some blocks. -/
def offS (c : Mem) (S : Nat → Bool) : Mem := fun q => if S q.block = true then none else c q
theorem offS_no (c : Mem) : offS c (fun _ => false) = c := by funext q; simp [offS]
theorem offS_le (c : Mem) (S : Nat → Bool) : MLe (offS c S) c := fun q v h => by
  unfold offS at h
  split at h
  · cases h
  · exact h
theorem offS_ne {c : Mem} {S : Nat → Bool} {q : Addr} (h : S q.block = false) : offS c S q = c q := by unfold offS; rw [if_neg (by rw [h]; decide)]
theorem offS_off {c : Mem} {S : Nat → Bool} {q : Addr} {v : Value} (h : offS c S q = some v) : S q.block = false := by
  unfold offS at h
  cases hs : S q.block with
  | false => rfl
  | true => rw [if_pos hs] at h; cases h
/-- A step that leaves the blocks that are said. -/
theorem mle_step {w w' : World} {S S' : Nat → Bool} (h : ∀ k, k < w.heap.size → S k = false → S' k = false ∧ w'.heap[k]? = w.heap[k]?) : MLe (offS w.cell? S) (offS w'.cell? S') := by
  intro q v hq
  have hs := offS_off hq
  rw [offS_ne hs] at hq
  obtain ⟨h1, h2⟩ := h q.block (World.block_lt_of_cell? _ _ hq) hs
  rw [offS_ne h1, World.cell?_of_block (w := w) h2]; exact hq
theorem mle_S {w w' : World} {S : Nat → Bool} (hb : Below w.heap.size w w') : MLe (offS w.cell? S) (offS w'.cell? S) := mle_step fun k hk hs => ⟨hs, hb.block k hk⟩
theorem kvm_of_ownsS {w : World} {base : Nat} {e : TypeId} {v : Value} {n : Nat} {L : List Kv} {S : Nat → Bool} (hS : ∀ k, S k = true → k < base) (h : w.ownsRow base e 2 v n (flat L)) : ∃ a cap, v = .slice a n cap ∧ n ≤ cap ∧ cap ≤ 9223372036854775807 ∧ Kvm (offS w.cell? S) a L := by
  obtain ⟨a, cap, hv, h1, h2, hf⟩ := owns_cells h
  refine ⟨a, cap, hv, h1, h2, ?_⟩
  rcases hf with ⟨_, _, hx, _⟩ | ⟨g, ha, hb, _, hc, _⟩
  · left
    cases L with
    | nil => rfl
    | cons r l => simp [flat] at hx
  · have hg : S g = false := by
      cases hs : S g with
      | false => rfl
      | true => have := hS g hs; omega
    refine .inr ⟨g, 0, ha, fun k r hk => ?_⟩
    obtain ⟨h1, h2⟩ := flat_get L k r hk
    rw [Nat.zero_add, offS_ne hg, offS_ne hg]
    exact ⟨hc _ _ h1, hc _ _ h2⟩
theorem ksH_of_ownsS {w : World} {base : Nat} {e : TypeId} {v : Value} {n : Nat} {L : Khs} {S : Nat → Bool} (hS : ∀ k, S k = true → k < base) (h : w.ownsRow base e 9 v n (kfl L)) (hN : ∀ e ∈ L, NdV (offS w.cell? S) e.2.1 e.2.2) : ∃ a cap, v = .slice a n cap ∧ n ≤ cap ∧ cap ≤ 9223372036854775807 ∧ KsH (offS w.cell? S) a L ∧ FreshK base w a (bare L) := by
  obtain ⟨a, cap, hv, h1, h2, hf⟩ := owns_cells h
  refine ⟨a, cap, hv, h1, h2, ?_⟩
  rcases hf with ⟨_, _, hx, _⟩ | ⟨g, ha, hb, hl, hc, hfr⟩
  · have : L = [] := by
      cases L with
      | nil => rfl
      | cons r l => obtain ⟨n, x, h⟩ := r; simp [kfl] at hx
    subst this
    exact ⟨⟨.inl rfl, hN⟩, .inl rfl⟩
  · have hg : S g = false := by
      cases hs : S g with
      | false => rfl
      | true => have := hS g hs; omega
    exact ⟨⟨.inr ⟨g, 0, ha, fun j u hj => by rw [Nat.zero_add, offS_ne hg]; exact hc j u hj⟩, hN⟩, .inr ⟨g, ha, hb, hl, hfr⟩⟩
theorem src_of_kvm {w : World} {a : Option Addr} {l : List Kv} (h : Kvm w.cell? a l) : (a = none ∧ l.length = 0) ∨ ∃ ad, a = some ad ∧ ∀ j u, (flat l)[j]? = some u → w.cell? (ad.add j) = some u := by
  rcases h with rfl | ⟨b, off, rfl, hc⟩
  · cases a with
    | none => exact .inl ⟨rfl, rfl⟩
    | some ad => exact .inr ⟨ad, rfl, fun j u hu => by simp [flat] at hu⟩
  · refine .inr ⟨_, rfl, fun j u hj => ?_⟩
    have hjl : j < l.length * 2 := by have := (List.getElem?_eq_some_iff.1 hj).1; rwa [flat_length] at this
    obtain ⟨r, hr⟩ : ∃ r, l[j / 2]? = some r := ⟨l[j / 2]'(by omega), List.getElem?_eq_getElem _⟩
    obtain ⟨h1, h2⟩ := hc _ r hr
    obtain ⟨f1, f2⟩ := flat_get l _ r hr
    rw [addr_add]
    have hm : j = j / 2 * 2 ∨ j = j / 2 * 2 + 1 := by omega
    rcases hm with hm | hm
    · rw [hm] at hj ⊢; rw [f1] at hj; cases hj; exact h1
    · rw [hm] at hj ⊢; rw [f2] at hj; cases hj; rw [← Nat.add_assoc]; exact h2
theorem src_of_ksH {w : World} {a : Option Addr} {L : Khs} (h : KsH w.cell? a L) : (a = none ∧ L.length = 0) ∨ ∃ ad, a = some ad ∧ ∀ j u, (kfl L)[j]? = some u → w.cell? (ad.add j) = some u := by
  rcases h.1 with rfl | ⟨b, off, rfl, hc⟩
  · cases a with
    | none => exact .inl ⟨rfl, rfl⟩
    | some ad => exact .inr ⟨ad, rfl, fun j u hu => by simp [kfl] at hu⟩
  · exact .inr ⟨_, rfl, fun j u hj => by rw [addr_add]; exact hc j u hj⟩
/-- A node stored. -/
def st8 (w : World) (b p : Nat) : Nd → Hd → World
  | .mk k m u g o at_ d ks, h => (((((((w.setCell ⟨b, p, none⟩ (.int .i64 k)).setCell ⟨b, p + 1, none⟩ (.int .i64 m)).setCell ⟨b, p + 2, none⟩ (.int .i64 u)).setCell ⟨b, p + 3, none⟩ (.int .i64 g)).setCell ⟨b, p + 4, none⟩ (.bool o)).setCell ⟨b, p + 5, none⟩ (.slice h.aa at_.length h.ca)).setCell ⟨b, p + 6, none⟩ (.string d)).setCell ⟨b, p + 7, none⟩ (.slice h.ak ks.length h.ck)
theorem st8_far {w : World} {b p : Nat} {x : Nd} {h : Hd} {q : Addr} (hq : ∀ j, j < 8 → q ≠ ⟨b, p + j, none⟩) : (st8 w b p x h).cell? q = w.cell? q := by
  obtain ⟨k, m, u, g, o, at_, d, ks⟩ := x
  unfold st8
  rw [World.cell?_setCell_other _ _ _ _ (hq 7 (by omega)).symm, World.cell?_setCell_other _ _ _ _ (hq 6 (by omega)).symm, World.cell?_setCell_other _ _ _ _ (hq 5 (by omega)).symm, World.cell?_setCell_other _ _ _ _ (hq 4 (by omega)).symm, World.cell?_setCell_other _ _ _ _ (hq 3 (by omega)).symm, World.cell?_setCell_other _ _ _ _ (hq 2 (by omega)).symm, World.cell?_setCell_other _ _ _ _ (hq 1 (by omega)).symm, World.cell?_setCell_other _ _ _ _ (show (⟨b, p, none⟩ : Addr) ≠ q from (hq 0 (by omega)).symm)]
theorem st8_at {w : World} {b p : Nat} {x y : Nd} {h h' : Hd} (hy : NAt w.cell? b p y h') : NAt (st8 w b p x h).cell? b p x h := by
  obtain ⟨k, m, u, g, o, at_, d, ks⟩ := x
  obtain ⟨k', m', u', g', o', at', d', ks'⟩ := y
  obtain ⟨h0, h1, h2, h3, h4, h5, h6, h7⟩ := hy
  unfold st8
  refine ⟨?_, ?_, ?_, ?_, ?_, ?_, ?_, ?_⟩ <;> simp [World.cell?_setCell_other, World.cell?_setCell_same', h0, h1, h2, h3, h4, h5, h6, h7]
theorem st8_frozen {w : World} {b p : Nat} {x : Nd} {h : Hd} (q : Addr) : (st8 w b p x h).frozen? q = w.frozen? q := by
  obtain ⟨k, m, u, g, o, at_, d, ks⟩ := x
  unfold st8
  simp
theorem st8_but {w : World} {b p : Nat} {x : Nd} {h : Hd} : But b w (st8 w b p x h) := by
  obtain ⟨k, m, u, g, o, at_, d, ks⟩ := x
  unfold st8
  exact ((((((((But.refl b w).setCell _ _ _).setCell _ _ _).setCell _ _ _).setCell _ _ _).setCell _ _ _).setCell _ _ _).setCell _ _ _).setCell _ _ _
/-- Of the same node: all but its two lists are as they were. -/
theorem st8_same {w : World} {b p : Nat} {x : Nd} {h h' : Hd} (hy : NAt w.cell? b p x h) (q : Addr) (h5 : q ≠ ⟨b, p + 5, none⟩) (h7 : q ≠ ⟨b, p + 7, none⟩) : (st8 w b p x h').cell? q = w.cell? q := by
  by_cases hq : ∃ j, j < 8 ∧ q = ⟨b, p + j, none⟩
  · obtain ⟨j, hj, rfl⟩ := hq
    have hn := st8_at (x := x) (h := h') hy
    obtain ⟨k, m, u, g, o, at_, d, ks⟩ := x
    obtain ⟨a0, a1, a2, a3, a4, a5, a6, a7⟩ := hy
    obtain ⟨e0, e1, e2, e3, e4, e5, e6, e7⟩ := hn
    match j, hj with
    | 0, _ => exact e0.trans a0.symm
    | 1, _ => exact e1.trans a1.symm
    | 2, _ => exact e2.trans a2.symm
    | 3, _ => exact e3.trans a3.symm
    | 4, _ => exact e4.trans a4.symm
    | 5, _ => exact absurd rfl h5
    | 6, _ => exact e6.trans a6.symm
    | 7, _ => exact absurd rfl h7
    | j + 8, hj => omega
  · exact st8_far fun j hj e => hq ⟨j, hj, e⟩
end Go.Proofs.Ytgmeecfdkcbggaa
namespace Go.Proofs.Ytgmeecfdkcbggaa
open Go.RowKit
/-- The loop's record, by its state and its pending jump. -/
structure IsRec (rec : LoopState → Option Code → Loop) (fn : FuncId) (tmps : Array Value) (ps : Array Tmp) (assign body : Code) (D : Nat) : Prop where
  out : rec = fun st pe => { state := st, pending := pe, fn, tmps, params := ps, assign, body, defers := D }
/-- How a round may end. -/
def rPost (l : Nat) (rec : LoopState → Option Code → Loop) (R : Ending → World → Prop) : Exit → Act → World → Prop
  | .normal, _, W => W.heap[l]? = some (.loop (rec .busy none)) ∧ R (.returned (.bool true)) (W.putObj l (.loop (rec .ready none)))
  | .ret, _, W => W.heap[l]? = some (.loop (rec .busy none)) ∧ R (.returned (.bool false)) (W.putObj l (.loop (rec .done (some .ret))))
  | .exit id, _, W => W.heap[l]? = some (.loop (rec .busy none)) ∧ R (.returned (.bool false)) (W.putObj l (.loop (rec .done (some (.exit id)))))
  | .goto t, _, W => W.heap[l]? = some (.loop (rec .busy none)) ∧ R (.returned (.bool false)) (W.putObj l (.loop (rec .done (some (.goto t)))))
  | .panic _, _, _ => False
  | .outgrown, _, _ => False
theorem round_at {P : Program} {n : Nat} {rec : LoopState → Option Code → Loop} {fn : FuncId} {tmps : Array Value} {ps : Array Tmp} {assign body : Code} {D : Nat} (hrec : IsRec rec fn tmps ps assign body D) {l : Nat} {W : World} {args : Array Value} {R : Ending → World → Prop}
    (hl : W.heap[l]? = some (.loop (rec .ready none))) (hs : args.size = ps.size)
    (h : assign.wpIn (Fence.wide.inRound l) n P (Exit.then (fun a w => w.heap[l]? = some (.loop (rec .ready none)) ∧ body.wpIn (Fence.wide.inRound l) n P (rPost l rec R) a (w.putObj l (.loop (rec .busy none)))) fun _ _ _ => False)
      { tmps := (ps.zip args).foldl (fun t (p, v) => t.setIfInBounds p v) tmps, defers := [] } W) : YieldAt Fence.wide n P l args W R := by
  have hr := hrec.out
  have hy := run_yield (P := P) (args := args) hl (by rw [hr]; exact hs)
  rw [hr] at hy
  refine ⟨fn, _, assign, body, hy, roundIn_of_wpIn trivial (wpIn_mono h ?_)⟩
  intro e a w hp
  cases e with
  | normal =>
    obtain ⟨h1, h2⟩ := hp
    refine ⟨_, run_beginRound h1 (by rw [hr]), ?_⟩
    have e1 : ({ rec .ready none with state := .busy } : Loop) = rec .busy none := by rw [hr]
    rw [e1]
    refine wpIn_mono h2 ?_
    have key : ∀ (jump : Option Code) (w3 : World), w3.heap[l]? = some (.loop (rec .busy none)) → (Instr.endRound l jump).run P w3 = .ok (.bool jump.isNone) (w3.putObj l (.loop (rec (if jump.isNone then .ready else .done) jump))) := fun jump w3 h3 => by
      have := run_endRound (P := P) jump h3
      rw [hr] at this ⊢
      exact this
    intro e a w hp
    cases e with
    | normal => exact ⟨_, _, key none w hp.1, hp.2⟩
    | ret => exact ⟨_, _, key (some .ret) w hp.1, hp.2⟩
    | exit id => exact ⟨_, _, key (some (.exit id)) w hp.1, hp.2⟩
    | goto t => exact ⟨_, _, key (some (.goto t)) w hp.1, hp.2⟩
    | panic c => exact hp.elim
    | outgrown => exact hp.elim
  | ret => exact hp.elim
  | exit id => exact hp.elim
  | goto t => exact hp.elim
  | panic c => exact hp.elim
  | outgrown => exact hp.elim
theorem range_at {P : Program} {n : Nat} {g : Operand} {ps : Array Tmp} {assign body : Code} {Q : Exit → Act → World → Prop} {a : Act} {w : World} {gf : Nat} {lb : Array Value}
    (hg : a.eval g = .func (.func gf) #[] lb) (eg : ∀ args w, (callFunc gf args).run P w = .ok (.enter gf args) w)
    (h : ∀ fn rec, IsRec rec fn a.tmps ps assign body w.heap.size → ∀ W1 : World, Below w.heap.size w W1 → W1.heap.size = w.heap.size + 1 + 1 → W1.heap[w.heap.size + 1]? = some (.loop (rec .ready none)) → W1.heap[w.heap.size]? = some (.deferred (some [])) →
      CallsIn Fence.wide (n - 1) P gf (#[.func (.yield (w.heap.size + 1)) #[] #[]] ++ lb) W1 fun e W' => (∃ v, e = .returned v) ∧
        ((W'.heap[w.heap.size + 1]? = some (.loop (rec .ready none)) ∧ Q .normal { a with defers := { target := .collected w.heap.size, args := #[] } :: a.defers } (W'.putObj (w.heap.size + 1) (.loop (rec .exhausted none)))) ∨
         ∃ c, W'.heap[w.heap.size + 1]? = some (.loop (rec .done (some c))) ∧ c.wpIn Fence.wide n P Q { a with defers := { target := .collected w.heap.size, args := #[] } :: a.defers } (W'.putObj (w.heap.size + 1) (.loop (rec .exhausted (some c)))))) :
    (Code.rangeFunc g ps assign body).wpIn Fence.wide n P Q a w := by
  refine wpIn_rangeFunc ?_
  intro fn _
  obtain ⟨rec, hrec⟩ : ∃ rec : LoopState → Option Code → Loop, rec = fun st pe => { state := st, pending := pe, fn, tmps := a.tmps, params := ps, assign, body, defers := w.heap.size } := ⟨_, rfl⟩
  have hsz : ((w.alloc (.deferred (some []))).alloc (.loop (rec .ready none))).heap.size = w.heap.size + 1 + 1 := by rw [World.size_alloc, World.size_alloc]
  have hB : Below w.heap.size w ((w.alloc (.deferred (some []))).alloc (.loop (rec .ready none))) := ((Below.refl _ w).alloc (Nat.le_refl _) _).alloc (by rw [World.size_alloc]; omega) _
  have h1 : ((w.alloc (.deferred (some []))).alloc (.loop (rec .ready none))).heap[w.heap.size + 1]? = some (.loop (rec .ready none)) := by
    have := World.alloc_heap_new (w.alloc (.deferred (some []))) (.loop (rec .ready none))
    rwa [World.size_alloc] at this
  have h2 : ((w.alloc (.deferred (some []))).alloc (.loop (rec .ready none))).heap[w.heap.size]? = some (.deferred (some [])) := (Below.heap_alloc _ _ _ (by rw [World.size_alloc]; omega)).trans (World.alloc_heap_new w _)
  have h0 : (Instr.enterLoop fn a.tmps ps assign body Fence.wide.round).run P w = .ok (w.heap.size + 1, [{ target := .collected w.heap.size, args := #[] }]) ((w.alloc (.deferred (some []))).alloc (.loop (rec .ready none))) := by rw [hrec]; exact run_enterLoop_outer _ _ _ _ _
  obtain ⟨W1, hW1⟩ : ∃ W1, (w.alloc (.deferred (some []))).alloc (.loop (rec .ready none)) = W1 := ⟨_, rfl⟩
  rw [hW1] at h0 hsz hB h1 h2
  clear hW1
  refine ⟨w.heap.size + 1, [{ target := .collected w.heap.size, args := #[] }], W1, { target := .fn (.func gf) lb, args := #[.func (.yield (w.heap.size + 1)) #[] #[]] }, W1, gf,
    #[.func (.yield (w.heap.size + 1)) #[] #[]] ++ lb, W1, h0, ?_, fun f' _ => trivial, ?_, fun e => by simp [Fence.wide] at e, ?_⟩
  · simp only [resolve, hg]
    simp [go_sem]
  · simp [invoke, go_sem, eg]
  · refine (h fn rec ⟨hrec⟩ _ hB hsz h1 h2).mono ?_
    rintro e W2 ⟨⟨v, rfl⟩, (⟨hl, hq⟩ | ⟨c, hl, hq⟩)⟩
    · exact ⟨none, _, by have := run_endLoop (P := P) hl (by rw [hrec]; simp); rw [hrec] at this ⊢; exact this, hq⟩
    · exact ⟨some c, _, by have := run_endLoop (P := P) hl (by rw [hrec]; simp); rw [hrec] at this ⊢; exact this, hq⟩
end Go.Proofs.Ytgmeecfdkcbggaa
namespace Go.Proofs.Ytgmeecfdkcbggaa
open Go.RowKit Go.Shelf
attribute [local go_sem] Oper.semAt_some
/-- A node where it stands, and its layer. -/
structure Sp where
  b : Nat
  p : Nat
  ly : Nat
  x : Nd
  h : Hd
def Sp.v (s : Sp) : Value := .agg #[.pointer (some ⟨s.b, s.p, none⟩), .int .i64 s.ly]
def Sp.pr (s : Sp) : Nd × Nat := (s.x, s.ly)
def SpAt (c : Mem) (s : Sp) : Prop := NAt c s.b s.p s.x s.h ∧ NdV c s.x s.h
theorem SpAt.below {w w' : World} {s : Sp} (h : SpAt w.cell? s) (hb : Below w.heap.size w w') : SpAt w'.cell? s := ⟨h.1.below hb, h.2.ab hb⟩
/-- What a function that is ranged over gives: these spots, in this order. -/
def Its (gf : Nat) (lb : Array Value) (n₀ : Nat) (w : World) (T : List Sp) : Prop :=
  ∀ (l : Nat) (J : Nat → World → Prop) (Jx : World → Prop) (W : World), Below n₀ w W → (∀ i A B, J i A → Below A.heap.size A B → J i B) →
    (∀ i s A, T[i]? = some s → J i A → YieldAt Fence.wide 0 Try.prog l #[s.v] A fun e B => (e = .returned (.bool true) ∧ J (i + 1) B ∧ Below n₀ A B) ∨ (e = .returned (.bool false) ∧ Jx B)) →
    J 0 W → CallsIn Fence.wide 0 Try.prog gf (#[.func (.yield l) #[] #[]] ++ lb) W fun e B => (∃ v, e = .returned v) ∧ (J T.length B ∨ Jx B)
set_option maxRecDepth 100000 in
set_option maxHeartbeats 1000000 in
theorem layers1_any (bx n₀ : Nat) (a : Option Addr) (cap : Nat) (T : List Sp) (w : World) (hbx : bx < n₀) (_hn : n₀ ≤ w.heap.size) (hc : w.cell? ⟨bx, 0, none⟩ = some (.slice a T.length cap)) (hlen : T.length ≤ 1000)
    (hT : ∀ i s, T[i]? = some s → ∃ b off, a = some ⟨b, off, none⟩ ∧ s.b = b ∧ s.p = off + i * 8 ∧ s.ly = i) :
    Its 65 #[.pointer (some ⟨bx, 0, none⟩)] n₀ w T := by
  intro l J Jx W hW hJ hY h0
  have hcW : W.cell? ⟨bx, 0, none⟩ = some (.slice a T.length cap) := (hW.cell (p := ⟨bx, 0, none⟩) hbx).trans hc
  show CallsIn Fence.wide 0 Try.prog 65 #[.func (.yield l) #[] #[], .pointer (some ⟨bx, 0, none⟩)] W _
  refine callsIn_of_wp Try.func65 rfl trivial ?_ rfl
  simp only [Try.ntmps65, List.size_toArray, List.length_cons, List.length_nil, Nat.reduceAdd, Nat.reduceSub, Array.replicate_succ, Array.replicate_zero, List.push_toArray, List.append_toArray, List.nil_append, List.cons_append]
  have HY : Hid _ := hY
  have HT : Hid _ := hT
  obtain ⟨N, HN⟩ : ∃ N, Hid (T.length = N) := ⟨_, rfl⟩
  rw [HN.out] at hcW hlen ⊢
  clear hY hT hc
  gi_wp2
  gi_loopw [3, 6] (fun _ i wr => ∃ j : Nat, j ≤ N ∧ i = .int .i64 j ∧ J j wr ∧ wr.cell? ⟨bx, 0, none⟩ = some (.slice a N cap)) (fun _ i _ => N - (intOf i).toNat)
  case atStart => exact ⟨0, Nat.zero_le _, rfl, h0, hcW⟩
  case round =>
    obtain ⟨j, hj, rfl, hJj, hcj⟩ := hrel
    by_cases hjl : j < N
    rotate_left
    · have hji : decide ((j : Int) < (N : Int)) = false := decide_eq_false (by omega)
      gi_wp2
      go_end0
      exact ⟨⟨_, rfl⟩, .inl (by rw [show N = j by omega]; exact hJj)⟩
    · obtain ⟨s, hs⟩ : ∃ s, T[j]? = some s := ⟨_, List.getElem?_eq_getElem (by rw [HN.out]; exact hjl)⟩
      obtain ⟨b, off, rfl, e1, e2, e3⟩ := HT.out j s hs
      obtain ⟨fn, tmps, assign, body, hy, hR⟩ := HY.out j s wr hs hJj
      rw [Sp.v, e1, e2, e3] at hy
      have hji : decide ((j : Int) < (N : Int)) = true := decide_eq_true (by omega)
      have HR : Hid _ := hR
      clear hR hs e1 e2 e3
      gi_wp2
      refine ⟨rfl, RoundIn.mono HR.out ?_⟩
      rintro e W3 (⟨rfl, hJ3, hk3⟩ | ⟨rfl, hJx3⟩)
      · have hc3 := (hk3.cell (p := ⟨bx, 0, none⟩) hbx).trans hcj
        gi_wp2
        go_roundw
        case rel => exact ⟨j + 1, by omega, by go_num, hJ3, hc3⟩
        case measure => (simp [intOf]; try omega)
      · gi_wp2
        refine bodyPost_ret (results_none rfl _ _ _) rfl ?_
        exact ⟨⟨_, rfl⟩, .inr hJx3⟩
end Go.Proofs.Ytgmeecfdkcbggaa
namespace Go.Proofs.Ytgmeecfdkcbggaa
open Go.RowKit
theorem ret_bool {a b : Bool} (h : a = b) : Ending.returned (.bool a) = .returned (.bool b) := by rw [h]
end Go.Proofs.Ytgmeecfdkcbggaa
namespace Go.Proofs.Ytgmeecfdkcbggaa
open Go.RowKit
theorem wrap_small {x : Int} (h1 : -9223372036854775808 ≤ x) (h2 : x ≤ 9223372036854775807) : IntKind.i64.wrap x = x := by
  simp [IntKind.wrap, IntKind.signed, IntKind.bits]; omega
theorem ret_num {a b : Int} (h : a = b) : Ending.returned (.int .i64 a) = .returned (.int .i64 b) := by rw [h]
end Go.Proofs.Ytgmeecfdkcbggaa
namespace Go.Proofs.Ytgmeecfdkcbggaa
open Go.RowKit
theorem ret_val {a b : Value} (h : a = b) : Ending.returned a = .returned b := by rw [h]
end Go.Proofs.Ytgmeecfdkcbggaa
namespace Go.Proofs.Ytgmeecfdkcbggaa
open Go.RowKit
theorem allK_succ {f : Kv → Bool} {l : List Kv} {k : Nat} {b : Kv} (hb : l[k]? = some b) (h : (l.take k).all f = true) (hf : f b = true) : (l.take (k + 1)).all f = true := by
  rw [List.take_add_one, hb]; simp at h ⊢; exact ⟨h, hf⟩
theorem allK_bad {f : Kv → Bool} {l : List Kv} {k : Nat} {b : Kv} (hb : l[k]? = some b) (hf : f b = false) : l.all f = false := by
  have hm : b ∈ l := List.mem_of_getElem? hb
  cases h : l.all f with
  | false => rfl
  | true => rw [List.all_eq_true] at h; rw [h b hm] at hf; cases hf
set_option maxRecDepth 100000 in
set_option maxHeartbeats 1000000 in
theorem lightAttrs_any (a : Option Addr) (cap : Nat) (l : List Kv) (w : World) (h : Kvm w.cell? a l) :
    Calls Try.prog 52 #[.slice a l.length cap] w fun e w' => e = .returned (.bool (lightB l)) ∧ w = w' := by
  by_cases h8 : 8 < l.length
  · have d8 : decide (8 < (l.length : Int)) = true := decide_eq_true (by omega)
    have HF : Hid (lightB l = false) := by show _ = _; unfold lightB; rw [decide_eq_false (by omega : ¬ l.length ≤ 8)]; rfl
    go_enter Try.func52, Try.ntmps52
    go_wp2
    go_ret
    exact ⟨ret_bool HF.out.symm, rfl⟩
  have d8 : decide (8 < (l.length : Int)) = false := decide_eq_false (by omega)
  have HF : Hid (lightB l = l.all lowB) := by show _ = _; unfold lightB; rw [decide_eq_true (by omega : l.length ≤ 8)]; rfl
  go_enter Try.func52, Try.ntmps52
  go_wp2
  go_loop [3] (fun i => ∃ k : Nat, k ≤ l.length ∧ i = .int .i64 k ∧ Hid ((l.take k).all lowB = true)) (fun i => l.length - (intOf i).toNat)
  case atStart => exact ⟨0, Nat.zero_le _, rfl, rfl⟩
  case round =>
    obtain ⟨k, hk, rfl, HA⟩ := hrel
    by_cases hlt : k < l.length
    · rcases h with rfl | ⟨b, off, rfl, hc⟩
      · simp at hlt
      · obtain ⟨x, hx⟩ : ∃ x, l[k]? = some x := ⟨l[k], by simp [hlt]⟩
        obtain ⟨q0, q1⟩ := hc k x hx
        have hbl : b < w.heap.size := World.block_lt_of_cell? _ _ q0
        have hki : (k : Int) < (l.length : Int) := by omega
        have HX : Hid (l[k]? = some x) := hx
        clear hx hc
        by_cases h1 : 60 < x.n.size
        · have d1 : decide (60 < (x.n.size : Int)) = true := decide_eq_true (by omega)
          have HB : Hid (l.all lowB = false) := allK_bad HX.out (by unfold lowB; rw [decide_eq_false (by omega : ¬ x.n.size ≤ 60)]; rfl)
          go_wp2
          go_ret
          exact ⟨ret_bool (by rw [HF.out, HB.out]), rfl⟩
        have d1 : decide (60 < (x.n.size : Int)) = false := decide_eq_false (by omega)
        by_cases h2 : 60 < x.v.size
        · have d2 : decide (60 < (x.v.size : Int)) = true := decide_eq_true (by omega)
          have HB : Hid (l.all lowB = false) := allK_bad HX.out (by unfold lowB; rw [decide_eq_false (by omega : ¬ x.v.size ≤ 60)]; simp)
          go_wp2
          go_ret
          exact ⟨ret_bool (by rw [HF.out, HB.out]), rfl⟩
        have d2 : decide (60 < (x.v.size : Int)) = false := decide_eq_false (by omega)
        have HB : Hid (lowB x = true) := by show _ = _; unfold lowB; simp; omega
        go_wp2
        go_round
        case rel => exact ⟨k + 1, by omega, by go_num, allK_succ HX.out HA.out HB.out⟩
        case measure => simp [intOf]; omega
    · go_wp2
      go_ret
      have := HA.out
      rw [List.take_of_length_le (by omega)] at this
      exact ⟨ret_bool (by rw [HF.out, this]), rfl⟩
set_option maxRecDepth 100000 in
set_option maxHeartbeats 1000000 in
theorem sameAttrs_yes (a b : Option Addr) (c1 c2 n : Nat) (l : List Kv) (w : World) (hn : l.length = n) (hl : n ≤ 1000) (h : Kvm w.cell? a l) (h' : Kvm w.cell? b l) :
    Calls Try.prog 21 #[.slice a n c1, .slice b n c2] w fun e w' => e = .returned (.bool true) ∧ Below w.heap.size w w' := by
  have hne : ((n : Int) != (n : Int)) = false := by simp
  go_enter Try.func21, Try.ntmps21
  go_wp2
  go_loopw [5] (fun i wr => ∃ k : Nat, k ≤ n ∧ i = .int .i64 k ∧ Below w.heap.size w wr) (fun i _ => n - (intOf i).toNat)
  case atStart => exact ⟨0, Nat.zero_le _, rfl, Below.refl _ _⟩
  case round =>
    obtain ⟨k, hk, rfl, hb⟩ := hrel
    by_cases hlt : k < n
    · obtain ⟨r, hr⟩ : ∃ r, l[k]? = some r := ⟨l[k]'(by omega), List.getElem?_eq_getElem _⟩
      rcases h.below (Below.refl _ _) with hnil | ⟨ba, oa, rfl, hc⟩
      · rw [hnil] at hn; simp at hn; omega
      rcases h' with hnil | ⟨bb, ob, rfl, hc'⟩
      · rw [hnil] at hn; simp at hn; omega
      obtain ⟨y0, y1⟩ := hc k r hr
      obtain ⟨z0, z1⟩ := hc' k r hr
      obtain ⟨ri, ro⟩ := r
      dsimp only at y0 y1 z0 z1
      have hba : ba < w.heap.size := World.block_lt_of_cell? _ _ y0
      have hbb : bb < w.heap.size := World.block_lt_of_cell? _ _ z0
      have q0 : wr.cell? ⟨ba, oa + k * 2, none⟩ = some (.string ri) := (hb.cell (p := ⟨ba, oa + k * 2, none⟩) hba).trans y0
      have q1 : wr.cell? ⟨ba, oa + k * 2 + 1, none⟩ = some (.string ro) := (hb.cell (p := ⟨ba, oa + k * 2 + 1, none⟩) hba).trans y1
      have p0 : wr.cell? ⟨bb, ob + k * 2, none⟩ = some (.string ri) := (hb.cell (p := ⟨bb, ob + k * 2, none⟩) hbb).trans z0
      have p1 : wr.cell? ⟨bb, ob + k * 2 + 1, none⟩ = some (.string ro) := (hb.cell (p := ⟨bb, ob + k * 2 + 1, none⟩) hbb).trans z1
      have hki : (k : Int) < (n : Int) := by omega
      clear y0 y1 z0 z1 hc hc' h hr
      go_wp2
      go_quiet (fail)
      go_wp2
      go_roundw
      case rel => exact ⟨k + 1, by omega, by go_num, below_drewN hb _⟩
      case measure => simp [intOf]; omega
    · go_wp2
      go_ret
      exact ⟨rfl, hb⟩
end Go.Proofs.Ytgmeecfdkcbggaa
