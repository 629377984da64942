/-
  ROWS OF ATTRIBUTES AND OF KIDS THAT A CALL OWNS, read; a node that is stored.
  A RANGE OVER A FUNCTION, AT THE WIDE FENCE: the statement; one round.
  SPOTS: nodes where they stand; an iterator over spots; the layers' one: the walk.
  WHAT sign AND Name DO, the program's and the document's: the walks.
  WHAT internal/stringslite.Index DOES AT ONE BYTE: the library contract, applied.
  WHAT strings.Cut DOES AT A DOT, AND WHAT Class DOES, the program's and the document's: the walks.
  LISTS OF ATTRIBUTES IN MEMORY; what attr.Check does: the walk.
  WHAT AttrFault, lightAttrs, SameAttrs, same AND is DO: the walks.
-/
import Derived.Test.YtlbabnffiibnpaaGreatApX
import Derived.RangeFuncNested
import Derived.RangeFuncBound
import Derived.RangeFuncCalls
import Derived.RangeFuncLeaves
import Derived.Shelf.Abstract
import Derived.Shelf.RegionOpen
import Derived.WalkKit
import Derived.OwnWalkIn
import Derived.TacticsInMore
import Derived.LoopNIn
import Derived.LoopIn
import Derived.Test.YtlbabnffiibnpaaGreatRows
import Derived.WalkSpells
import Derived.WalkLawsBesides
import Derived.Lib.Strings
import Derived.Shelf.Strings.Search1
import Derived.Shelf.Strings.Search2
import Derived.Test.YtlbabnffiibnpaaGreatProg
import Derived.Lib.CutLaws
import Derived.Deep.QuietTactic
import Derived.BigQuiet
namespace Go.Proofs.YtlbabnffiibnpaaGreat
open Go.RowKit
def flat : List Kv → List Value
  | [] => []
  | r :: l => .string r.n :: .string r.v :: flat l
theorem flat_length : ∀ L : List Kv, (flat L).length = L.length * 2
  | [] => rfl
  | r :: l => by simp [flat, flat_length l]; omega
theorem flat_one : ∀ L : List Kv, ∀ u ∈ flat L, u.oneCell' = true
  | [], u, h => by cases h
  | r :: l, u, h => by
    simp [flat] at h
    rcases h with rfl | rfl | h
    · rfl
    · rfl
    · exact flat_one l u h
theorem flat_get : ∀ (L : List Kv) (k : Nat) (r : Kv), L[k]? = some r → (flat L)[k * 2]? = some (.string r.n) ∧ (flat L)[k * 2 + 1]? = some (.string r.v)
  | [], k, r, h => by simp at h
  | x :: l, 0, r, h => by simp at h; subst h; simp [flat]
  | x :: l, k + 1, r, h => by
    have := flat_get l k r (by simpa using h)
    have e : (k + 1) * 2 = k * 2 + 2 := by omega
    rw [e]
    simpa [flat] using this
theorem addr_add (b off j : Nat) : (⟨b, off, none⟩ : Addr).add j = ⟨b, off + j, none⟩ := by by_cases hj0 : j = 0 <;> simp [Addr.add, hj0]
/-- An owned row, cell by cell. -/
theorem owns_cells {w : World} {base : Nat} {e : TypeId} {size : Nat} {v : Value} {n : Nat} {xs : List Value} (h : w.ownsRow base e size v n xs) :
    ∃ a cap, v = .slice a n cap ∧ n ≤ cap ∧ cap ≤ 9223372036854775807 ∧ ((a = none ∧ n = 0 ∧ xs = [] ∧ cap = 0) ∨ ∃ g, a = some ⟨g, 0, none⟩ ∧ base ≤ g ∧ g < w.heap.size ∧ (∀ j u, xs[j]? = some u → w.cell? ⟨g, j, none⟩ = some u) ∧ ∀ j, w.frozen? ⟨g, j, none⟩ = false) := by
  obtain ⟨a, cap, hv, h1, h2, hf⟩ := ownsRow_form h
  refine ⟨a, cap, hv, h1, by unfold maxLen at h2; omega, ?_⟩
  rcases hf with hf | ⟨g, cur, ha, hb, hg, _, hx⟩
  · exact .inl hf
  · refine .inr ⟨g, ha, hb, ?_, fun j u hj => ownsRow_cell hg hx hj, fun j => ?_⟩
    · by_cases hlt : g < w.heap.size
      · exact hlt
      · rw [Array.getElem?_eq_none (by omega)] at hg; cases hg
    · simp [World.frozen?, hg]
theorem kvm_of_owns {w : World} {base : Nat} {e : TypeId} {v : Value} {n : Nat} {L : List Kv} (h : w.ownsRow base e 2 v n (flat L)) : ∃ a cap, v = .slice a n cap ∧ n ≤ cap ∧ cap ≤ 9223372036854775807 ∧ Kvm w.cell? a L := by
  obtain ⟨a, cap, hv, h1, h2, hf⟩ := owns_cells h
  refine ⟨a, cap, hv, h1, h2, ?_⟩
  rcases hf with ⟨_, _, hx, _⟩ | ⟨g, ha, _, _, hc, _⟩
  · left
    cases L with
    | nil => rfl
    | cons r l => simp [flat] at hx
  · refine .inr ⟨g, 0, ha, fun k r hk => ?_⟩
    obtain ⟨h1, h2⟩ := flat_get L k r hk
    rw [Nat.zero_add]
    exact ⟨hc _ _ h1, hc _ _ h2⟩
/-- New kids, which may be written. -/
def FreshK (base : Nat) (w : World) (a : Option Addr) (ks : Kds) : Prop := ks = [] ∨ ∃ g, a = some ⟨g, 0, none⟩ ∧ base ≤ g ∧ g < w.heap.size ∧ ∀ j, w.frozen? ⟨g, j, none⟩ = false
theorem FreshK.below {base : Nat} {w w' : World} {a : Option Addr} {ks : Kds} (h : FreshK base w a ks) (hb : Below w.heap.size w w') : FreshK base w' a ks := by
  rcases h with h | ⟨g, ha, h1, h2, h3⟩
  · exact .inl h
  · exact .inr ⟨g, ha, h1, Nat.lt_of_lt_of_le h2 hb.size, fun j => (hb.frozen (p := ⟨g, j, none⟩) h2).trans (h3 j)⟩
/-- A memory but some blocks. -/
def offS (c : Mem) (S : Nat → Bool) : Mem := fun q => if S q.block = true then none else c q
theorem offS_no (c : Mem) : offS c (fun _ => false) = c := by funext q; simp [offS]
theorem offS_le (c : Mem) (S : Nat → Bool) : MLe (offS c S) c := fun q v h => by
  unfold offS at h
  split at h
  · cases h
  · exact h
theorem offS_ne {c : Mem} {S : Nat → Bool} {q : Addr} (h : S q.block = false) : offS c S q = c q := by unfold offS; rw [if_neg (by rw [h]; decide)]
theorem offS_off {c : Mem} {S : Nat → Bool} {q : Addr} {v : Value} (h : offS c S q = some v) : S q.block = false := by
  unfold offS at h
  cases hs : S q.block with
  | false => rfl
  | true => rw [if_pos hs] at h; cases h
/-- A step that leaves the blocks that are said. -/
theorem mle_step {w w' : World} {S S' : Nat → Bool} (h : ∀ k, k < w.heap.size → S k = false → S' k = false ∧ w'.heap[k]? = w.heap[k]?) : MLe (offS w.cell? S) (offS w'.cell? S') := by
  intro q v hq
  have hs := offS_off hq
  rw [offS_ne hs] at hq
  obtain ⟨h1, h2⟩ := h q.block (World.block_lt_of_cell? _ _ hq) hs
  rw [offS_ne h1, World.cell?_of_block (w := w) h2]; exact hq
theorem mle_S {w w' : World} {S : Nat → Bool} (hb : Below w.heap.size w w') : MLe (offS w.cell? S) (offS w'.cell? S) := mle_step fun k hk hs => ⟨hs, hb.block k hk⟩
theorem kvm_of_ownsS {w : World} {base : Nat} {e : TypeId} {v : Value} {n : Nat} {L : List Kv} {S : Nat → Bool} (hS : ∀ k, S k = true → k < base) (h : w.ownsRow base e 2 v n (flat L)) : ∃ a cap, v = .slice a n cap ∧ n ≤ cap ∧ cap ≤ 9223372036854775807 ∧ Kvm (offS w.cell? S) a L := by
  obtain ⟨a, cap, hv, h1, h2, hf⟩ := owns_cells h
  refine ⟨a, cap, hv, h1, h2, ?_⟩
  rcases hf with ⟨_, _, hx, _⟩ | ⟨g, ha, hb, _, hc, _⟩
  · left
    cases L with
    | nil => rfl
    | cons r l => simp [flat] at hx
  · have hg : S g = false := by
      cases hs : S g with
      | false => rfl
      | true => have := hS g hs; omega
    refine .inr ⟨g, 0, ha, fun k r hk => ?_⟩
    obtain ⟨h1, h2⟩ := flat_get L k r hk
    rw [Nat.zero_add, offS_ne hg, offS_ne hg]
    exact ⟨hc _ _ h1, hc _ _ h2⟩
theorem ksH_of_ownsS {w : World} {base : Nat} {e : TypeId} {v : Value} {n : Nat} {L : Khs} {S : Nat → Bool} (hS : ∀ k, S k = true → k < base) (h : w.ownsRow base e 9 v n (kfl L)) (hN : ∀ e ∈ L, NdV (offS w.cell? S) e.2.1 e.2.2) : ∃ a cap, v = .slice a n cap ∧ n ≤ cap ∧ cap ≤ 9223372036854775807 ∧ KsH (offS w.cell? S) a L ∧ FreshK base w a (bare L) := by
  obtain ⟨a, cap, hv, h1, h2, hf⟩ := owns_cells h
  refine ⟨a, cap, hv, h1, h2, ?_⟩
  rcases hf with ⟨_, _, hx, _⟩ | ⟨g, ha, hb, hl, hc, hfr⟩
  · have : L = [] := by
      cases L with
      | nil => rfl
      | cons r l => obtain ⟨n, x, h⟩ := r; simp [kfl] at hx
    subst this
    exact ⟨⟨.inl rfl, hN⟩, .inl rfl⟩
  · have hg : S g = false := by
      cases hs : S g with
      | false => rfl
      | true => have := hS g hs; omega
    exact ⟨⟨.inr ⟨g, 0, ha, fun j u hj => by rw [Nat.zero_add, offS_ne hg]; exact hc j u hj⟩, hN⟩, .inr ⟨g, ha, hb, hl, hfr⟩⟩
theorem src_of_kvm {w : World} {a : Option Addr} {l : List Kv} (h : Kvm w.cell? a l) : (a = none ∧ l.length = 0) ∨ ∃ ad, a = some ad ∧ ∀ j u, (flat l)[j]? = some u → w.cell? (ad.add j) = some u := by
  rcases h with rfl | ⟨b, off, rfl, hc⟩
  · cases a with
    | none => exact .inl ⟨rfl, rfl⟩
    | some ad => exact .inr ⟨ad, rfl, fun j u hu => by simp [flat] at hu⟩
  · refine .inr ⟨_, rfl, fun j u hj => ?_⟩
    have hjl : j < l.length * 2 := by have := (List.getElem?_eq_some_iff.1 hj).1; rwa [flat_length] at this
    obtain ⟨r, hr⟩ : ∃ r, l[j / 2]? = some r := ⟨l[j / 2]'(by omega), List.getElem?_eq_getElem _⟩
    obtain ⟨h1, h2⟩ := hc _ r hr
    obtain ⟨f1, f2⟩ := flat_get l _ r hr
    rw [addr_add]
    have hm : j = j / 2 * 2 ∨ j = j / 2 * 2 + 1 := by omega
    rcases hm with hm | hm
    · rw [hm] at hj ⊢; rw [f1] at hj; cases hj; exact h1
    · rw [hm] at hj ⊢; rw [f2] at hj; cases hj; rw [← Nat.add_assoc]; exact h2
theorem src_of_ksH {w : World} {a : Option Addr} {L : Khs} (h : KsH w.cell? a L) : (a = none ∧ L.length = 0) ∨ ∃ ad, a = some ad ∧ ∀ j u, (kfl L)[j]? = some u → w.cell? (ad.add j) = some u := by
  rcases h.1 with rfl | ⟨b, off, rfl, hc⟩
  · cases a with
    | none => exact .inl ⟨rfl, rfl⟩
    | some ad => exact .inr ⟨ad, rfl, fun j u hu => by simp [kfl] at hu⟩
  · exact .inr ⟨_, rfl, fun j u hj => by rw [addr_add]; exact hc j u hj⟩
/-- A node stored. -/
def st8 (w : World) (b p : Nat) : Nd → Hd → World
  | .mk k m u g o at_ d ks, h => (((((((w.setCell ⟨b, p, none⟩ (.int .i64 k)).setCell ⟨b, p + 1, none⟩ (.int .i64 m)).setCell ⟨b, p + 2, none⟩ (.int .i64 u)).setCell ⟨b, p + 3, none⟩ (.int .i64 g)).setCell ⟨b, p + 4, none⟩ (.bool o)).setCell ⟨b, p + 5, none⟩ (.slice h.aa at_.length h.ca)).setCell ⟨b, p + 6, none⟩ (.string d)).setCell ⟨b, p + 7, none⟩ (.slice h.ak ks.length h.ck)
theorem st8_far {w : World} {b p : Nat} {x : Nd} {h : Hd} {q : Addr} (hq : ∀ j, j < 8 → q ≠ ⟨b, p + j, none⟩) : (st8 w b p x h).cell? q = w.cell? q := by
  obtain ⟨k, m, u, g, o, at_, d, ks⟩ := x
  unfold st8
  rw [World.cell?_setCell_other _ _ _ _ (hq 7 (by omega)).symm, World.cell?_setCell_other _ _ _ _ (hq 6 (by omega)).symm, World.cell?_setCell_other _ _ _ _ (hq 5 (by omega)).symm, World.cell?_setCell_other _ _ _ _ (hq 4 (by omega)).symm, World.cell?_setCell_other _ _ _ _ (hq 3 (by omega)).symm, World.cell?_setCell_other _ _ _ _ (hq 2 (by omega)).symm, World.cell?_setCell_other _ _ _ _ (hq 1 (by omega)).symm, World.cell?_setCell_other _ _ _ _ (show (⟨b, p, none⟩ : Addr) ≠ q from (hq 0 (by omega)).symm)]
theorem st8_at {w : World} {b p : Nat} {x y : Nd} {h h' : Hd} (hy : NAt w.cell? b p y h') : NAt (st8 w b p x h).cell? b p x h := by
  obtain ⟨k, m, u, g, o, at_, d, ks⟩ := x
  obtain ⟨k', m', u', g', o', at', d', ks'⟩ := y
  obtain ⟨h0, h1, h2, h3, h4, h5, h6, h7⟩ := hy
  unfold st8
  refine ⟨?_, ?_, ?_, ?_, ?_, ?_, ?_, ?_⟩ <;> simp [World.cell?_setCell_other, World.cell?_setCell_same', h0, h1, h2, h3, h4, h5, h6, h7]
theorem st8_frozen {w : World} {b p : Nat} {x : Nd} {h : Hd} (q : Addr) : (st8 w b p x h).frozen? q = w.frozen? q := by
  obtain ⟨k, m, u, g, o, at_, d, ks⟩ := x
  unfold st8
  simp
theorem st8_but {w : World} {b p : Nat} {x : Nd} {h : Hd} : But b w (st8 w b p x h) := by
  obtain ⟨k, m, u, g, o, at_, d, ks⟩ := x
  unfold st8
  exact ((((((((But.refl b w).setCell _ _ _).setCell _ _ _).setCell _ _ _).setCell _ _ _).setCell _ _ _).setCell _ _ _).setCell _ _ _).setCell _ _ _
/-- Of the same node: all but its two lists are as they were. -/
theorem st8_same {w : World} {b p : Nat} {x : Nd} {h h' : Hd} (hy : NAt w.cell? b p x h) (q : Addr) (h5 : q ≠ ⟨b, p + 5, none⟩) (h7 : q ≠ ⟨b, p + 7, none⟩) : (st8 w b p x h').cell? q = w.cell? q := by
  by_cases hq : ∃ j, j < 8 ∧ q = ⟨b, p + j, none⟩
  · obtain ⟨j, hj, rfl⟩ := hq
    have hn := st8_at (x := x) (h := h') hy
    obtain ⟨k, m, u, g, o, at_, d, ks⟩ := x
    obtain ⟨a0, a1, a2, a3, a4, a5, a6, a7⟩ := hy
    obtain ⟨e0, e1, e2, e3, e4, e5, e6, e7⟩ := hn
    match j, hj with
    | 0, _ => exact e0.trans a0.symm
    | 1, _ => exact e1.trans a1.symm
    | 2, _ => exact e2.trans a2.symm
    | 3, _ => exact e3.trans a3.symm
    | 4, _ => exact e4.trans a4.symm
    | 5, _ => exact absurd rfl h5
    | 6, _ => exact e6.trans a6.symm
    | 7, _ => exact absurd rfl h7
    | j + 8, hj => omega
  · exact st8_far fun j hj e => hq ⟨j, hj, e⟩
end Go.Proofs.YtlbabnffiibnpaaGreat
namespace Go.Proofs.YtlbabnffiibnpaaGreat
open Go.RowKit
/-- The loop's record, by its state and its pending jump. -/
structure IsRec (rec : LoopState → Option Code → Loop) (fn : FuncId) (tmps : Array Value) (ps : Array Tmp) (assign body : Code) (D : Nat) : Prop where
  out : rec = fun st pe => { state := st, pending := pe, fn, tmps, params := ps, assign, body, defers := D }
/-- How a round may end. -/
def rPost (l : Nat) (rec : LoopState → Option Code → Loop) (R : Ending → World → Prop) : Exit → Act → World → Prop
  | .normal, _, W => W.heap[l]? = some (.loop (rec .busy none)) ∧ R (.returned (.bool true)) (W.putObj l (.loop (rec .ready none)))
  | .ret, _, W => W.heap[l]? = some (.loop (rec .busy none)) ∧ R (.returned (.bool false)) (W.putObj l (.loop (rec .done (some .ret))))
  | .exit id, _, W => W.heap[l]? = some (.loop (rec .busy none)) ∧ R (.returned (.bool false)) (W.putObj l (.loop (rec .done (some (.exit id)))))
  | .goto t, _, W => W.heap[l]? = some (.loop (rec .busy none)) ∧ R (.returned (.bool false)) (W.putObj l (.loop (rec .done (some (.goto t)))))
  | .panic _, _, _ => False
  | .outgrown, _, _ => False
theorem round_at {P : Program} {n : Nat} {rec : LoopState → Option Code → Loop} {fn : FuncId} {tmps : Array Value} {ps : Array Tmp} {assign body : Code} {D : Nat} (hrec : IsRec rec fn tmps ps assign body D) {l : Nat} {W : World} {args : Array Value} {R : Ending → World → Prop}
    (hl : W.heap[l]? = some (.loop (rec .ready none))) (hs : args.size = ps.size)
    (h : assign.wpIn (Fence.wide.inRound l) n P (Exit.then (fun a w => w.heap[l]? = some (.loop (rec .ready none)) ∧ body.wpIn (Fence.wide.inRound l) n P (rPost l rec R) a (w.putObj l (.loop (rec .busy none)))) fun _ _ _ => False)
      { tmps := (ps.zip args).foldl (fun t (p, v) => t.setIfInBounds p v) tmps, defers := [] } W) : YieldAt Fence.wide n P l args W R := by
  have hr := hrec.out
  have hy := run_yield (P := P) (args := args) hl (by rw [hr]; exact hs)
  rw [hr] at hy
  refine ⟨fn, _, assign, body, hy, roundIn_of_wpIn trivial (wpIn_mono h ?_)⟩
  intro e a w hp
  cases e with
  | normal =>
    obtain ⟨h1, h2⟩ := hp
    refine ⟨_, run_beginRound h1 (by rw [hr]), ?_⟩
    have e1 : ({ rec .ready none with state := .busy } : Loop) = rec .busy none := by rw [hr]
    rw [e1]
    refine wpIn_mono h2 ?_
    have key : ∀ (jump : Option Code) (w3 : World), w3.heap[l]? = some (.loop (rec .busy none)) → (Instr.endRound l jump).run P w3 = .ok (.bool jump.isNone) (w3.putObj l (.loop (rec (if jump.isNone then .ready else .done) jump))) := fun jump w3 h3 => by
      have := run_endRound (P := P) jump h3
      rw [hr] at this ⊢
      exact this
    intro e a w hp
    cases e with
    | normal => exact ⟨_, _, key none w hp.1, hp.2⟩
    | ret => exact ⟨_, _, key (some .ret) w hp.1, hp.2⟩
    | exit id => exact ⟨_, _, key (some (.exit id)) w hp.1, hp.2⟩
    | goto t => exact ⟨_, _, key (some (.goto t)) w hp.1, hp.2⟩
    | panic c => exact hp.elim
    | outgrown => exact hp.elim
  | ret => exact hp.elim
  | exit id => exact hp.elim
  | goto t => exact hp.elim
  | panic c => exact hp.elim
  | outgrown => exact hp.elim
theorem range_at {P : Program} {n : Nat} {g : Operand} {ps : Array Tmp} {assign body : Code} {Q : Exit → Act → World → Prop} {a : Act} {w : World} {gf : Nat} {lb : Array Value}
    (hg : a.eval g = .func (.func gf) #[] lb) (eg : ∀ args w, (callFunc gf args).run P w = .ok (.enter gf args) w)
    (h : ∀ fn rec, IsRec rec fn a.tmps ps assign body w.heap.size → ∀ W1 : World, Below w.heap.size w W1 → W1.heap.size = w.heap.size + 1 + 1 → W1.heap[w.heap.size + 1]? = some (.loop (rec .ready none)) → W1.heap[w.heap.size]? = some (.deferred (some [])) →
      CallsIn Fence.wide (n - 1) P gf (#[.func (.yield (w.heap.size + 1)) #[] #[]] ++ lb) W1 fun e W' => (∃ v, e = .returned v) ∧
        ((W'.heap[w.heap.size + 1]? = some (.loop (rec .ready none)) ∧ Q .normal { a with defers := { target := .collected w.heap.size, args := #[] } :: a.defers } (W'.putObj (w.heap.size + 1) (.loop (rec .exhausted none)))) ∨
         ∃ c, W'.heap[w.heap.size + 1]? = some (.loop (rec .done (some c))) ∧ c.wpIn Fence.wide n P Q { a with defers := { target := .collected w.heap.size, args := #[] } :: a.defers } (W'.putObj (w.heap.size + 1) (.loop (rec .exhausted (some c)))))) :
    (Code.rangeFunc g ps assign body).wpIn Fence.wide n P Q a w := by
  refine wpIn_rangeFunc ?_
  intro fn _
  obtain ⟨rec, hrec⟩ : ∃ rec : LoopState → Option Code → Loop, rec = fun st pe => { state := st, pending := pe, fn, tmps := a.tmps, params := ps, assign, body, defers := w.heap.size } := ⟨_, rfl⟩
  have hsz : ((w.alloc (.deferred (some []))).alloc (.loop (rec .ready none))).heap.size = w.heap.size + 1 + 1 := by rw [World.size_alloc, World.size_alloc]
  have hB : Below w.heap.size w ((w.alloc (.deferred (some []))).alloc (.loop (rec .ready none))) := ((Below.refl _ w).alloc (Nat.le_refl _) _).alloc (by rw [World.size_alloc]; omega) _
  have h1 : ((w.alloc (.deferred (some []))).alloc (.loop (rec .ready none))).heap[w.heap.size + 1]? = some (.loop (rec .ready none)) := by
    have := World.alloc_heap_new (w.alloc (.deferred (some []))) (.loop (rec .ready none))
    rwa [World.size_alloc] at this
  have h2 : ((w.alloc (.deferred (some []))).alloc (.loop (rec .ready none))).heap[w.heap.size]? = some (.deferred (some [])) := (Below.heap_alloc _ _ _ (by rw [World.size_alloc]; omega)).trans (World.alloc_heap_new w _)
  have h0 : (Instr.enterLoop fn a.tmps ps assign body Fence.wide.round).run P w = .ok (w.heap.size + 1, [{ target := .collected w.heap.size, args := #[] }]) ((w.alloc (.deferred (some []))).alloc (.loop (rec .ready none))) := by rw [hrec]; exact run_enterLoop_outer _ _ _ _ _
  obtain ⟨W1, hW1⟩ : ∃ W1, (w.alloc (.deferred (some []))).alloc (.loop (rec .ready none)) = W1 := ⟨_, rfl⟩
  rw [hW1] at h0 hsz hB h1 h2
  clear hW1
  refine ⟨w.heap.size + 1, [{ target := .collected w.heap.size, args := #[] }], W1, { target := .fn (.func gf) lb, args := #[.func (.yield (w.heap.size + 1)) #[] #[]] }, W1, gf,
    #[.func (.yield (w.heap.size + 1)) #[] #[]] ++ lb, W1, h0, ?_, fun f' _ => trivial, ?_, fun e => by simp [Fence.wide] at e, ?_⟩
  · simp only [resolve, hg]
    simp [go_sem]
  · simp [invoke, go_sem, eg]
  · refine (h fn rec ⟨hrec⟩ _ hB hsz h1 h2).mono ?_
    rintro e W2 ⟨⟨v, rfl⟩, (⟨hl, hq⟩ | ⟨c, hl, hq⟩)⟩
    · exact ⟨none, _, by have := run_endLoop (P := P) hl (by rw [hrec]; simp); rw [hrec] at this ⊢; exact this, hq⟩
    · exact ⟨some c, _, by have := run_endLoop (P := P) hl (by rw [hrec]; simp); rw [hrec] at this ⊢; exact this, hq⟩
end Go.Proofs.YtlbabnffiibnpaaGreat
namespace Go.Proofs.YtlbabnffiibnpaaGreat
open Go.RowKit Go.Shelf
attribute [local go_sem] Oper.semAt_some
/-- A node where it stands, and its layer. -/
structure Sp where
  b : Nat
  p : Nat
  ly : Nat
  x : Nd
  h : Hd
def Sp.v (s : Sp) : Value := .agg #[.pointer (some ⟨s.b, s.p, none⟩), .int .i64 s.ly]
def Sp.pr (s : Sp) : Nd × Nat := (s.x, s.ly)
def SpAt (c : Mem) (s : Sp) : Prop := NAt c s.b s.p s.x s.h ∧ NdV c s.x s.h
theorem SpAt.below {w w' : World} {s : Sp} (h : SpAt w.cell? s) (hb : Below w.heap.size w w') : SpAt w'.cell? s := ⟨h.1.below hb, h.2.ab hb⟩
/-- What a function that is ranged over gives: these spots, in this order. -/
def Its (gf : Nat) (lb : Array Value) (n₀ : Nat) (w : World) (T : List Sp) : Prop :=
  ∀ (l : Nat) (J : Nat → World → Prop) (Jx : World → Prop) (W : World), Below n₀ w W → (∀ i A B, J i A → Below A.heap.size A B → J i B) →
    (∀ i s A, T[i]? = some s → J i A → YieldAt Fence.wide 0 Tryz.prog l #[s.v] A fun e B => (e = .returned (.bool true) ∧ J (i + 1) B ∧ Below n₀ A B) ∨ (e = .returned (.bool false) ∧ Jx B)) →
    J 0 W → CallsIn Fence.wide 0 Tryz.prog gf (#[.func (.yield l) #[] #[]] ++ lb) W fun e B => (∃ v, e = .returned v) ∧ (J T.length B ∨ Jx B)
set_option maxRecDepth 100000 in
set_option maxHeartbeats 1000000 in
theorem layers1_any (bx n₀ : Nat) (a : Option Addr) (cap : Nat) (T : List Sp) (w : World) (hbx : bx < n₀) (_hn : n₀ ≤ w.heap.size) (hc : w.cell? ⟨bx, 0, none⟩ = some (.slice a T.length cap)) (hlen : T.length ≤ 1000)
    (hT : ∀ i s, T[i]? = some s → ∃ b off, a = some ⟨b, off, none⟩ ∧ s.b = b ∧ s.p = off + i * 8 ∧ s.ly = i) :
    Its 67 #[.pointer (some ⟨bx, 0, none⟩)] n₀ w T := by
  intro l J Jx W hW hJ hY h0
  have hcW : W.cell? ⟨bx, 0, none⟩ = some (.slice a T.length cap) := (hW.cell (p := ⟨bx, 0, none⟩) hbx).trans hc
  show CallsIn Fence.wide 0 Tryz.prog 67 #[.func (.yield l) #[] #[], .pointer (some ⟨bx, 0, none⟩)] W _
  refine callsIn_of_wp Tryz.func67 rfl trivial ?_ rfl
  simp only [Tryz.ntmps67, List.size_toArray, List.length_cons, List.length_nil, Nat.reduceAdd, Nat.reduceSub, Array.replicate_succ, Array.replicate_zero, List.push_toArray, List.append_toArray, List.nil_append, List.cons_append]
  have HY : Hid _ := hY
  have HT : Hid _ := hT
  obtain ⟨N, HN⟩ : ∃ N, Hid (T.length = N) := ⟨_, rfl⟩
  rw [HN.out] at hcW hlen ⊢
  clear hY hT hc
  gi_wp2
  gi_loopw [3, 6] (fun _ i wr => ∃ j : Nat, j ≤ N ∧ i = .int .i64 j ∧ J j wr ∧ wr.cell? ⟨bx, 0, none⟩ = some (.slice a N cap)) (fun _ i _ => N - (intOf i).toNat)
  case atStart => exact ⟨0, Nat.zero_le _, rfl, h0, hcW⟩
  case round =>
    obtain ⟨j, hj, rfl, hJj, hcj⟩ := hrel
    by_cases hjl : j < N
    rotate_left
    · have hji : decide ((j : Int) < (N : Int)) = false := decide_eq_false (by omega)
      gi_wp2
      go_end0
      exact ⟨⟨_, rfl⟩, .inl (by rw [show N = j by omega]; exact hJj)⟩
    · obtain ⟨s, hs⟩ : ∃ s, T[j]? = some s := ⟨_, List.getElem?_eq_getElem (by rw [HN.out]; exact hjl)⟩
      obtain ⟨b, off, rfl, e1, e2, e3⟩ := HT.out j s hs
      obtain ⟨fn, tmps, assign, body, hy, hR⟩ := HY.out j s wr hs hJj
      rw [Sp.v, e1, e2, e3] at hy
      have hji : decide ((j : Int) < (N : Int)) = true := decide_eq_true (by omega)
      have HR : Hid _ := hR
      clear hR hs e1 e2 e3
      gi_wp2
      refine ⟨rfl, RoundIn.mono HR.out ?_⟩
      rintro e W3 (⟨rfl, hJ3, hk3⟩ | ⟨rfl, hJx3⟩)
      · have hc3 := (hk3.cell (p := ⟨bx, 0, none⟩) hbx).trans hcj
        gi_wp2
        go_roundw
        case rel => exact ⟨j + 1, by omega, by go_num, hJ3, hc3⟩
        case measure => (simp [intOf]; try omega)
      · gi_wp2
        refine bodyPost_ret (results_none rfl _ _ _) rfl ?_
        exact ⟨⟨_, rfl⟩, .inr hJx3⟩
end Go.Proofs.YtlbabnffiibnpaaGreat
namespace Go.Proofs.YtlbabnffiibnpaaGreat
open Go.RowKit
theorem ret_bool {a b : Bool} (h : a = b) : Ending.returned (.bool a) = .returned (.bool b) := by rw [h]
set_option maxHeartbeats 400000 in
theorem sign_any (n : Int) (w : World) : Calls Tryz.prog 51 #[.int .u8 n] w fun e w' => e = .returned (.bool (signB n)) ∧ w = w' := by
  by_cases h1 : 97 ≤ n ∧ n ≤ 122
  · have d1 : decide (97 ≤ n) = true := by simpa using h1.1
    have d2 : decide (n ≤ 122) = true := by simpa using h1.2
    go_enter Tryz.func51, Tryz.ntmps51
    go_wp2
    go_ret
    exact ⟨ret_bool (by simp [signB, d1, d2]), rfl⟩
  · by_cases h2 : 48 ≤ n ∧ n ≤ 57
    · have d1 : decide (97 ≤ n) = false := by simp; omega
      have d3 : decide (48 ≤ n) = true := by simpa using h2.1
      have d4 : decide (n ≤ 57) = true := by simpa using h2.2
      go_enter Tryz.func51, Tryz.ntmps51
      go_wp2
      go_ret
      exact ⟨ret_bool (by simp [signB, d3, d4]), rfl⟩
    · have key : signB n = ((n == 46 || n == 95) || n == 45) := by
        unfold signB
        have e1 : (decide (97 ≤ n) && decide (n ≤ 122)) = false := by simp; omega
        have e2 : (decide (48 ≤ n) && decide (n ≤ 57)) = false := by simp; omega
        rw [e1, e2]; simp
      have HK : Hid (signB n = ((n == 46 || n == 95) || n == 45)) := key
      clear key
      obtain ⟨t1, e1⟩ : ∃ t, decide (97 ≤ n) = t := ⟨_, rfl⟩
      obtain ⟨t2, e2⟩ : ∃ t, decide (48 ≤ n) = t := ⟨_, rfl⟩
      obtain ⟨t3, e3⟩ : ∃ t, (n == 46) = t := ⟨_, rfl⟩
      obtain ⟨t4, e4⟩ : ∃ t, (n == 95) = t := ⟨_, rfl⟩
      have e5 : t1 = true → decide (n ≤ 122) = false := by intro h; subst h; simp at e1 ⊢; omega
      have e6 : t2 = true → decide (n ≤ 57) = false := by intro h; subst h; simp at e2 ⊢; omega
      have HK2 : Hid (signB n = ((t3 || t4) || n == 45)) := by show _ = _; rw [HK.out, e3, e4]
      clear HK h1 h2
      cases t1 <;> cases t2 <;> cases t3 <;> cases t4
      all_goals
        try replace e5 := e5 rfl
        try replace e6 := e6 rfl
        go_enter Tryz.func51, Tryz.ntmps51
        go_wp2
        go_ret
        exact ⟨ret_bool (by rw [HK2.out]; simp), rfl⟩
theorem len_data (s : ByteArray) : s.data.toList.length = s.size := by rw [Array.length_toList]; rfl
theorem get_data (s : ByteArray) (k : Nat) (h : k < s.size) : s.data.toList[k]? = some s[k] := by
  have : k < s.data.size := h
  rw [Array.getElem?_toList, Array.getElem?_eq_getElem this]; rfl
theorem all_succ {f : UInt8 → Bool} {l : List UInt8} {k : Nat} {b : UInt8} (hb : l[k]? = some b) (h : (l.take k).all f = true) (hf : f b = true) : (l.take (k + 1)).all f = true := by
  rw [List.take_add_one, hb]; simp at h ⊢; exact ⟨h, hf⟩
theorem all_bad {f : UInt8 → Bool} {l : List UInt8} {k : Nat} {b : UInt8} (hb : l[k]? = some b) (hf : f b = false) : l.all f = false := by
  have hm : b ∈ l := List.mem_of_getElem? hb
  cases h : l.all f with
  | false => rfl
  | true => rw [List.all_eq_true] at h; rw [h b hm] at hf; cases hf
set_option maxHeartbeats 400000 in
theorem name_any (s : ByteArray) (w : World) : Calls Tryz.prog 29 #[.string s] w fun e w' => e = .returned (.bool (nameB s)) ∧ w = w' := by
  have HN : Hid (nameB s = (((((!s.toList.isEmpty) && decide (s.size ≤ 12)) && !(s.toList == [46])) && !(s.toList == [46, 46])) && s.data.toList.all (fun b => signB (b.toNat : Int)))) := by
    show _ = _; unfold nameB nameL; rw [len_data, Lib.toList_data]
  obtain ⟨t1, h1⟩ : ∃ t, s.toList.isEmpty = t := ⟨_, rfl⟩
  rw [h1] at HN
  cases t1
  rotate_left
  · go_enter Tryz.func29, Tryz.ntmps29
    go_wp2
    go_ret
    exact ⟨ret_bool (by rw [HN.out]; simp), rfl⟩
  by_cases hz : 12 < s.size
  · have d1 : decide (12 < (s.size : Int)) = true := by simp; omega
    go_enter Tryz.func29, Tryz.ntmps29
    go_wp2
    go_ret
    exact ⟨ret_bool (by rw [HN.out]; simp; omega), rfl⟩
  have d1 : decide (12 < (s.size : Int)) = false := by simp; omega
  have HZ : Hid (decide (s.size ≤ 12) = true) := by show _ = _; simp; omega
  rw [HZ.out] at HN
  clear HZ
  obtain ⟨t2, h2⟩ : ∃ t, (s.toList == [46]) = t := ⟨_, rfl⟩
  rw [h2] at HN
  cases t2
  rotate_left
  · go_enter Tryz.func29, Tryz.ntmps29
    go_wp2
    go_ret
    exact ⟨ret_bool (by rw [HN.out]; simp), rfl⟩
  obtain ⟨t3, h3⟩ : ∃ t, (s.toList == [46, 46]) = t := ⟨_, rfl⟩
  rw [h3] at HN
  cases t3
  rotate_left
  · go_enter Tryz.func29, Tryz.ntmps29
    go_wp2
    go_ret
    exact ⟨ret_bool (by rw [HN.out]; simp), rfl⟩
  have HN2 : Hid (nameB s = s.data.toList.all (fun b => signB (b.toNat : Int))) := by show _ = _; rw [HN.out]; simp
  clear HN
  go_enter Tryz.func29, Tryz.ntmps29
  go_wp2
  go_loop [21] (fun i => ∃ k : Nat, k ≤ s.size ∧ i = .int .i64 k ∧ Hid ((s.data.toList.take k).all (fun b => signB (b.toNat : Int)) = true)) (fun i => s.size - (intOf i).toNat)
  case atStart => exact ⟨0, Nat.zero_le _, rfl, rfl⟩
  case round =>
    obtain ⟨k, hk, rfl, HA⟩ := hrel
    by_cases hlt : k < s.size
    · have HG : Hid (s.data.toList[k]? = some s[k]) := get_data s k hlt
      obtain ⟨t, ht⟩ : ∃ t, signB (s[k].toNat : Int) = t := ⟨_, rfl⟩
      have HT : Hid (signB (s[k].toNat : Int) = t) := ht
      clear ht
      go_wp2_with fail
      refine (sign_any _ _).mono ?_
      rintro e w' ⟨rfl, rfl⟩
      rw [HT.out]
      cases t
      · go_wp2
        go_ret
        exact ⟨ret_bool (by rw [HN2.out]; exact (all_bad HG.out HT.out).symm), rfl⟩
      · go_wp2
        go_round
        case rel => exact ⟨k + 1, by omega, by go_num, all_succ HG.out HA.out HT.out⟩
        case measure => simp [intOf]; omega
    · go_wp2
      go_ret
      have := HA.out
      rw [List.take_of_length_le (by rw [len_data]; omega)] at this
      exact ⟨ret_bool (by rw [HN2.out, this]), rfl⟩
end Go.Proofs.YtlbabnffiibnpaaGreat
namespace Go.Proofs
open Go.Shelf
def Tryz.lays219_ren : Go.Shelf.Ren := ⟨fun | 219 => 96 | 217 => 98 | 225 => 99 | 224 => 100 | 267 => 101 | 266 => 102 | 314 => 103 | n => n, fun | 9 => 9 | 3 => 3 | 4 => 4 | 5 => 5 | 46 => 132 | 146 => 159 | 51 => 145 | n => n, fun | 1 => 0 | n => n⟩
theorem Tryz.lays219 : Go.Proofs.Lays.n219 Tryz.prog Tryz.lays219_ren := {
  mixed := by kernel_rfl
  f217 := Tryz.func98.trans (congrArg some (by kernel_rfl))
  f219 := Tryz.func96.trans (congrArg some (by kernel_rfl))
  f224 := Tryz.func100.trans (congrArg some (by kernel_rfl))
  f225 := Tryz.func99.trans (congrArg some (by kernel_rfl))
  f266 := Tryz.func102.trans (congrArg some (by kernel_rfl))
  f267 := Tryz.func101.trans (congrArg some (by kernel_rfl))
  f314 := Tryz.func103.trans (congrArg some (by kernel_rfl))
  t3 := Tryz.underlying3
  a3 := Tryz.isAgg3
  z3 := Tryz.sizeOf3
  v3 := Tryz.zeroValue3
  t4 := Tryz.underlying4
  a4 := Tryz.isAgg4
  z4 := Tryz.sizeOf4
  v4 := Tryz.zeroValue4
  t5 := Tryz.underlying5
  a5 := Tryz.isAgg5
  z5 := Tryz.sizeOf5
  v5 := Tryz.zeroValue5
  t9 := Tryz.underlying9
  a9 := Tryz.isAgg9
  z9 := Tryz.sizeOf9
  v9 := Tryz.zeroValue9
  t46 := Tryz.underlying132
  a46 := Tryz.isAgg132
  z46 := Tryz.sizeOf132
  v46 := Tryz.zeroValue132
  t51 := Tryz.underlying145
  a51 := Tryz.isAgg145
  z51 := Tryz.sizeOf145
  v51 := Tryz.zeroValue145
  t146 := Tryz.underlying159
  a146 := Tryz.isAgg159
  z146 := Tryz.sizeOf159
  v146 := Tryz.zeroValue159
  g1 := by kernel_rfl }
open Go.RowKit Go.Lib in
theorem Tryz.stringslite_Index_one (s : ByteArray) (c : UInt8) (w : World) :
    Calls Tryz.prog 96 #[.string s, .string ⟨#[c]⟩] w fun e w' => e = .returned (.int .i64 (Lib.indexByte s.data.toList c)) ∧ w' = w := Any.stringslite_Index_one Tryz.lays219 s c w
end Go.Proofs
namespace Go.Proofs.YtlbabnffiibnpaaGreat
open Go.RowKit
theorem wrap_small {x : Int} (h1 : -9223372036854775808 ≤ x) (h2 : x ≤ 9223372036854775807) : IntKind.i64.wrap x = x := by
  simp [IntKind.wrap, IntKind.signed, IntKind.bits]; omega
/-- What stands ahead of the first dot, and behind it. -/
def headB (s : ByteArray) : ByteArray := ⟨(Lib.cut s.data.toList [46]).1.toArray⟩
def tailB (s : ByteArray) : ByteArray := ⟨(Lib.cut s.data.toList [46]).2.1.toArray⟩
def dotB (s : ByteArray) : Bool := (Lib.cut s.data.toList [46]).2.2
set_option maxRecDepth 100000 in
set_option maxHeartbeats 1000000 in
theorem scut_any (s : ByteArray) (w : World) (hs : s.size ≤ 1000) : Calls Tryz.prog 90 #[.string s, .string ⟨#[46]⟩] w fun e w' => e = .returned (.tuple #[.string (headB s), .string (tailB s), .bool (dotB s)]) ∧ ∃ n, w' = w.drewN n := by
  have hI : Lib.indexByte s.data.toList 46 = Lib.indexB s ⟨#[46]⟩ := (Lib.index_one s.data.toList 46).symm
  have HI : Hid (Lib.indexByte s.data.toList 46 = Lib.indexB s ⟨#[46]⟩) := hI
  clear hI
  rcases Lib.indexB_cases s ⟨#[46]⟩ with hix | ⟨i, hix, hroom⟩
  · obtain ⟨e1, e2, e3⟩ := Lib.cutB_miss s ⟨#[46]⟩ hix
    have E1 : Hid (headB s = s) := e1
    have E2 : Hid (tailB s = ByteArray.empty) := e2
    have E3 : Hid (dotB s = false) := e3
    have HX : Hid (Lib.indexByte s.data.toList 46 = -1) := HI.out.trans hix
    clear e1 e2 e3 hix HI
    go_enter Tryz.func90, Tryz.ntmps90
    go_wp2_with fail
    refine (Tryz.stringslite_Index_one _ _ _).mono ?_
    rintro e w' ⟨rfl, rfl⟩
    rw [HX.out]
    go_wp2
    go_ret3
    exact ⟨by rw [E1.out, E2.out, E3.out]; rfl, 0, rfl⟩
  · obtain ⟨e1, e2, e3⟩ := Lib.cutB_hit s ⟨#[46]⟩ i hix
    have E1 : Hid (headB s = s.extract 0 i) := e1
    have E2 : Hid (tailB s = s.extract (i + 1) s.size) := e2
    have E3 : Hid (dotB s = true) := e3
    have HX : Hid (Lib.indexByte s.data.toList 46 = i) := HI.out.trans hix
    have hroom' : i + 1 ≤ s.size := hroom
    have c1 : (0 : Int) ≤ ↑i := by omega
    have c2 : (↑i : Int) ≤ ↑s.size := by omega
    have c3 : (0 : Int) ≤ ↑i + 1 := by omega
    have c4 : (↑i + 1 : Int) ≤ ↑s.size := by omega
    have c5 : IntKind.i64.wrap (↑i + 1) = ↑i + 1 := wrap_small (by omega) (by omega)
    clear e1 e2 e3 hix HI hroom
    go_enter Tryz.func90, Tryz.ntmps90
    go_wp2_with fail
    refine (Tryz.stringslite_Index_one _ _ _).mono ?_
    rintro e w' ⟨rfl, rfl⟩
    rw [HX.out]
    go_wp2
    go_quiet (fail)
    go_wp2
    go_ret3
    exact ⟨by rw [E1.out, E2.out, E3.out]; rfl, _, rfl⟩
set_option maxHeartbeats 1000000 in
theorem cut_any (s : ByteArray) (w : World) (hs : s.size ≤ 1000) : Calls Tryz.prog 77 #[.string s, .string ⟨#[46]⟩] w fun e w' => e = .returned (.tuple #[.string (headB s), .string (tailB s), .bool (dotB s)]) ∧ ∃ n, w' = w.drewN n := by
  go_enter Tryz.func77, Tryz.ntmps77
  go_wp2_with fail
  refine (scut_any s _ hs).mono ?_
  rintro e w' ⟨rfl, n, rfl⟩
  go_wp2
  go_ret3
  exact ⟨rfl, n, rfl⟩
theorem class_parts (s : ByteArray) : classB s = if nameB (tailB s) = true then (if (headB s).toList = [117] then 1 else if (headB s).toList = [116] then 2 else 0) else 0 := by
  unfold classB
  rw [class_cut]
  have e1 : (headB s).toList = (Lib.cut s.data.toList [46]).1 := by rw [Lib.toList_data]; rfl
  have e2 : (tailB s).data.toList = (Lib.cut s.data.toList [46]).2.1 := rfl
  unfold nameB
  rw [e1, e2]
theorem ret_num {a b : Int} (h : a = b) : Ending.returned (.int .i64 a) = .returned (.int .i64 b) := by rw [h]
set_option maxHeartbeats 1000000 in
theorem class_any (s : ByteArray) (w : World) (hs : s.size ≤ 1000) : Calls Tryz.prog 66 #[.string s] w fun e w' => e = .returned (.int .i64 (classB s)) ∧ ∃ n, w' = w.drewN n := by
  have HC : Hid (classB s = if nameB (tailB s) = true then (if (headB s).toList = [117] then 1 else if (headB s).toList = [116] then 2 else 0) else 0) := class_parts s
  generalize hh : headB s = h at HC
  generalize ht : tailB s = t at HC
  obtain ⟨b, hb⟩ : ∃ b, nameB t = b := ⟨_, rfl⟩
  have HB : Hid (nameB t = b) := hb
  rw [hb] at HC
  clear hb
  have HK : Hid (headB s = h) := hh
  have HT : Hid (tailB s = t) := ht
  clear hh ht
  cases b
  · have HC2 : Hid (classB s = 0) := by show _ = _; rw [HC.out]; rfl
    clear HC
    go_enter Tryz.func66, Tryz.ntmps66
    go_wp2_with fail
    refine (cut_any s _ hs).mono ?_
    rintro e w' ⟨rfl, n, rfl⟩
    rw [HK.out, HT.out]
    go_wp2_with fail
    refine (name_any t _).mono ?_
    rintro e w' ⟨rfl, rfl⟩
    rw [HB.out]
    go_wp2
    go_ret
    exact ⟨ret_num HC2.out.symm, n, rfl⟩
  · by_cases h1 : h.toList = [117]
    · have HC2 : Hid (classB s = 1) := by show _ = _; rw [HC.out, if_pos rfl, if_pos h1]
      have b1 : (h.toList == [117]) = true := by simpa using h1
      clear HC h1
      go_enter Tryz.func66, Tryz.ntmps66
      go_wp2_with fail
      refine (cut_any s _ hs).mono ?_
      rintro e w' ⟨rfl, n, rfl⟩
      rw [HK.out, HT.out]
      go_wp2_with fail
      refine (name_any t _).mono ?_
      rintro e w' ⟨rfl, rfl⟩
      rw [HB.out]
      go_wp2
      go_ret
      exact ⟨ret_num HC2.out.symm, n, rfl⟩
    · have b1 : (h.toList == [117]) = false := by simpa using h1
      by_cases h2 : h.toList = [116]
      · have HC2 : Hid (classB s = 2) := by show _ = _; rw [HC.out, if_pos rfl, if_neg h1, if_pos h2]
        have b2 : (h.toList == [116]) = true := by simpa using h2
        clear HC h1 h2
        go_enter Tryz.func66, Tryz.ntmps66
        go_wp2_with fail
        refine (cut_any s _ hs).mono ?_
        rintro e w' ⟨rfl, n, rfl⟩
        rw [HK.out, HT.out]
        go_wp2_with fail
        refine (name_any t _).mono ?_
        rintro e w' ⟨rfl, rfl⟩
        rw [HB.out]
        go_wp2
        go_ret
        exact ⟨ret_num HC2.out.symm, n, rfl⟩
      · have HC2 : Hid (classB s = 0) := by show _ = _; rw [HC.out, if_pos rfl, if_neg h1, if_neg h2]
        have b2 : (h.toList == [116]) = false := by simpa using h2
        clear HC h1 h2
        go_enter Tryz.func66, Tryz.ntmps66
        go_wp2_with fail
        refine (cut_any s _ hs).mono ?_
        rintro e w' ⟨rfl, n, rfl⟩
        rw [HK.out, HT.out]
        go_wp2_with fail
        refine (name_any t _).mono ?_
        rintro e w' ⟨rfl, rfl⟩
        rw [HB.out]
        go_wp2
        go_ret
        exact ⟨ret_num HC2.out.symm, n, rfl⟩
end Go.Proofs.YtlbabnffiibnpaaGreat
namespace Go.Proofs.YtlbabnffiibnpaaGreat
open Go.RowKit
/-- No name and no value has more than sixty bytes. -/
def Low (l : List Kv) : Prop := ∀ x ∈ l, x.n.size ≤ 255 ∧ x.v.size ≤ 255
/-- An attribute in memory. -/
def KBox (w : World) (b : Nat) (x : Kv) : Prop := w.cell? ⟨b, 0, none⟩ = some (.string x.n) ∧ w.cell? ⟨b, 1, none⟩ = some (.string x.v)
theorem KBox.new (w : World) (x : Kv) : KBox (w.alloc (.cells #[.string x.n, .string x.v] 82)) w.heap.size x :=
  ⟨World.cell?_alloc_at _ _ _ _ rfl, World.cell?_alloc_at _ _ _ _ rfl⟩
theorem KBox.drew {w : World} {b : Nat} {x : Kv} (h : KBox w b x) (n : Nat) : KBox (w.drewN n) b x := h
/-- An error, by its number. -/
def errV (n : Int) : Value := if n = 0 then .nilIface else .iface 44 (.int .i64 n)
theorem errV_of {n m : Int} (h : n = m) (hm : m ≠ 0) : errV n = .iface 44 (.int .i64 m) := by subst h; simp [errV, hm]
theorem errV_nil {n : Int} (h : n = 0) : errV n = .nilIface := by subst h; rfl
theorem ret_val {a b : Value} (h : a = b) : Ending.returned a = .returned b := by rw [h]
set_option maxRecDepth 100000 in
set_option maxHeartbeats 1000000 in
theorem check_any (a : Option Addr) (cap : Nat) (l : List Kv) (w : World) (hl : l.length ≤ 1000) (hlow : Low l) (h : Kvm w.cell? a l) :
    Calls Tryz.prog 43 #[.slice a l.length cap] w fun e w' => e = .returned (errV (chkA l)) ∧ Below w.heap.size w w' := by
  by_cases h4 : 4 < l.length
  · have d4 : decide (4 < (l.length : Int)) = true := decide_eq_true (by omega)
    have HF : Hid (chkA l = 2) := by show _ = _; unfold chkA; rw [if_pos h4]
    go_enter Tryz.func43, Tryz.ntmps43
    go_wp2
    go_ret
    exact ⟨ret_val (errV_of HF.out (by decide)).symm, Below.refl _ _⟩
  have d4 : decide (4 < (l.length : Int)) = false := decide_eq_false (by omega)
  have HF : Hid (chkA l = aF l 0 l.length) := by show _ = _; unfold chkA; rw [if_neg h4]
  go_enter Tryz.func43, Tryz.ntmps43
  go_wp2
  go_loopw [11] (fun i wr => ∃ k : Nat, k ≤ l.length ∧ i = .int .i64 k ∧ Hid (aF l 0 l.length = aF l k (l.length - k)) ∧ Below w.heap.size w wr) (fun i _ => l.length - (intOf i).toNat)
  case atStart => exact ⟨0, Nat.zero_le _, rfl, rfl, Below.refl _ _⟩
  case round =>
    obtain ⟨k, hk, rfl, HR, hB⟩ := hrel
    by_cases hlt : k < l.length
    · rcases h with rfl | ⟨b, off, rfl, hc⟩
      · simp at hlt
      · obtain ⟨x, hx⟩ : ∃ x, l[k]? = some x := ⟨l[k], by simp [hlt]⟩
        obtain ⟨hc0, hc1⟩ := hc k x hx
        obtain ⟨z1, z2⟩ := hlow x (List.mem_of_getElem? hx)
        have hbl : b < w.heap.size := World.block_lt_of_cell? _ _ hc0
        have hblr : b < wr.heap.size := Nat.lt_of_lt_of_le hbl hB.size
        have hki : (k : Int) < (l.length : Int) := by omega
        have HS : Hid (aF l k (l.length - k) = aF l k ((l.length - (k + 1)) + 1)) := by show _ = _; congr 1; omega
        have HX : Hid (l[k]? = some x) := hx
        have HC : Hid (∀ k x, l[k]? = some x → w.cell? ⟨b, off + k * 2, none⟩ = some (.string x.n) ∧ w.cell? ⟨b, off + k * 2 + 1, none⟩ = some (.string x.v)) := hc
        have q0 : wr.cell? ⟨b, off + k * 2, none⟩ = some (.string x.n) := (hB.cell (p := ⟨b, off + k * 2, none⟩) hbl).trans hc0
        have q1 : wr.cell? ⟨b, off + k * 2 + 1, none⟩ = some (.string x.v) := (hB.cell (p := ⟨b, off + k * 2 + 1, none⟩) hbl).trans hc1
        obtain ⟨c, hcl⟩ : ∃ c, classB x.n = c := ⟨_, rfl⟩
        have HCL : Hid (classB x.n = c) := hcl
        clear hc0 hc1 hx hc hcl
        go_wp2_with fail
        refine (class_any x.n _ (by omega)).mono ?_
        rintro e w' ⟨rfl, n, rfl⟩
        rw [HCL.out]
        have KB := (KBox.new wr x).drew n
        have hB1 := below_drewN (hB.alloc hB.size (.cells #[.string x.n, .string x.v] 82)) n
        generalize (wr.alloc (.cells #[.string x.n, .string x.v] 82)).drewN n = w1 at KB hB1 ⊢
        generalize wr.heap.size = rb at KB ⊢
        obtain ⟨k0, k1⟩ := KB
        clear q0 q1 hB hblr
        by_cases hc0 : c = 0
        · subst hc0
          have HN : Hid (aF l k (l.length - k) = 4) := HS.out.trans ((aF_bad (by rw [stepA_class HX.out HCL.out]; decide)).trans (stepA_class HX.out HCL.out))
          go_wp2
          go_ret
          exact ⟨ret_val (errV_of (by rw [HF.out, HR.out, HN.out]) (by decide)).symm, hB1⟩
        have HCN : Hid (classB x.n ≠ 0) := by show _ ≠ _; rw [HCL.out]; exact hc0
        have bc : (c == 0) = false := by simpa using hc0
        clear hc0
        by_cases h20 : 20 < x.v.size
        · have d20 : decide (20 < (x.v.size : Int)) = true := decide_eq_true (by omega)
          have HN : Hid (aF l k (l.length - k) = 1) := HS.out.trans ((aF_bad (by rw [stepA_long HX.out HCN.out h20]; decide)).trans (stepA_long HX.out HCN.out h20))
          go_wp2
          go_ret
          exact ⟨ret_val (errV_of (by rw [HF.out, HR.out, HN.out]) (by decide)).symm, hB1⟩
        have d20 : decide (20 < (x.v.size : Int)) = false := decide_eq_false (by omega)
        have HV : Hid (¬ 20 < x.v.size) := h20
        clear h20
        by_cases hk0 : k = 0
        · subst hk0
          have HN : Hid (aF l 0 (l.length - 0) = aF l (0 + 1) (l.length - (0 + 1))) := HS.out.trans (aF_ok (stepA_first HX.out HCN.out HV.out))
          go_wp2
          go_quiet (fail)
          go_wp2
          go_roundw
          case rel => exact ⟨0 + 1, by omega, by go_num, HR.out.trans HN.out, below_drewN hB1 _⟩
          case measure => simp [intOf]; omega
        · obtain ⟨j, hj⟩ : ∃ j, k = j + 1 := ⟨k - 1, by omega⟩
          obtain ⟨p, hp⟩ : ∃ p, l[j]? = some p := ⟨l[j]'(by omega), List.getElem?_eq_getElem _⟩
          obtain ⟨p0, _⟩ := HC.out j p hp
          have p1 : w1.cell? ⟨b, off + j * 2, none⟩ = some (.string p.n) := (hB1.cell (p := ⟨b, off + j * 2, none⟩) hbl).trans p0
          have HJ : Hid (k = j + 1) := hj
          have HST : Hid (stepA l k = if ltB p.n x.n = true then 0 else 3) := by show _ = _; rw [HJ.out]; exact stepA_next (by rw [← HJ.out]; exact HX.out) hp HCN.out HV.out
          have d0 : decide (0 < k) = true := decide_eq_true (by omega)
          have dw : IntKind.i64.wrap ((k : Int) - 1) = (j : Int) := (wrap_small (by omega) (by omega)).trans (by omega)
          have dj : (k : Int) - 1 = (j : Int) := by omega
          have dl : (j : Int) < (l.length : Int) := by omega
          obtain ⟨t, ht⟩ : ∃ t, ltB p.n x.n = t := ⟨_, rfl⟩
          have hle : (Op.bytesLess x.n.toList p.n.toList || x.n.toList == p.n.toList) = !t := by rw [leq_eq, ht]
          rw [ht] at HST
          clear hj ht HC hp p0
          cases t
          · have HN : Hid (aF l k (l.length - k) = 3) := HS.out.trans ((aF_bad (by rw [HST.out]; decide)).trans (by rw [HST.out]; rfl))
            go_wp2
            go_quiet (fail)
            go_wp2
            go_ret
            exact ⟨ret_val (errV_of (by rw [HF.out, HR.out, HN.out]) (by decide)).symm, below_drewN hB1 _⟩
          · have HN : Hid (aF l k (l.length - k) = aF l (k + 1) (l.length - (k + 1))) := HS.out.trans (aF_ok (by rw [HST.out]; rfl))
            go_wp2
            go_quiet (fail)
            go_wp2
            go_roundw
            case rel => exact ⟨k + 1, by omega, by go_num, HR.out.trans HN.out, below_drewN hB1 _⟩
            case measure => simp [intOf]; omega
    · have e0 : l.length - k = 0 := by omega
      go_wp2
      go_ret
      exact ⟨ret_val (errV_nil (by rw [HF.out, HR.out, e0]; rfl)).symm, hB⟩
end Go.Proofs.YtlbabnffiibnpaaGreat
namespace Go.Proofs.YtlbabnffiibnpaaGreat
open Go.RowKit
theorem allK_succ {f : Kv → Bool} {l : List Kv} {k : Nat} {b : Kv} (hb : l[k]? = some b) (h : (l.take k).all f = true) (hf : f b = true) : (l.take (k + 1)).all f = true := by
  rw [List.take_add_one, hb]; simp at h ⊢; exact ⟨h, hf⟩
theorem allK_bad {f : Kv → Bool} {l : List Kv} {k : Nat} {b : Kv} (hb : l[k]? = some b) (hf : f b = false) : l.all f = false := by
  have hm : b ∈ l := List.mem_of_getElem? hb
  cases h : l.all f with
  | false => rfl
  | true => rw [List.all_eq_true] at h; rw [h b hm] at hf; cases hf
set_option maxRecDepth 100000 in
set_option maxHeartbeats 1000000 in
theorem lightAttrs_any (a : Option Addr) (cap : Nat) (l : List Kv) (w : World) (h : Kvm w.cell? a l) :
    Calls Tryz.prog 41 #[.slice a l.length cap] w fun e w' => e = .returned (.bool (lightB l)) ∧ w = w' := by
  by_cases h8 : 8 < l.length
  · have d8 : decide (8 < (l.length : Int)) = true := decide_eq_true (by omega)
    have HF : Hid (lightB l = false) := by show _ = _; unfold lightB; rw [decide_eq_false (by omega : ¬ l.length ≤ 8)]; rfl
    go_enter Tryz.func41, Tryz.ntmps41
    go_wp2
    go_ret
    exact ⟨ret_bool HF.out.symm, rfl⟩
  have d8 : decide (8 < (l.length : Int)) = false := decide_eq_false (by omega)
  have HF : Hid (lightB l = l.all lowB) := by show _ = _; unfold lightB; rw [decide_eq_true (by omega : l.length ≤ 8)]; rfl
  go_enter Tryz.func41, Tryz.ntmps41
  go_wp2
  go_loop [3] (fun i => ∃ k : Nat, k ≤ l.length ∧ i = .int .i64 k ∧ Hid ((l.take k).all lowB = true)) (fun i => l.length - (intOf i).toNat)
  case atStart => exact ⟨0, Nat.zero_le _, rfl, rfl⟩
  case round =>
    obtain ⟨k, hk, rfl, HA⟩ := hrel
    by_cases hlt : k < l.length
    · rcases h with rfl | ⟨b, off, rfl, hc⟩
      · simp at hlt
      · obtain ⟨x, hx⟩ : ∃ x, l[k]? = some x := ⟨l[k], by simp [hlt]⟩
        obtain ⟨q0, q1⟩ := hc k x hx
        have hbl : b < w.heap.size := World.block_lt_of_cell? _ _ q0
        have hki : (k : Int) < (l.length : Int) := by omega
        have HX : Hid (l[k]? = some x) := hx
        clear hx hc
        by_cases h1 : 60 < x.n.size
        · have d1 : decide (60 < (x.n.size : Int)) = true := decide_eq_true (by omega)
          have HB : Hid (l.all lowB = false) := allK_bad HX.out (by unfold lowB; rw [decide_eq_false (by omega : ¬ x.n.size ≤ 60)]; rfl)
          go_wp2
          go_ret
          exact ⟨ret_bool (by rw [HF.out, HB.out]), rfl⟩
        have d1 : decide (60 < (x.n.size : Int)) = false := decide_eq_false (by omega)
        by_cases h2 : 60 < x.v.size
        · have d2 : decide (60 < (x.v.size : Int)) = true := decide_eq_true (by omega)
          have HB : Hid (l.all lowB = false) := allK_bad HX.out (by unfold lowB; rw [decide_eq_false (by omega : ¬ x.v.size ≤ 60)]; simp)
          go_wp2
          go_ret
          exact ⟨ret_bool (by rw [HF.out, HB.out]), rfl⟩
        have d2 : decide (60 < (x.v.size : Int)) = false := decide_eq_false (by omega)
        have HB : Hid (lowB x = true) := by show _ = _; unfold lowB; simp; omega
        go_wp2
        go_round
        case rel => exact ⟨k + 1, by omega, by go_num, allK_succ HX.out HA.out HB.out⟩
        case measure => simp [intOf]; omega
    · go_wp2
      go_ret
      have := HA.out
      rw [List.take_of_length_le (by omega)] at this
      exact ⟨ret_bool (by rw [HF.out, this]), rfl⟩
set_option maxRecDepth 100000 in
set_option maxHeartbeats 1000000 in
theorem sameAttrs_yes (a b : Option Addr) (c1 c2 n : Nat) (l : List Kv) (w : World) (hn : l.length = n) (hl : n ≤ 1000) (h : Kvm w.cell? a l) (h' : Kvm w.cell? b l) :
    Calls Tryz.prog 18 #[.slice a n c1, .slice b n c2] w fun e w' => e = .returned (.bool true) ∧ Below w.heap.size w w' := by
  have hne : ((n : Int) != (n : Int)) = false := by simp
  go_enter Tryz.func18, Tryz.ntmps18
  go_wp2
  go_loopw [5] (fun i wr => ∃ k : Nat, k ≤ n ∧ i = .int .i64 k ∧ Below w.heap.size w wr) (fun i _ => n - (intOf i).toNat)
  case atStart => exact ⟨0, Nat.zero_le _, rfl, Below.refl _ _⟩
  case round =>
    obtain ⟨k, hk, rfl, hb⟩ := hrel
    by_cases hlt : k < n
    · obtain ⟨r, hr⟩ : ∃ r, l[k]? = some r := ⟨l[k]'(by omega), List.getElem?_eq_getElem _⟩
      rcases h.below (Below.refl _ _) with hnil | ⟨ba, oa, rfl, hc⟩
      · rw [hnil] at hn; simp at hn; omega
      rcases h' with hnil | ⟨bb, ob, rfl, hc'⟩
      · rw [hnil] at hn; simp at hn; omega
      obtain ⟨y0, y1⟩ := hc k r hr
      obtain ⟨z0, z1⟩ := hc' k r hr
      obtain ⟨ri, ro⟩ := r
      dsimp only at y0 y1 z0 z1
      have hba : ba < w.heap.size := World.block_lt_of_cell? _ _ y0
      have hbb : bb < w.heap.size := World.block_lt_of_cell? _ _ z0
      have q0 : wr.cell? ⟨ba, oa + k * 2, none⟩ = some (.string ri) := (hb.cell (p := ⟨ba, oa + k * 2, none⟩) hba).trans y0
      have q1 : wr.cell? ⟨ba, oa + k * 2 + 1, none⟩ = some (.string ro) := (hb.cell (p := ⟨ba, oa + k * 2 + 1, none⟩) hba).trans y1
      have p0 : wr.cell? ⟨bb, ob + k * 2, none⟩ = some (.string ri) := (hb.cell (p := ⟨bb, ob + k * 2, none⟩) hbb).trans z0
      have p1 : wr.cell? ⟨bb, ob + k * 2 + 1, none⟩ = some (.string ro) := (hb.cell (p := ⟨bb, ob + k * 2 + 1, none⟩) hbb).trans z1
      have hki : (k : Int) < (n : Int) := by omega
      clear y0 y1 z0 z1 hc hc' h hr
      go_wp2
      go_quiet (fail)
      go_wp2
      go_roundw
      case rel => exact ⟨k + 1, by omega, by go_num, below_drewN hb _⟩
      case measure => simp [intOf]; omega
    · go_wp2
      go_ret
      exact ⟨rfl, hb⟩
end Go.Proofs.YtlbabnffiibnpaaGreat
