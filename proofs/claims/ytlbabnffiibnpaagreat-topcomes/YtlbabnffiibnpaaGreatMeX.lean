/-
  WHAT IS SHOWN OF SPOTS: no walk.
  WHAT IS SHOWN OF SPOTS: the walk.
  ONE STEP ALONG NAMES: what is shown of the layers; of the kids of a name: the walks.
  WHAT slices.Grow AND slices.Concat OF KIDS DO: the walks.
-/
import Derived.Test.YtlbabnffiibnpaaGreatMdY
import Derived.RangeFuncBox
import Derived.Test.YtlbabnffiibnpaaGreatNnX
import Derived.Lib.AppendZeros
namespace Go.Proofs.YtlbabnffiibnpaaGreat
open Go.RowKit Go.Shelf
def Nd.opq : Nd → Bool
  | .mk _ _ _ _ o _ _ _ => o
def dirP : List (Nd × Nat) → List (Nd × Nat)
  | [] => []
  | s :: r => if s.1.kind ≠ 2 then [] else if s.1.opq = true then [s] else s :: dirP r
def shP : List (Nd × Nat) → List (Nd × Nat)
  | [] => []
  | s :: r => if s.1.kind = 1 then [s] else dirP (s :: r)
def dirS : List Sp → List Sp
  | [] => []
  | s :: r => if s.x.kind ≠ 2 then [] else if s.x.opq = true then [s] else s :: dirS r
def shS : List Sp → List Sp
  | [] => []
  | s :: r => if s.x.kind = 1 then [s] else dirS (s :: r)
theorem dirS_pr : ∀ T : List Sp, (dirS T).map Sp.pr = dirP (T.map Sp.pr)
  | [] => rfl
  | s :: r => by
    rw [dirS, List.map_cons, dirP]
    by_cases h1 : s.x.kind ≠ 2
    · rw [if_pos h1, if_pos (show s.pr.1.kind ≠ 2 from h1)]; rfl
    · rw [if_neg h1, if_neg (show ¬ s.pr.1.kind ≠ 2 from h1)]
      by_cases h2 : s.x.opq = true
      · rw [if_pos h2, if_pos (show s.pr.1.opq = true from h2)]; rfl
      · rw [if_neg h2, if_neg (show ¬ s.pr.1.opq = true from h2), List.map_cons, dirS_pr r]
theorem shS_pr (T : List Sp) : (shS T).map Sp.pr = shP (T.map Sp.pr) := by
  cases T with
  | nil => rfl
  | cons s r =>
    rw [shS, List.map_cons, shP]
    by_cases h1 : s.x.kind = 1
    · rw [if_pos h1, if_pos (show s.pr.1.kind = 1 from h1)]; rfl
    · rw [if_neg h1, if_neg (show ¬ s.pr.1.kind = 1 from h1), dirS_pr]; rfl
theorem dirS_sub : ∀ (T : List Sp) s, s ∈ dirS T → s ∈ T
  | [], s, h => by cases h
  | t :: r, s, h => by
    rw [dirS] at h
    split at h
    · cases h
    split at h
    · rw [List.mem_singleton] at h; rw [h]; exact List.mem_cons_self ..
    · rcases List.mem_cons.1 h with e | e
      · rw [e]; exact List.mem_cons_self ..
      · exact List.mem_cons_of_mem _ (dirS_sub r s e)
theorem shS_sub (T : List Sp) (s : Sp) (h : s ∈ shS T) : s ∈ T := by
  cases T with
  | nil => cases h
  | cons t r =>
    rw [shS] at h
    split at h
    · rw [List.mem_singleton] at h; rw [h]; exact List.mem_cons_self ..
    · exact dirS_sub _ _ h
theorem dirS_len : ∀ T : List Sp, (dirS T).length ≤ T.length
  | [] => Nat.le_refl _
  | t :: r => by
    rw [dirS]
    split
    · exact Nat.zero_le _
    split
    · simp
    · simp; exact dirS_len r
theorem shS_len (T : List Sp) : (shS T).length ≤ T.length := by
  cases T with
  | nil => exact Nat.le_refl _
  | cons t r =>
    rw [shS]
    split
    · simp
    · exact dirS_len _
/-- All the spots so far are plain directories. -/
def Plain (L : List Sp) : Prop := ∀ s ∈ L, s.x.kind = 2 ∧ s.x.opq = false
theorem dirS_app {L : List Sp} (h : Plain L) (r : List Sp) : dirS (L ++ r) = L ++ dirS r := by
  induction L with
  | nil => rfl
  | cons s L ih =>
    have h1 := h s (List.mem_cons_self ..)
    rw [List.cons_append, dirS, if_neg (by rw [h1.1]; simp), if_neg (by rw [h1.2]; simp), ih fun t ht => h t (List.mem_cons_of_mem _ ht)]
    rfl
theorem shS_app {L : List Sp} (h : Plain L) (hne : L ≠ []) (r : List Sp) : shS (L ++ r) = L ++ dirS r := by
  cases L with
  | nil => exact absurd rfl hne
  | cons s L =>
    have h1 := h s (List.mem_cons_self ..)
    rw [← dirS_app h r, List.cons_append, shS, if_neg (by rw [h1.1]; decide)]
theorem shS_dir {s : Sp} (hs : s.x.kind ≠ 1) (L r : List Sp) (hL : Plain L) : shS (L ++ s :: r) = L ++ dirS (s :: r) := by
  cases L with
  | nil => rw [List.nil_append, shS, if_neg hs]; rfl
  | cons t L => exact shS_app hL (by simp) _
def flatS : List Sp → List Value
  | [] => []
  | s :: r => .pointer (some ⟨s.b, s.p, none⟩) :: .int .i64 s.ly :: flatS r
theorem flatS_app : ∀ a b : List Sp, flatS (a ++ b) = flatS a ++ flatS b
  | [], b => rfl
  | s :: a, b => by simp [flatS, flatS_app a b]
theorem flatS_at : ∀ (L : List Sp) (i : Nat) (s : Sp), L[i]? = some s → (flatS L)[i * 2]? = some (.pointer (some ⟨s.b, s.p, none⟩)) ∧ (flatS L)[i * 2 + 1]? = some (.int .i64 s.ly)
  | [], i, s, h => by simp at h
  | t :: L, 0, s, h => by simp at h; subst h; exact ⟨rfl, rfl⟩
  | t :: L, i + 1, s, h => by
    have := flatS_at L i s (by simpa using h)
    rw [show (i + 1) * 2 = i * 2 + 2 by omega]
    simpa [flatS] using this
/-- A row that lies beyond. -/
def FreshA (base : Nat) (a : Option Addr) (L : List Sp) : Prop := L = [] ∨ ∃ g off, a = some ⟨g, off, none⟩ ∧ base ≤ g
theorem row_spots {w : World} {base : Nat} {t : TypeId} {v : Value} {L : List Sp} (h : w.ownsRow base t 2 v L.length (flatS L)) : ∃ a cap, v = .slice a L.length cap ∧ L.length ≤ cap ∧ cap ≤ 9223372036854775807 ∧ SpRow w.cell? a L ∧ FreshA base a L := by
  rcases h.2 with ⟨rfl, h0⟩ | ⟨g, cap, cur, rfl, hb, hg, h1, h2, h3, h4⟩
  · rw [h0]
    exact ⟨none, 0, rfl, Nat.le_refl _, by omega, .inl (List.length_eq_zero_iff.1 h0), .inl (List.length_eq_zero_iff.1 h0)⟩
  · refine ⟨some ⟨g, 0, none⟩, cap, rfl, h1, by simpa [maxLen] using h2, .inr ⟨g, 0, rfl, fun i d hi => ?_⟩, .inr ⟨g, 0, rfl, hb⟩⟩
    obtain ⟨f1, f2⟩ := flatS_at L i d hi
    have e1 := ownsRow_cell hg h4 f1
    have e2 := ownsRow_cell hg h4 f2
    rw [Nat.zero_add]
    exact ⟨e1, e2⟩
theorem grown_below {A B : World} (h : Below A.heap.size A B) : A.grownBy B none := ⟨h.os, h.tape, h.output, h.size, fun k hk _ => h.block k hk⟩
theorem boxed_bel {A B : World} {b : Nat} {t : TypeId} {v : Value} (h : Boxed A b t v) (hb : Below A.heap.size A B) : Boxed B b t v := h.kept (grown_below hb) (by simp)
theorem ownsRow_bel {A B : World} {base : Nat} {t : TypeId} {n k : Nat} {v : Value} {xs : List Value} (h : A.ownsRow base t n v k xs) (hb : Below A.heap.size A B) : B.ownsRow base t n v k xs := by
  refine h.kept (grown_below hb) ?_
  cases hv : v.ownBlock with
  | none => exact .inl rfl
  | some b => exact .inr (by simp)
theorem boxed_putL {A : World} {b l : Nat} {t : TypeId} {v : Value} (h : Boxed A b t v) {r : Loop} (hl : A.heap[l]? = some (.loop r)) (o : Obj) : Boxed (A.putObj l o) b t v := h.kept (grownBy_putObj' A l o) (fun e => by
  cases e
  rw [show A.heap[b]? = _ from h] at hl
  cases hl)
theorem below_put {A : World} {n₀ l : Nat} (hn : n₀ ≤ A.heap.size) (hl : n₀ ≤ l) (o : Obj) : Below n₀ A (A.putObj l o) := (Below.refl n₀ A).grown (grownBy_putObj' A l o) hn (fun k e => by cases e; exact hl)
/-- What stands while spots come in. -/
structure ShJ (w W : World) (L : List Sp) (st : Loop) : Prop where
  low : Below w.heap.size w W
  rb : Boxed W w.heap.size 55 (.slice none 0 0)
  sb : ∃ v, Boxed W (w.heap.size + 1) 55 v ∧ W.ownsRow w.heap.size 59 2 v L.length (flatS L)
  dk : W.heap[w.heap.size + 1 + 1]? = some (.deferred (some []))
  lk : W.heap[w.heap.size + 1 + 1 + 1]? = some (.loop st)
theorem ShJ.keep {w A B : World} {L : List Sp} {st : Loop} (h : ShJ w A L st) (hb : Below A.heap.size A B) : ShJ w B L st := by
  obtain ⟨v, h1, h2⟩ := h.sb
  refine ⟨h.low.trans (hb.mono h.low.size), boxed_bel h.rb hb, ⟨v, boxed_bel h1 hb, ownsRow_bel h2 hb⟩, ?_, ?_⟩
  · exact (hb.block _ (Array.getElem?_eq_some_iff.1 h.dk).1).trans h.dk
  · exact (hb.block _ (Array.getElem?_eq_some_iff.1 h.lk).1).trans h.lk
theorem ShJ.put {w A : World} {L : List Sp} {st : Loop} (h : ShJ w A L st) (st' : Loop) : ShJ w (A.putObj (w.heap.size + 1 + 1 + 1) (.loop st')) L st' := by
  obtain ⟨v, h1, h2⟩ := h.sb
  refine ⟨h.low.trans (below_put h.low.size (by omega) _), boxed_putL h.rb h.lk _, ⟨v, boxed_putL h1 h.lk _, ownsRow_putObj h2 _ h.lk rfl⟩, ?_, ?_⟩
  · exact (World.putObj_heap_other (by omega)).trans h.dk
  · exact World.putObj_heap_same (Array.getElem?_eq_some_iff.1 h.lk).1
theorem own_lt {w : World} {base : Nat} {t : TypeId} {n k : Nat} {v : Value} {xs : List Value} (h : w.ownsRow base t n v k xs) {g : Nat} (hg : v.ownBlock = some g) : g < w.heap.size := by
  rcases h.2 with ⟨rfl, _⟩ | ⟨g', cap, cur, rfl, _, hgb, _⟩
  · cases hg
  · cases hg
    exact (Array.getElem?_eq_some_iff.1 hgb).1
theorem ShJ.appended {w A w1 : World} {L : List Sp} {st : Loop} (h : ShJ w A L st) {v v' : Value} {tmp : Obj} {s : Sp} (hv : Boxed A (w.heap.size + 1) 55 v) (hrow : A.ownsRow w.heap.size 59 2 v L.length (flatS L))
    (hown : w1.ownsRow w.heap.size 59 2 v' (L.length + 1) (flatS L ++ [.pointer (some ⟨s.b, s.p, none⟩), .int .i64 s.ly])) (hgrow : (A.alloc tmp).grownBy w1 v.ownBlock) :
    Boxed w1 (w.heap.size + 1) 55 v ∧ ShJ w (w1.setCell ⟨w.heap.size + 1, 0, none⟩ v') (L ++ [s]) st ∧ Below w.heap.size A (w1.setCell ⟨w.heap.size + 1, 0, none⟩ v') ∧ ∀ k, k < A.heap.size → k ≠ w.heap.size + 1 → v.ownBlock ≠ some k → (w1.setCell ⟨w.heap.size + 1, 0, none⟩ v').heap[k]? = A.heap[k]? := by
  obtain ⟨a1, a2, a3, a4, a5⟩ := hv.appended (by decide) hrow h.low.size (by omega) hown hgrow
  have hk : ∀ k, k < A.heap.size → k ≠ w.heap.size + 1 → v.ownBlock ≠ some k → (w1.setCell ⟨w.heap.size + 1, 0, none⟩ v').heap[k]? = A.heap[k]? := fun k hk hk2 hk3 => by
    rw [Below.heap_setCell _ _ _ k hk2, hgrow.block k (by rw [World.size_alloc]; omega) (fun e => hk3 e.symm), Below.heap_alloc _ _ _ hk]
  refine ⟨a1, ⟨h.low.trans a5, ?_, ⟨v', a2, ?_⟩, a4.same _ _ h.dk rfl, a4.same _ _ h.lk rfl⟩, a5, hk⟩
  · exact (hk _ h.rb.lt (by omega) (h.rb.not_row (by decide) hrow).symm).trans h.rb
  · rw [flatS_app, List.length_append]
    exact a3
theorem Tryz.infoSp : (Tryz.prog.info? 59).map (fun i => (i.zero, i.size, i.bytes)) = some (some (.agg #[.pointer none, .int .i64 0]), 2, 16) := by kernel_rfl
theorem cell_two_new (w : World) (x y : Value) (t : TypeId) : ∀ j u, [x, y][j]? = some u → (w.alloc (.cells #[x, y] t)).cell? ((⟨w.heap.size, 0, none⟩ : Addr).add j) = some u := by
  intro j u hj
  match j, hj with
  | 0, hj => simp at hj; subst hj; exact World.cell?_alloc_at _ _ _ _ rfl
  | 1, hj => simp at hj; subst hj; exact World.cell?_alloc_at _ _ _ _ rfl
end Go.Proofs.YtlbabnffiibnpaaGreat
namespace Go.Proofs.YtlbabnffiibnpaaGreat
open Go.RowKit Go.Shelf
attribute [local go_sem] Oper.semAt_some
/-- What stands where a spot alone is the answer. -/
structure ShR (w W : World) (L : List Sp) (st : Loop) : Prop where
  low : Below w.heap.size w W
  rb : ∃ a cap, Boxed W w.heap.size 55 (.slice a L.length cap) ∧ L.length ≤ cap ∧ cap ≤ 9223372036854775807 ∧ SpRow W.cell? a L ∧ FreshA w.heap.size a L
  dk : W.heap[w.heap.size + 1 + 1]? = some (.deferred (some []))
  lk : W.heap[w.heap.size + 1 + 1 + 1]? = some (.loop st)
theorem ShR.make {w A : World} {L : List Sp} {st : Loop} (h : ShJ w A L st) (s : Sp) (st' : Loop) :
    ((A.alloc (.cells #[.pointer (some ⟨s.b, s.p, none⟩), .int .i64 s.ly] 59)).setCell ⟨w.heap.size, 0, none⟩ (.slice (some ⟨A.heap.size, 0, none⟩) 1 1)).heap[w.heap.size + 1 + 1 + 1]? = some (.loop st) ∧
    ShR w (((A.alloc (.cells #[.pointer (some ⟨s.b, s.p, none⟩), .int .i64 s.ly] 59)).setCell ⟨w.heap.size, 0, none⟩ (.slice (some ⟨A.heap.size, 0, none⟩) 1 1)).putObj (w.heap.size + 1 + 1 + 1) (.loop st')) [s] st' := by
  have hal : Below A.heap.size A (A.alloc (.cells #[.pointer (some ⟨s.b, s.p, none⟩), .int .i64 s.ly] 59)) := (Below.refl _ _).alloc (Nat.le_refl _) _
  have h1 := h.keep hal
  have hl : w.heap.size + 1 + 1 + 1 < A.heap.size := (Array.getElem?_eq_some_iff.1 h.lk).1
  have lk : ((A.alloc (.cells #[.pointer (some ⟨s.b, s.p, none⟩), .int .i64 s.ly] 59)).setCell ⟨w.heap.size, 0, none⟩ (.slice (some ⟨A.heap.size, 0, none⟩) 1 1)).heap[w.heap.size + 1 + 1 + 1]? = some (.loop st) := by
    rw [Below.heap_setCell _ _ _ _ (by show w.heap.size + 1 + 1 + 1 ≠ w.heap.size; omega)]; exact h1.lk
  have dk : ((A.alloc (.cells #[.pointer (some ⟨s.b, s.p, none⟩), .int .i64 s.ly] 59)).setCell ⟨w.heap.size, 0, none⟩ (.slice (some ⟨A.heap.size, 0, none⟩) 1 1)).heap[w.heap.size + 1 + 1]? = some (.deferred (some [])) := by
    rw [Below.heap_setCell _ _ _ _ (by show w.heap.size + 1 + 1 ≠ w.heap.size; omega)]; exact h1.dk
  have hc : ∀ j, (((A.alloc (.cells #[.pointer (some ⟨s.b, s.p, none⟩), .int .i64 s.ly] 59)).setCell ⟨w.heap.size, 0, none⟩ (.slice (some ⟨A.heap.size, 0, none⟩) 1 1)).putObj (w.heap.size + 1 + 1 + 1) (.loop st')).cell? ⟨A.heap.size, j, none⟩ = (A.alloc (.cells #[.pointer (some ⟨s.b, s.p, none⟩), .int .i64 s.ly] 59)).cell? ⟨A.heap.size, j, none⟩ := fun j => World.cell?_of_block (by
    rw [World.putObj_heap_other (by show A.heap.size ≠ _; omega), Below.heap_setCell _ _ _ _ (by show A.heap.size ≠ w.heap.size; omega)])
  obtain ⟨c0, c1⟩ := two_new A (.pointer (some ⟨s.b, s.p, none⟩)) (.int .i64 s.ly) 59
  refine ⟨lk, ⟨?_, ⟨some ⟨A.heap.size, 0, none⟩, 1, boxed_putL (h1.rb.set _) lk _, Nat.le_refl _, by omega, .inr ⟨A.heap.size, 0, rfl, fun i d hi => ?_⟩, .inr ⟨A.heap.size, 0, rfl, h.low.size⟩⟩, (World.putObj_heap_other (by omega)).trans dk, World.putObj_heap_same (Array.getElem?_eq_some_iff.1 lk).1⟩⟩
  · have hB : Below w.heap.size w ((A.alloc (.cells #[.pointer (some ⟨s.b, s.p, none⟩), .int .i64 s.ly] 59)).setCell ⟨w.heap.size, 0, none⟩ (.slice (some ⟨A.heap.size, 0, none⟩) 1 1)) := h1.low.setCell (p := ⟨w.heap.size, 0, none⟩) (Nat.le_refl _) _
    exact hB.trans (below_put hB.size (by omega) _)
  · match i, hi with
    | 0, hi => simp at hi; subst hi; exact ⟨(hc 0).trans c0, (hc 1).trans c1⟩
theorem mle_put {A : World} {l : Nat} {o : Obj} (hl : A.heap[l]? = some o) (ho : o.isCells = false) (o' : Obj) : MLe A.cell? (A.putObj l o').cell? := fun _ _ h => cell_kept h (grownBy_putObj' _ _ _) (fun r e => by cases e; exact ⟨_, hl, ho⟩)
theorem SpRow.on {c c' : Mem} {a : Option Addr} {D : List Sp} (h : SpRow c a D) (hb : MLe c c') : SpRow c' a D := by
  rcases h with e | ⟨b, off, e, h⟩
  · exact .inl e
  · exact .inr ⟨b, off, e, fun i d hi => ⟨hb _ _ (h i d hi).1, hb _ _ (h i d hi).2⟩⟩
/-- The end: the row in the result's box. -/
theorem shown_end {w V : World} {L : List Sp} {act : Act} (ht : act.tmps[2]? = some (.pointer (some ⟨w.heap.size, 0, none⟩))) (hd : act.defers = [{ target := .collected (w.heap.size + 1 + 1), args := #[] }]) (hK : V.heap[w.heap.size + 1 + 1]? = some (.deferred (some []))) {a : Option Addr} {cap : Nat} (hb : V.cell? ⟨w.heap.size, 0, none⟩ = some (.slice a L.length cap)) (h1 : L.length ≤ cap) (h2 : cap ≤ 9223372036854775807) (hr : SpRow V.cell? a L) (hfr : FreshA w.heap.size a L) (hB : Below w.heap.size w V) :
    bodyPostM Fence.wide 1 Tryz.prog Tryz.f45 (fun e w' => ∃ a cap, e = .returned (.slice a L.length cap) ∧ L.length ≤ cap ∧ cap ≤ 9223372036854775807 ∧ SpRow w'.cell? a L ∧ FreshA w.heap.size a L ∧ Below w.heap.size w w') .ret act V := by
  show LeavesInM Fence.wide 1 Tryz.prog Tryz.f45 act.tmps _ act.defers .returning V
  rw [hd]
  refine ⟨by simp, .inl ⟨_, _, rfl, run_takeDeferred hK, ?_⟩⟩
  have hm := mle_put hK rfl (.deferred none)
  have hb2 := hm _ _ hb
  have hr2 := hr.on hm
  have hB2 := hB.trans (below_put hB.size (by omega) (.deferred none) (l := w.heap.size + 1 + 1))
  generalize V.putObj (w.heap.size + 1 + 1) (.deferred none) = V2 at hb2 hr2 hB2 ⊢
  exact ⟨.slice a L.length cap, by simp [results, Tryz.results45, go_sem, ht, hb2], a, cap, rfl, h1, h2, hr2, hfr, hB2⟩
set_option maxRecDepth 100000 in
set_option maxHeartbeats 4000000 in
theorem shown_any {w : World} {gf : Nat} {lb : Array Value} {T : List Sp} (hT : Its gf lb w.heap.size w T) (eg : ∀ args w, (callFunc gf args).run Tryz.prog w = .ok (.enter gf args) w) (hS : ∀ s ∈ T, SpAt w.cell? s) (hlen : T.length ≤ 1000) :
    Calls Tryz.prog 45 #[.func (.func gf) #[] lb] w fun e w' => ∃ a cap, e = .returned (.slice a (shS T).length cap) ∧ (shS T).length ≤ cap ∧ cap ≤ 9223372036854775807 ∧ SpRow w'.cell? a (shS T) ∧ FreshA w.heap.size a (shS T) ∧ Below w.heap.size w w' := by
  obtain ⟨i0, hti, hz0, hz1, hz2⟩ := info_parts Tryz.infoSp
  refine (callsIn_wide (n := 1)).1 ?_
  refine callsIn_of_wp_marks Tryz.func45 rfl trivial ?_ rfl
  simp only [Tryz.ntmps45, List.size_toArray, List.length_cons, List.length_nil, Nat.reduceAdd, Nat.reduceSub, Array.replicate_succ, Array.replicate_zero, List.push_toArray, List.append_toArray, List.nil_append, List.cons_append]
  gi_wp2_with fail
  have hB0 : Below w.heap.size w ((w.alloc (.cells #[.slice none 0 0] 55)).alloc (.cells #[.slice none 0 0] 55)) := ((Below.refl _ w).alloc (Nat.le_refl _) _).alloc (by rw [World.size_alloc]; omega) _
  have hz : ((w.alloc (.cells #[.slice none 0 0] 55)).alloc (.cells #[.slice none 0 0] 55)).heap.size = w.heap.size + 1 + 1 := by rw [World.size_alloc, World.size_alloc]
  have bx1 : Boxed ((w.alloc (.cells #[.slice none 0 0] 55)).alloc (.cells #[.slice none 0 0] 55)) w.heap.size 55 (.slice none 0 0) := (Boxed.new w _ _).alloc _
  have bx2 : Boxed ((w.alloc (.cells #[.slice none 0 0] 55)).alloc (.cells #[.slice none 0 0] 55)) (w.heap.size + 1) 55 (.slice none 0 0) := by
    have := Boxed.new (w.alloc (.cells #[.slice none 0 0] 55)) 55 (.slice none 0 0)
    rwa [World.size_alloc] at this
  generalize (w.alloc (.cells #[.slice none 0 0] 55)).alloc (.cells #[.slice none 0 0] 55) = Wl at hB0 hz bx1 bx2 ⊢
  refine range_at (gf := gf) (lb := lb) rfl eg ?_
  intro fn rec hrec W1 hB1 hs1 hl1 hd1
  rw [hz] at hB1 hs1 hl1 hd1 ⊢
  have h0 : ShJ w W1 [] (rec .ready none) := ⟨hB0.trans (hB1.mono (by omega)), boxed_bel bx1 (by rw [hz]; exact hB1), ⟨_, boxed_bel bx2 (by rw [hz]; exact hB1), World.ownsRow_nil _ _ _ _⟩, hd1, hl1⟩
  clear hB0 hB1 hs1 hl1 hd1 bx1 bx2 hz
  refine (hT (w.heap.size + 1 + 1 + 1) (fun i W => i ≤ T.length ∧ Plain (T.take i) ∧ ShJ w W (T.take i) (rec .ready none)) (fun W => ShJ w W (shS T) (rec .done (some (.exit 0))) ∨ ShR w W (shS T) (rec .done (some .ret))) W1 h0.low (fun i A B h hb => ⟨h.1, h.2.1, h.2.2.keep hb⟩) ?rounds ⟨Nat.zero_le _, fun s hs => (by cases hs), h0⟩).mono ?after
  case rounds =>
    rintro i s A hi ⟨hiT, hpl, hA⟩
    have hmem := List.mem_of_getElem? hi
    have hlt := (List.getElem?_eq_some_iff.1 hi).1
    have hdrop : Hid (T = T.take i ++ s :: T.drop (i + 1)) := by
      show T = _
      have e := List.drop_eq_getElem_cons hlt
      rw [(List.getElem?_eq_some_iff.1 hi).2] at e
      rw [← e, List.take_append_drop]
    have htk : Hid (T.take (i + 1) = T.take i ++ [s]) := by show _ = _; rw [List.take_add_one, hi]; rfl
    have hLl : (T.take i).length = i := by rw [List.length_take]; omega
    have hsp := hS s hmem
    obtain ⟨v, hv, hrow⟩ := hA.sb
    have hvl : ∀ g, v.ownBlock = some g → g < A.heap.size := fun g hg => own_lt hrow hg
    obtain ⟨va, vc, rfl, _⟩ := row_spots hrow
    rw [hLl] at hvl hv hrow
    have HLL : Hid _ := hLl
    clear hLl
    rw [show s.v = .agg #[.pointer (some ⟨s.b, s.p, none⟩), .int .i64 s.ly] from rfl]
    refine round_at hrec hA.lk rfl ?_
    gi_wp2
    refine ⟨(hA.keep ((Below.refl _ _).alloc (Nat.le_refl _) _)).lk, ?_⟩
    have hal : Below A.heap.size A (A.alloc (.cells #[.pointer (some ⟨s.b, s.p, none⟩), .int .i64 s.ly] 59)) := (Below.refl _ _).alloc (Nat.le_refl _) _
    have hJ := (hA.keep hal).put (rec .busy none)
    have hll : w.heap.size + 1 + 1 + 1 < A.heap.size := (Array.getElem?_eq_some_iff.1 hA.lk).1
    have hAB : Below w.heap.size A ((A.alloc (.cells #[.pointer (some ⟨s.b, s.p, none⟩), .int .i64 s.ly] 59)).putObj (w.heap.size + 1 + 1 + 1) (.loop (rec .busy none))) := (hal.mono (by omega)).trans (below_put (by rw [World.size_alloc]; omega) (by omega) _)
    have hvb := boxed_putL (boxed_bel hv hal) (hA.keep hal).lk (.loop (rec .busy none))
    have hrb := ownsRow_putObj (ownsRow_bel hrow hal) (.loop (rec .busy none)) (hA.keep hal).lk rfl
    obtain ⟨c0, c1⟩ := two_new A (.pointer (some ⟨s.b, s.p, none⟩)) (.int .i64 s.ly) 59
    have hcc : ∀ j, ((A.alloc (.cells #[.pointer (some ⟨s.b, s.p, none⟩), .int .i64 s.ly] 59)).putObj (w.heap.size + 1 + 1 + 1) (.loop (rec .busy none))).cell? ⟨A.heap.size, j, none⟩ = (A.alloc (.cells #[.pointer (some ⟨s.b, s.p, none⟩), .int .i64 s.ly] 59)).cell? ⟨A.heap.size, j, none⟩ := fun j => World.cell?_of_block (World.putObj_heap_other (by show A.heap.size ≠ _; omega))
    rw [← hcc] at c0 c1
    have hsz : A.heap.size < ((A.alloc (.cells #[.pointer (some ⟨s.b, s.p, none⟩), .int .i64 s.ly] 59)).putObj (w.heap.size + 1 + 1 + 1) (.loop (rec .busy none))).heap.size := by rw [World.putObj_size, World.size_alloc]; omega
    generalize (A.alloc (.cells #[.pointer (some ⟨s.b, s.p, none⟩), .int .i64 s.ly] 59)).putObj (w.heap.size + 1 + 1 + 1) (.loop (rec .busy none)) = Wb at hJ hAB c0 c1 hvb hrb hsz ⊢
    clear hcc hal hv hrow
    obtain ⟨n0, n4, _⟩ : Wb.cell? ⟨s.b, s.p, none⟩ = some (.int .i64 s.x.kind) ∧ Wb.cell? ⟨s.b, s.p + 4, none⟩ = some (.bool s.x.opq) ∧ True := by
      have h1 := hsp.1.below hJ.low
      obtain ⟨b, p, ly, ⟨k, m, u, g, o, at_, d, ks⟩, h⟩ := s
      exact ⟨h1.split.1, h1.split.2.1, trivial⟩
    have hsb : s.b < w.heap.size := by
      have h1 := hsp.1
      obtain ⟨b, p, ly, ⟨k, m, u, g, o, at_, d, ks⟩, h⟩ := s
      exact World.block_lt_of_cell? _ _ h1.split.1
    have hvc := hvb.cell
    have hrc := hJ.rb.cell
    have hrf := hJ.rb.frozen
    generalize hk : s.x.kind = k at *
    generalize ho : s.x.opq = o at *
    by_cases h1 : k = 1
    · subst h1
      by_cases h0 : i = 0
      · subst h0
        have hrc2 := (hJ.rb.alloc (.cells #[.pointer (some ⟨s.b, s.p, none⟩), .int .i64 s.ly] 59)).cell
        have hrf2 := (hJ.rb.alloc (.cells #[.pointer (some ⟨s.b, s.p, none⟩), .int .i64 s.ly] 59)).frozen
        have hsh : Hid (shS T = [s]) := by
          show shS T = [s]
          rw [hdrop.out, List.take_zero, List.nil_append, shS, if_pos hk]
        obtain ⟨m1, m2⟩ := ShR.make hJ s (rec .done (some .ret))
        clear hrc hrf
        gi_wp2_with fail
        exact ⟨m1, .inr ⟨rfl, .inr (by rw [hsh.out]; exact m2)⟩⟩
      · have hsh : Hid (shS T = T.take i) := by
          show shS T = _
          conv => lhs; rw [hdrop.out]
          rw [shS_app hpl (fun e => h0 (by have := HLL.out; rw [e] at this; exact this.symm)), dirS, if_pos (by rw [hk]; decide), List.append_nil]
        gi_wp2_with fail
        exact ⟨hJ.lk, .inr ⟨rfl, .inl (by rw [hsh.out]; exact hJ.put _)⟩⟩
    by_cases h2 : k = 2
    rotate_left
    · have hsh : Hid (shS T = T.take i) := by
        show shS T = _
        conv => lhs; rw [hdrop.out]
        rw [shS_dir (by rw [hk]; exact h1) _ _ hpl, dirS, if_pos (by rw [hk]; exact h2), List.append_nil]
      gi_wp2_with fail
      exact ⟨hJ.lk, .inr ⟨rfl, .inl (by rw [hsh.out]; exact hJ.put _)⟩⟩
    subst h2
    have HSH : Hid (o = true → shS T = T.take (i + 1)) := fun e => by
      rw [htk.out]
      conv => lhs; rw [hdrop.out]
      rw [shS_dir (by rw [hk]; decide) _ _ hpl, dirS, if_neg (by rw [hk]; simp), if_pos (by rw [ho]; exact e)]
    have HPL : Hid (o = false → Plain (T.take (i + 1))) := fun e t ht => by
      rw [htk.out] at ht
      rcases List.mem_append.1 ht with e1 | e1
      · exact hpl t e1
      · rw [List.mem_singleton] at e1; rw [e1]; exact ⟨hk, by rw [ho]; exact e⟩
    have HAP : Hid (∀ v' w1, w1.ownsRow w.heap.size 59 2 v' (i + 1) (flatS (T.take i) ++ [.pointer (some ⟨s.b, s.p, none⟩), .int .i64 s.ly]) → (Wb.alloc (.cells #[.pointer (some ⟨s.b, s.p, none⟩), .int .i64 s.ly] 59)).grownBy w1 (Value.slice va i vc).ownBlock →
        ∃ g cap, v' = .slice (some ⟨g, 0, none⟩) (i + 1) cap ∧ Boxed w1 (w.heap.size + 1) 55 (.slice va i vc) ∧ ShJ w (w1.setCell ⟨w.heap.size + 1, 0, none⟩ v') (T.take (i + 1)) (rec .busy none) ∧ Below w.heap.size A (w1.setCell ⟨w.heap.size + 1, 0, none⟩ v') ∧ (w1.setCell ⟨w.heap.size + 1, 0, none⟩ v').cell? ⟨A.heap.size, 0, none⟩ = some (.pointer (some ⟨s.b, s.p, none⟩)) ∧ (w1.setCell ⟨w.heap.size + 1, 0, none⟩ v').cell? ⟨s.b, s.p + 4, none⟩ = some (.bool o)) := fun v' w1 q1 q2 => by
      obtain ⟨g, cap, e⟩ := ownsRow_succ q1
      have hl2 := HLL.out
      obtain ⟨a1, a2, a3, a4⟩ := hJ.appended (s := s) hvb (by rw [hl2]; exact hrb) (by rw [hl2]; exact q1) q2
      rw [← htk.out] at a2
      refine ⟨g, cap, e, a1, a2, hAB.trans a3, ?_, ?_⟩
      · exact (World.cell?_of_block (a := ⟨A.heap.size, 0, none⟩) (a4 A.heap.size hsz (by omega) (fun e => by have := hvl A.heap.size e; omega))).trans c0
      · exact (a3.cell (p := ⟨s.b, s.p + 4, none⟩) hsb).trans n4
    have hrb2 := hrb
    clear hdrop htk hrb hvb hvl HLL hA hS hT hsp hmem hi
    gi_wp2_with (gi_at_builtin; refine wpListIn_append_own _ rfl _ _ 55 rfl w.heap.size 59 i0 (.agg #[.pointer none, .int .i64 0]) 2 16 Tryz.underlying55 hti hz0 hz1 hz2 rfl (by decide) _ _ _ rfl (hrb2.alloc _) ⟨Wb.heap.size, 0, none⟩ 1 1 [.pointer (some ⟨s.b, s.p, none⟩), .int .i64 s.ly] rfl rfl (cell_two_new _ _ _ _) (by simp [Value.oneCell']) (by simp [maxLen]; omega) (by omega) (by have := hJ.low.size; simp; omega) ?_; intro v' w1 hown' hgrow _; obtain ⟨g', cap', rfl, hb1, hJ1, hB1, d0, d4⟩ := HAP.out v' w1 hown' hgrow; have hc1 := hb1.cell; have hf1 := hb1.frozen)
    · have hot : o = true := by assumption
      exact ⟨hJ1.lk, .inr ⟨rfl, .inl (by rw [HSH.out hot]; exact hJ1.put _)⟩⟩
    · have hof : o = false := by first | assumption | (simpa using ‹¬ o = true›)
      exact ⟨hJ1.lk, .inl ⟨rfl, ⟨by omega, HPL.out hof, hJ1.put _⟩, hB1.trans (below_put (Nat.le_trans hJ1.low.size (Nat.le_refl _)) (by omega) _)⟩⟩
  case after =>
    rintro e W2 ⟨⟨v, rfl⟩, h⟩
    refine ⟨⟨_, rfl⟩, ?_⟩
    rcases h with ⟨_, hpl, hJ⟩ | hJ | hJ
    · rw [List.take_length] at hpl hJ
      have hsh : Hid (shS T = T) := by
        show shS T = T
        cases T with
        | nil => rfl
        | cons s r => have := shS_app hpl (by simp) []; rwa [List.append_nil, dirS, List.append_nil] at this
      left
      have hJ' : ShJ w W2 (shS T) (rec .ready none) := by rw [hsh.out]; exact hJ
      refine ⟨hJ.lk, ?_⟩
      have hJ2 := hJ'.put (rec .exhausted none)
      generalize W2.putObj (w.heap.size + 1 + 1 + 1) (.loop (rec .exhausted none)) = W3 at hJ2 ⊢
      obtain ⟨v, hv, hrow⟩ := hJ2.sb
      obtain ⟨va, vc, rfl, r1, r2, r3, r5⟩ := row_spots hrow
      have hvc := hv.cell
      have hrc := hJ2.rb.cell
      have hrf := hJ2.rb.frozen
      gi_wp2
      have hrow2 := hrow.kept (grownBy_setCell' W3 w.heap.size (.slice va (shS T).length vc)) (.inr (hJ2.rb.not_row (by decide) hrow).symm)
      obtain ⟨va2, vc2, e2, _, _, r4, _⟩ := row_spots hrow2
      simp only [Value.slice.injEq, true_and] at e2
      obtain ⟨rfl, rfl⟩ := e2
      exact shown_end rfl rfl ((Below.heap_setCell _ _ _ _ (by show w.heap.size + 1 + 1 ≠ w.heap.size; omega)).trans hJ2.dk) (hJ2.rb.set _).cell r1 r2 r4 r5 (hJ2.low.setCell (p := ⟨w.heap.size, 0, none⟩) (Nat.le_refl _) _)
    · right
      refine ⟨.exit 0, hJ.lk, ?_⟩
      have hJ' := hJ
      have hJ2 := hJ'.put (rec .exhausted (some (.exit 0)))
      generalize W2.putObj (w.heap.size + 1 + 1 + 1) (.loop (rec .exhausted (some (.exit 0)))) = W3 at hJ2 ⊢
      obtain ⟨v, hv, hrow⟩ := hJ2.sb
      obtain ⟨va, vc, rfl, r1, r2, r3, r5⟩ := row_spots hrow
      have hvc := hv.cell
      have hrc := hJ2.rb.cell
      have hrf := hJ2.rb.frozen
      gi_wp2
      have hrow2 := hrow.kept (grownBy_setCell' W3 w.heap.size (.slice va (shS T).length vc)) (.inr (hJ2.rb.not_row (by decide) hrow).symm)
      obtain ⟨va2, vc2, e2, _, _, r4, _⟩ := row_spots hrow2
      simp only [Value.slice.injEq, true_and] at e2
      obtain ⟨rfl, rfl⟩ := e2
      exact shown_end rfl rfl ((Below.heap_setCell _ _ _ _ (by show w.heap.size + 1 + 1 ≠ w.heap.size; omega)).trans hJ2.dk) (hJ2.rb.set _).cell r1 r2 r4 r5 (hJ2.low.setCell (p := ⟨w.heap.size, 0, none⟩) (Nat.le_refl _) _)
    · right
      refine ⟨.ret, hJ.lk, ?_⟩
      obtain ⟨ra, rc, q1, q2, q3, q4, q5⟩ := hJ.rb
      have hm := mle_put hJ.lk rfl (.loop (rec .exhausted (some .ret)))
      have hB2 := hJ.low.trans (below_put hJ.low.size (by omega) (.loop (rec .exhausted (some .ret))) (l := w.heap.size + 1 + 1 + 1))
      have hk2 : (W2.putObj (w.heap.size + 1 + 1 + 1) (.loop (rec .exhausted (some .ret)))).heap[w.heap.size + 1 + 1]? = some (.deferred (some [])) := (World.putObj_heap_other (by omega)).trans hJ.dk
      gi_wp2
      exact shown_end rfl rfl hk2 (hm _ _ q1.cell) q2 q3 (q4.on hm) q5 hB2
end Go.Proofs.YtlbabnffiibnpaaGreat
namespace Go.Proofs.YtlbabnffiibnpaaGreat
open Go.RowKit Go.Shelf
theorem SpAt.on {c c' : Mem} {s : Sp} (h : SpAt c s) (hb : MLe c c') : SpAt c' s := ⟨h.1.on hb, h.2.on hb⟩
theorem KO.on {c c' : Mem} {nm : ByteArray} {d : Sp} {o : Option Sp} (h : KO c nm d o) (hb : MLe c c') : KO c' nm d o := by
  rcases h with h | ⟨b, off, j, y, hy, h1, h2, h3, h4, h5, h6, h7, h8⟩
  · exact .inl h
  · exact .inr ⟨b, off, j, y, hy, h1, h2, h3, h4, h5, h6, h7, h8.on hb⟩
/-- A slice of spots, which show these nodes of these layers. -/
def SpL (c : Mem) (v : Value) (l : List (Nd × Nat)) : Prop := ∃ (a : Option Addr) (cap : Nat) (D : List Sp), v = .slice a D.length cap ∧ D.length ≤ cap ∧ cap ≤ 9223372036854775807 ∧ SpRow c a D ∧ (∀ s ∈ D, SpAt c s) ∧ D.map Sp.pr = l
theorem SpL.on {c c' : Mem} {v : Value} {l : List (Nd × Nat)} (h : SpL c v l) (hb : MLe c c') : SpL c' v l := by
  obtain ⟨a, cap, D, h1, h2, h3, h4, h5, h6⟩ := h
  exact ⟨a, cap, D, h1, h2, h3, h4.on hb, fun s hs => (h5 s hs).on hb, h6⟩
/-- Nodes in a row. -/
def NsV (c : Mem) (a : Option Addr) (xs : List Nd) : Prop := xs = [] ∨ ∃ b off, a = some ⟨b, off, none⟩ ∧ ∃ f : Nat → Hd, ∀ i x, xs[i]? = some x → NAt c b (off + i * 8) x (f i) ∧ NdV c x (f i)
theorem NsV.on {c c' : Mem} {a : Option Addr} {xs : List Nd} (h : NsV c a xs) (hb : MLe c c') : NsV c' a xs := by
  rcases h with h | ⟨b, off, h1, f, h2⟩
  · exact .inl h
  · exact .inr ⟨b, off, h1, f, fun i x hi => ⟨(h2 i x hi).1.on hb, (h2 i x hi).2.on hb⟩⟩
/-- The layers, the top one first. -/
def layP (xs : List Nd) : List (Nd × Nat) := xs.zipIdx
def SmallP (l : List (Nd × Nat)) : Prop := l.length ≤ 1000 ∧ ∀ q ∈ l, cnt q.1 ≤ 1000
theorem kids_cnt (x : Nd) : x.kids.length < cnt x := by
  obtain ⟨k, m, u, g, o, at_, d, ks⟩ := x
  have := cntL_len ks
  rw [cnt]
  show ks.length < _
  omega
theorem SmallP.kid {l : List (Nd × Nat)} (h : SmallP l) (nm : ByteArray) : SmallP (kidsP nm l) := by
  refine ⟨Nat.le_trans (List.length_filterMap_le _ _) h.1, fun q hq => ?_⟩
  obtain ⟨p, hp, e⟩ := List.mem_filterMap.1 hq
  obtain ⟨y, hy, rfl⟩ := Option.map_eq_some_iff.1 e
  have h1 := h.2 p hp
  unfold kidO at hy
  split at hy
  · cases hy
  · obtain ⟨e2, h3, rfl⟩ := Option.map_eq_some_iff.1 hy
    have h4 : cnt e2.2 ≤ cntL p.1.kids := by
      obtain ⟨n, z⟩ := e2
      exact cntL_get h3
    have h5 : cntL p.1.kids < cnt p.1 := by
      obtain ⟨⟨k, m, u, g, o, at_, d, ks⟩, ly⟩ := p
      show cntL ks < cnt (.mk k m u g o at_ d ks)
      rw [cnt]; omega
    show cnt e2.2 ≤ 1000
    omega
theorem dirP_sub : ∀ (l : List (Nd × Nat)) q, q ∈ dirP l → q ∈ l
  | [], q, h => by cases h
  | t :: r, q, h => by
    rw [dirP] at h
    split at h
    · cases h
    split at h
    · rw [List.mem_singleton] at h; rw [h]; exact List.mem_cons_self ..
    · rcases List.mem_cons.1 h with e | e
      · rw [e]; exact List.mem_cons_self ..
      · exact List.mem_cons_of_mem _ (dirP_sub r q e)
theorem shP_sub (l : List (Nd × Nat)) (q : Nd × Nat) (h : q ∈ shP l) : q ∈ l := by
  cases l with
  | nil => cases h
  | cons t r =>
    rw [shP] at h
    split at h
    · rw [List.mem_singleton] at h; rw [h]; exact List.mem_cons_self ..
    · exact dirP_sub _ _ h
theorem dirP_len : ∀ l : List (Nd × Nat), (dirP l).length ≤ l.length
  | [] => Nat.le_refl _
  | t :: r => by
    rw [dirP]
    split
    · exact Nat.zero_le _
    split
    · simp
    · simp; exact dirP_len r
theorem shP_len (l : List (Nd × Nat)) : (shP l).length ≤ l.length := by
  cases l with
  | nil => exact Nat.le_refl _
  | cons t r =>
    rw [shP]
    split
    · simp
    · exact dirP_len _
theorem SmallP.sh {l : List (Nd × Nat)} (h : SmallP l) : SmallP (shP l) := ⟨Nat.le_trans (shP_len l) h.1, fun q hq => h.2 q (shP_sub l q hq)⟩
/-- What is shown lies in what was there, but for its row, which is new. -/
theorem spL_of {A B : World} {S : Nat → Bool} {n₀ : Nat} {a : Option Addr} {cap : Nat} {T : List Sp} (hS : ∀ k, S k = true → k < n₀) (h1 : (shS T).length ≤ cap) (h2 : cap ≤ 9223372036854775807) (hr : SpRow B.cell? a (shS T)) (hf : FreshA n₀ a (shS T)) (hT : ∀ s ∈ T, SpAt (offS A.cell? S) s) (hm : MLe (offS A.cell? S) (offS B.cell? S)) : SpL (offS B.cell? S) (.slice a (shS T).length cap) (shP (T.map Sp.pr)) := by
  refine ⟨a, cap, shS T, rfl, h1, h2, ?_, fun s hs => (hT s (shS_sub T s hs)).on hm, shS_pr T⟩
  rcases hr with e | ⟨b, off, e, hr⟩
  · exact .inl e
  · rcases hf with e2 | ⟨g, o2, e2, hg⟩
    · exact .inl e2
    · rw [e] at e2
      simp only [Option.some.injEq, Addr.mk.injEq] at e2
      refine .inr ⟨b, off, e, fun i d hi => ?_⟩
      have hb : S b = false := by
        cases hh : S b with
        | false => rfl
        | true => have := hS b hh; omega
      rw [offS_ne (show S (⟨b, off + i * 2, none⟩ : Addr).block = false from hb), offS_ne (show S (⟨b, off + i * 2 + 1, none⟩ : Addr).block = false from hb)]
      exact hr i d hi
theorem kidsOf_any (w : World) (a : Option Addr) (n cap : Nat) (nm : ByteArray) :
    Calls Tryz.prog 47 #[.slice a n cap, .string nm] w fun e w' => e = .returned (.func (.func 68) #[] #[.pointer (some ⟨w.heap.size, 0, none⟩), .pointer (some ⟨w.heap.size + 1, 0, none⟩)]) ∧ w' = (w.alloc (.cells #[.slice a n cap] 55)).alloc (.cells #[.string nm] 9) := by
  go_enter Tryz.func47, Tryz.ntmps47
  go_wp2
  go_ret
  exact ⟨rfl, rfl⟩
theorem layers_any (w : World) (a : Option Addr) (n cap : Nat) :
    Calls Tryz.prog 46 #[.slice a n cap] w fun e w' => e = .returned (.func (.func 67) #[] #[.pointer (some ⟨w.heap.size, 0, none⟩)]) ∧ w' = w.alloc (.cells #[.slice a n cap] 22) := by
  go_enter Tryz.func46, Tryz.ntmps46
  go_wp2
  go_ret
  exact ⟨rfl, rfl⟩
/-- shown(kidsOf(seen, name)), the second call. -/
theorem stepB_any {A w : World} {S : Nat → Bool} (hS : ∀ k, S k = true → k < A.heap.size) {a : Option Addr} {cap : Nat} {D : List Sp} (nm : ByteArray) (hr : SpRow (offS A.cell? S) a D) (hD : ∀ s ∈ D, SpAt (offS A.cell? S) s) (hsm : SmallP (D.map Sp.pr)) (hw : w = (A.alloc (.cells #[.slice a D.length cap] 55)).alloc (.cells #[.string nm] 9)) :
    Calls Tryz.prog 45 #[.func (.func 68) #[] #[.pointer (some ⟨A.heap.size, 0, none⟩), .pointer (some ⟨A.heap.size + 1, 0, none⟩)]] w fun e B => ∃ v, e = .returned v ∧ SpL (offS B.cell? S) v (shP (kidsP nm (D.map Sp.pr))) ∧ Below A.heap.size A B := by
  have hB1 : Below A.heap.size A w := by rw [hw]; exact ((Below.refl _ A).alloc (Nat.le_refl _) _).alloc (by rw [World.size_alloc]; omega) _
  have hm1 := mle_below hB1
  have hle := offS_le A.cell? S
  have hD2 : ∀ (i : Nat) d, D[i]? = some d → SpAt (offS A.cell? S) d := fun i d hi => hD d (List.mem_of_getElem? hi)
  obtain ⟨O, hO⟩ := ko_all hD2 nm
  have hlen : D.length ≤ 1000 := by have := hsm.1; rwa [List.length_map] at this
  have c0 : w.cell? ⟨A.heap.size, 0, none⟩ = some (.slice a D.length cap) := by
    rw [hw]
    exact mle_below ((Below.refl _ _).alloc (Nat.le_refl _) _) _ _ (World.cell?_alloc_at _ _ _ _ rfl)
  have c1 : w.cell? ⟨A.heap.size + 1, 0, none⟩ = some (.string nm) := by
    rw [hw]
    have h : ((A.alloc (.cells #[.slice a D.length cap] 55)).alloc (.cells #[.string nm] 9)).cell? ⟨(A.alloc (.cells #[.slice a D.length cap] 55)).heap.size, 0, none⟩ = some (.string nm) := World.cell?_alloc_at _ _ _ _ rfl
    rwa [World.size_alloc] at h
  have hits := kidsOf1_any A.heap.size (A.heap.size + 1) w.heap.size a cap D nm O w rfl c0 c1 hlen (fun d hd => by
      have h1 := hsm.2 d.pr (List.mem_map_of_mem hd)
      have h2 := kids_cnt d.x
      have h3 : cnt d.pr.1 = cnt d.x := rfl
      omega) ((hr.on hle).on hm1) (fun i d hi => ((hD2 i d hi).on hle).on hm1) (fun i d hi => ((hO i d hi).on hle).on hm1)
  have hT : ∀ s ∈ (List.range D.length).filterMap O, SpAt (offS A.cell? S) s := fun s hs => by
    obtain ⟨i, hi, e⟩ := List.mem_filterMap.1 hs
    have hi2 := List.mem_range.1 hi
    exact (hO i _ (List.getElem?_eq_getElem hi2)).at s e
  have hpr : ((List.range D.length).filterMap O).map Sp.pr = kidsP nm (D.map Sp.pr) := range_filt D O _ fun i d hi => (hO i d hi).pr
  refine (shown_any hits (enters_of Tryz.func68 (by kernel_rfl) rfl) (fun s hs => ((hT s hs).on hle).on hm1) (Nat.le_trans (List.length_filterMap_le _ _) (by rw [List.length_range]; exact hlen))).mono ?_
  rintro e B ⟨a', cap', rfl, h1, h2, h3, h4, hB⟩
  have hB2 := hB1.trans (hB.mono hB1.size)
  refine ⟨_, rfl, ?_, hB2⟩
  rw [← hpr]
  exact spL_of (n₀ := w.heap.size) (fun k hk => Nat.lt_of_lt_of_le (hS k hk) hB1.size) h1 h2 h3 h4 hT (mle_S hB2)
/-- shown(layers(l)), the second call. -/
theorem firstB_any {A w : World} {S : Nat → Bool} (hS : ∀ k, S k = true → k < A.heap.size) {a : Option Addr} {cap : Nat} {xs : List Nd} (hx : NsV (offS A.cell? S) a xs) (hlen : xs.length ≤ 1000) (hw : w = A.alloc (.cells #[.slice a xs.length cap] 22)) :
    Calls Tryz.prog 45 #[.func (.func 67) #[] #[.pointer (some ⟨A.heap.size, 0, none⟩)]] w fun e B => ∃ v, e = .returned v ∧ SpL (offS B.cell? S) v (shP (layP xs)) ∧ Below A.heap.size A B := by
  have hB1 : Below A.heap.size A w := by rw [hw]; exact (Below.refl _ A).alloc (Nat.le_refl _) _
  have hm1 := mle_below hB1
  have hle := offS_le A.cell? S
  have c0 : w.cell? ⟨A.heap.size, 0, none⟩ = some (.slice a xs.length cap) := by rw [hw]; exact World.cell?_alloc_at _ _ _ _ rfl
  obtain ⟨T, t1, t2, t3, t4⟩ : ∃ T : List Sp, T.length = xs.length ∧ T.map Sp.pr = layP xs ∧ (∀ s ∈ T, SpAt (offS A.cell? S) s) ∧ ∀ i s, T[i]? = some s → ∃ b off, a = some ⟨b, off, none⟩ ∧ s.b = b ∧ s.p = off + i * 8 ∧ s.ly = i := by
    rcases hx with rfl | ⟨b, off, e, f, hf⟩
    · exact ⟨[], rfl, rfl, fun s hs => (by cases hs), fun i s hi => by simp at hi⟩
    · refine ⟨xs.zipIdx.map fun q => ⟨b, off + q.2 * 8, q.2, q.1, f q.2⟩, by simp, ?_, fun s hs => ?_, fun i s hi => ?_⟩
      · rw [List.map_map]; exact List.map_id' _
      · obtain ⟨q, hq, rfl⟩ := List.mem_map.1 hs
        have h1 := List.mem_zipIdx_iff_getElem?.1 hq
        exact hf q.2 q.1 h1
      · rw [List.getElem?_map, List.getElem?_zipIdx] at hi
        cases hx : xs[i]? with
        | none => rw [hx] at hi; cases hi
        | some x =>
          rw [hx] at hi
          simp only [Option.map_some, Option.some.injEq] at hi
          subst hi
          exact ⟨b, off, e, rfl, by simp, by simp⟩
  have hits := layers1_any A.heap.size w.heap.size a cap T w (by rw [hw, World.size_alloc]; omega) (Nat.le_refl _) (by rw [t1]; exact c0) (by omega) t4
  refine (shown_any hits (enters_of Tryz.func67 (by kernel_rfl) rfl) (fun s hs => ((t3 s hs).on hle).on hm1) (by omega)).mono ?_
  rintro e B ⟨a', cap', rfl, h1, h2, h3, h4, hB⟩
  have hB2 := hB1.trans (hB.mono hB1.size)
  refine ⟨_, rfl, ?_, hB2⟩
  rw [← t2]
  exact spL_of (n₀ := w.heap.size) (fun k hk => Nat.lt_of_lt_of_le (hS k hk) hB1.size) h1 h2 h3 h4 t3 (mle_S hB2)
end Go.Proofs.YtlbabnffiibnpaaGreat
namespace Go.Proofs.YtlbabnffiibnpaaGreat
open Go.RowKit
theorem zeroK_size (n : Nat) : (Builtin.zeroCells zK.cells n).size = n * 9 := by rw [size_zeroCells]; rfl
set_option maxRecDepth 100000 in
set_option maxHeartbeats 1000000 in
theorem growK_any (n : Nat) (w : World) (hn : n ≤ 1000) : Calls Tryz.prog 37 #[.slice none 0 0, .int .i64 n] w fun e w' => (∃ v, e = .returned v ∧ w'.ownsRow w.heap.size 61 9 v 0 (kfl [])) ∧ Below w.heap.size w w' := by
  by_cases h0 : n = 0
  · subst h0
    go_enter Tryz.func37, Tryz.ntmps37
    go_wp2
    go_ret
    exact ⟨⟨_, rfl, World.ownsRow_nil _ _ _ _⟩, Below.refl _ _⟩
  obtain ⟨i0, hi0, hz0, hz1, hz2⟩ := info_three Tryz.infoK
  have hr : ∀ ty, (Builtin.append_ #[32, 3] ty #[.slice none 0 0, .int .i64 n]).run Tryz.prog w = .ok (.slice (some ⟨w.heap.size, 0, none⟩) n (grownCap w n 0 61)) (w.drew.alloc (.cells (Builtin.zeroCells zK.cells n ++ Builtin.zeroCells zK.cells (grownCap w n 0 61 - n)) 61)) := fun ty => Lib.run_append_nil_zeros w 32 3 ty 61 i0 _ .i64 .i64 Tryz.underlying32 Tryz.underlying3 hi0 hz0 n (by omega) (by rw [hz1]; decide) (by omega) (by rw [hz2]; omega)
  have hge : n ≤ grownCap w n 0 61 := grownCap_ge w n 0 61
  have hle : grownCap w n 0 61 ≤ maxLen := grownCap_le_maxLen w n 0 61 (by unfold maxLen; omega)
  have hrow : (w.drew.alloc (.cells (Builtin.zeroCells zK.cells n ++ Builtin.zeroCells zK.cells (grownCap w n 0 61 - n)) 61)).ownsRow w.heap.size 61 9 (.slice (some ⟨w.heap.size, 0, none⟩) 0 (grownCap w n 0 61)) 0 [] :=
    World.ownsRow_made w.drew _ _ (Nat.le_refl _) hle (by rw [Array.size_append, zeroK_size, zeroK_size]; omega)
  have hB : Below w.heap.size w (w.drew.alloc (.cells (Builtin.zeroCells zK.cells n ++ Builtin.zeroCells zK.cells (grownCap w n 0 61 - n)) 61)) := (below_drewN (Below.refl _ w) 1).alloc (Nat.le_refl _) _
  generalize w.drew.alloc (.cells (Builtin.zeroCells zK.cells n ++ Builtin.zeroCells zK.cells (grownCap w n 0 61 - n)) 61) = w1 at hr hrow hB
  generalize grownCap w n 0 61 = c at hr hge hle hrow
  have hn0 : decide (0 < n) = true := decide_eq_true (by omega)
  have hn1 : decide (0 < (n : Int)) = true := decide_eq_true (by omega)
  unfold maxLen at hle
  clear hi0 hz0 hz1 hz2
  go_enter Tryz.func37, Tryz.ntmps37
  go_wp2_with (at_builtin; refine Lib.wpList_append_run _ rfl _ _ _ _ rfl _ _ rfl rfl _ _ (hr _) ?_)
  go_wp2
  go_ret
  exact ⟨⟨_, rfl, hrow⟩, hB⟩
/-- A part: where it lies, its room, what it has. -/
structure Pt where
  a : Option Addr
  c : Nat
  l : Khs
/-- All that the parts have. -/
def parts : List Pt → Khs
  | [] => []
  | p :: ps => p.l ++ parts ps
theorem parts_append : ∀ A B : List Pt, parts (A ++ B) = parts A ++ parts B
  | [], _ => rfl
  | p :: A, B => by simp [parts, parts_append A B]
theorem parts_succ {ps : List Pt} {k : Nat} {p : Pt} (h : ps[k]? = some p) : parts (ps.take (k + 1)) = parts (ps.take k) ++ p.l := by
  rw [List.take_add_one, h, parts_append]; simp [parts]
theorem parts_le (ps : List Pt) (k : Nat) : (parts (ps.take k)).length ≤ (parts ps).length := by
  have := parts_append (ps.take k) (ps.drop k)
  rw [List.take_append_drop] at this
  rw [this, List.length_append]; omega
set_option maxRecDepth 100000 in
set_option maxHeartbeats 1000000 in
theorem concatK_any (bs cp : Nat) (ps : List Pt) (w : World) (hm : ps.length ≤ 10) (hl : (parts ps).length ≤ 1000)
    (hc : ∀ i p, ps[i]? = some p → w.cell? ⟨bs, i, none⟩ = some (.slice p.a p.l.length p.c) ∧ KsH w.cell? p.a p.l) :
    Calls Tryz.prog 34 #[.slice (some ⟨bs, 0, none⟩) ps.length cp] w fun e w' => (∃ v, e = .returned v ∧ w'.ownsRow w.heap.size 61 9 v (parts ps).length (kfl (parts ps))) ∧ Below w.heap.size w w' := by
  obtain ⟨i0, hi0, hz0, hz1, hz2⟩ := info_three Tryz.infoK
  have HC : Hid (∀ i p, ps[i]? = some p → w.cell? ⟨bs, i, none⟩ = some (.slice p.a p.l.length p.c) ∧ KsH w.cell? p.a p.l) := hc
  have HL : Hid (∀ k, (parts (ps.take k)).length ≤ (parts ps).length) := parts_le ps
  clear hc
  go_enter Tryz.func34, Tryz.ntmps34
  go_wp2
  go_loop [11, 3] (fun i s => ∃ k : Nat, k ≤ ps.length ∧ i = .int .i64 k ∧ s = .int .i64 (parts (ps.take k)).length) (fun i _ => ps.length - (intOf i).toNat)
  case atStart => exact ⟨0, Nat.zero_le _, rfl, rfl⟩
  case round =>
    obtain ⟨k, hk, rfl, rfl⟩ := hrel
    by_cases hlt : k < ps.length
    · obtain ⟨p, hp⟩ : ∃ p, ps[k]? = some p := ⟨ps[k], by simp [hlt]⟩
      obtain ⟨q, _⟩ := HC.out k p hp
      have hki : (k : Int) < (ps.length : Int) := by omega
      have HS : Hid (parts (ps.take (k + 1)) = parts (ps.take k) ++ p.l) := parts_succ hp
      have h2 : (parts (ps.take k)).length + p.l.length ≤ 1000 := by
        have := HL.out (k + 1)
        rw [HS.out, List.length_append] at this; omega
      have HS2 : Hid ((parts (ps.take (k + 1))).length = (parts (ps.take k)).length + p.l.length) := by show _ = _; rw [HS.out, List.length_append]
      clear hp HS
      generalize (parts (ps.take k)).length = s at h2 HS2 ⊢
      go_wp2
      go_round
      case rel => exact ⟨k + 1, by omega, by go_num, by rw [HS2.out]; go_num⟩
      case measure => simp [intOf]; omega
    · have e1 : ps.take k = ps := List.take_of_length_le (by omega)
      rw [e1]
      clear e1
      go_wp2_with fail
      refine (growK_any _ _ hl).mono ?_
      rintro e w1 ⟨⟨v, rfl, hown⟩, hB⟩
      go_wp2
      go_loopw [27, 6] (fun i s wr => ∃ k : Nat, k ≤ ps.length ∧ i = .int .i64 k ∧ wr.ownsRow w.heap.size 61 9 s (parts (ps.take k)).length (kfl (parts (ps.take k))) ∧ Below w.heap.size w wr) (fun i _ _ => ps.length - (intOf i).toNat)
      case atStart => exact ⟨0, Nat.zero_le _, rfl, hown, hB⟩
      case round =>
        obtain ⟨k, hk, rfl, hown, hB⟩ := hrel
        by_cases hlt : k < ps.length
        · obtain ⟨p, hp⟩ : ∃ p, ps[k]? = some p := ⟨ps[k], by simp [hlt]⟩
          obtain ⟨q, hK⟩ := HC.out k p hp
          have hki : (k : Int) < (ps.length : Int) := by omega
          have HS : Hid (parts (ps.take (k + 1)) = parts (ps.take k) ++ p.l) := parts_succ hp
          have h2 : (parts (ps.take k)).length + p.l.length ≤ 1000 := by
            have := HL.out (k + 1)
            rw [HS.out, List.length_append] at this; omega
          have q2 : wr.cell? ⟨bs, k, none⟩ = some (.slice p.a p.l.length p.c) := (hB.cell (p := ⟨bs, k, none⟩) (World.block_lt_of_cell? _ _ q)).trans q
          have hb1 := hB.size
          have hK1 := hK.on (mle_below hB)
          clear hp q hK
          generalize parts (ps.take k) = P at h2 HS hown ⊢
          go_wp2_with (at_builtin; refine wpList_append_src _ rfl (.tmp 31) (.tmp 32) 32 rfl w.heap.size 61 i0 zK 9 120 Tryz.underlying32 hi0 hz0 hz1 hz2 rfl (by decide) _ P.length (kfl P) rfl hown p.a p.l.length p.c (kfl p.l) rfl (kfl_length p.l) (src_of_ksH hK1) (kfl_one _) (by unfold maxLen; omega) (by omega) hb1 ?_)
          intro v2 w4 hown4 hgrow4 _
          have hB4 := hB.grown hgrow4 hb1 (fun q e => (hown.lt q e).1)
          clear hgrow4 hown hB hb1
          go_wp2
          go_roundw
          case rel => exact ⟨k + 1, by omega, by go_num, by rw [HS.out, List.length_append, kfl_append]; exact hown4, hB4⟩
          case measure => simp [intOf]; omega
        · have e1 : ps.take k = ps := List.take_of_length_le (by omega)
          rw [e1] at hown
          clear e1
          go_wp2
          go_ret
          exact ⟨⟨_, rfl, hown⟩, hB⟩
end Go.Proofs.YtlbabnffiibnpaaGreat
