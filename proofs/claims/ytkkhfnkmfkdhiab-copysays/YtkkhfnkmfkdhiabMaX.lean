/-
  A RANGE OVER A FUNCTION, AT THE WIDE FENCE: the statement; one round.
  SPOTS: nodes where they stand; an iterator over spots; the layers' one: the walk.
  THE KIDS OF A NAME, of spots: the walks.
-/
import Derived.RangeFuncNested
import Derived.RangeFuncBound
import Derived.RangeFuncCalls
import Derived.RangeFuncLeaves
import Derived.Test.YtkkhfnkmfkdhiabBtX
import Derived.Test.YtkkhfnkmfkdhiabNaX
import Derived.Shelf.Abstract
import Derived.Shelf.RegionOpen
import Derived.WalkKit
import Derived.OwnWalkIn
import Derived.TacticsInMore
import Derived.LoopNIn
import Derived.LoopIn
import Derived.Test.YtkkhfnkmfkdhiabWmY
namespace Go.Proofs.Ytkkhfnkmfkdhiab
open Go.RowKit

/-- The loop's record, by its state and its pending jump. -/
structure IsRec (rec : LoopState → Option Code → Loop) (fn : FuncId) (tmps : Array Value) (ps : Array Tmp) (assign body : Code) (D : Nat) : Prop where
  out : rec = fun st pe => { state := st, pending := pe, fn, tmps, params := ps, assign, body, defers := D }
/-- How a round may end. -/
def rPost (l : Nat) (rec : LoopState → Option Code → Loop) (R : Ending → World → Prop) : Exit → Act → World → Prop
  | .normal, _, W => W.heap[l]? = some (.loop (rec .busy none)) ∧ R (.returned (.bool true)) (W.putObj l (.loop (rec .ready none)))
  | .ret, _, W => W.heap[l]? = some (.loop (rec .busy none)) ∧ R (.returned (.bool false)) (W.putObj l (.loop (rec .done (some .ret))))
  | .exit id, _, W => W.heap[l]? = some (.loop (rec .busy none)) ∧ R (.returned (.bool false)) (W.putObj l (.loop (rec .done (some (.exit id)))))
  | .goto t, _, W => W.heap[l]? = some (.loop (rec .busy none)) ∧ R (.returned (.bool false)) (W.putObj l (.loop (rec .done (some (.goto t)))))
  | .panic _, _, _ => False
  | .outgrown, _, _ => False
theorem round_at {P : Program} {n : Nat} {rec : LoopState → Option Code → Loop} {fn : FuncId} {tmps : Array Value} {ps : Array Tmp} {assign body : Code} {D : Nat} (hrec : IsRec rec fn tmps ps assign body D) {l : Nat} {W : World} {args : Array Value} {R : Ending → World → Prop}
    (hl : W.heap[l]? = some (.loop (rec .ready none))) (hs : args.size = ps.size)
    (h : assign.wpIn (Fence.wide.inRound l) n P (Exit.then (fun a w => w.heap[l]? = some (.loop (rec .ready none)) ∧ body.wpIn (Fence.wide.inRound l) n P (rPost l rec R) a (w.putObj l (.loop (rec .busy none)))) fun _ _ _ => False)
      { tmps := (ps.zip args).foldl (fun t (p, v) => t.setIfInBounds p v) tmps, defers := [] } W) : YieldAt Fence.wide n P l args W R := by
  have hr := hrec.out
  have hy := run_yield (P := P) (args := args) hl (by rw [hr]; exact hs)
  rw [hr] at hy
  refine ⟨fn, _, assign, body, hy, roundIn_of_wpIn trivial (wpIn_mono h ?_)⟩
  intro e a w hp
  cases e with
  | normal =>
    obtain ⟨h1, h2⟩ := hp
    refine ⟨_, run_beginRound h1 (by rw [hr]), ?_⟩
    have e1 : ({ rec .ready none with state := .busy } : Loop) = rec .busy none := by rw [hr]
    rw [e1]
    refine wpIn_mono h2 ?_
    have key : ∀ (jump : Option Code) (w3 : World), w3.heap[l]? = some (.loop (rec .busy none)) → (Instr.endRound l jump).run P w3 = .ok (.bool jump.isNone) (w3.putObj l (.loop (rec (if jump.isNone then .ready else .done) jump))) := fun jump w3 h3 => by
      have := run_endRound (P := P) jump h3
      rw [hr] at this ⊢
      exact this
    intro e a w hp
    cases e with
    | normal => exact ⟨_, _, key none w hp.1, hp.2⟩
    | ret => exact ⟨_, _, key (some .ret) w hp.1, hp.2⟩
    | exit id => exact ⟨_, _, key (some (.exit id)) w hp.1, hp.2⟩
    | goto t => exact ⟨_, _, key (some (.goto t)) w hp.1, hp.2⟩
    | panic c => exact hp.elim
    | outgrown => exact hp.elim
  | ret => exact hp.elim
  | exit id => exact hp.elim
  | goto t => exact hp.elim
  | panic c => exact hp.elim
  | outgrown => exact hp.elim
theorem range_at {P : Program} {n : Nat} {g : Operand} {ps : Array Tmp} {assign body : Code} {Q : Exit → Act → World → Prop} {a : Act} {w : World} {gf : Nat} {lb : Array Value}
    (hg : a.eval g = .func (.func gf) #[] lb) (eg : ∀ args w, (callFunc gf args).run P w = .ok (.enter gf args) w)
    (h : ∀ fn rec, IsRec rec fn a.tmps ps assign body w.heap.size → ∀ W1 : World, Below w.heap.size w W1 → W1.heap.size = w.heap.size + 1 + 1 → W1.heap[w.heap.size + 1]? = some (.loop (rec .ready none)) → W1.heap[w.heap.size]? = some (.deferred (some [])) →
      CallsIn Fence.wide (n - 1) P gf (#[.func (.yield (w.heap.size + 1)) #[] #[]] ++ lb) W1 fun e W' => (∃ v, e = .returned v) ∧
        ((W'.heap[w.heap.size + 1]? = some (.loop (rec .ready none)) ∧ Q .normal { a with defers := { target := .collected w.heap.size, args := #[] } :: a.defers } (W'.putObj (w.heap.size + 1) (.loop (rec .exhausted none)))) ∨
         ∃ c, W'.heap[w.heap.size + 1]? = some (.loop (rec .done (some c))) ∧ c.wpIn Fence.wide n P Q { a with defers := { target := .collected w.heap.size, args := #[] } :: a.defers } (W'.putObj (w.heap.size + 1) (.loop (rec .exhausted (some c)))))) :
    (Code.rangeFunc g ps assign body).wpIn Fence.wide n P Q a w := by
  refine wpIn_rangeFunc ?_
  intro fn _
  obtain ⟨rec, hrec⟩ : ∃ rec : LoopState → Option Code → Loop, rec = fun st pe => { state := st, pending := pe, fn, tmps := a.tmps, params := ps, assign, body, defers := w.heap.size } := ⟨_, rfl⟩
  have hsz : ((w.alloc (.deferred (some []))).alloc (.loop (rec .ready none))).heap.size = w.heap.size + 1 + 1 := by rw [World.size_alloc, World.size_alloc]
  have hB : Below w.heap.size w ((w.alloc (.deferred (some []))).alloc (.loop (rec .ready none))) := ((Below.refl _ w).alloc (Nat.le_refl _) _).alloc (by rw [World.size_alloc]; omega) _
  have h1 : ((w.alloc (.deferred (some []))).alloc (.loop (rec .ready none))).heap[w.heap.size + 1]? = some (.loop (rec .ready none)) := by
    have := World.alloc_heap_new (w.alloc (.deferred (some []))) (.loop (rec .ready none))
    rwa [World.size_alloc] at this
  have h2 : ((w.alloc (.deferred (some []))).alloc (.loop (rec .ready none))).heap[w.heap.size]? = some (.deferred (some [])) := (Below.heap_alloc _ _ _ (by rw [World.size_alloc]; omega)).trans (World.alloc_heap_new w _)
  have h0 : (Instr.enterLoop fn a.tmps ps assign body Fence.wide.round).run P w = .ok (w.heap.size + 1, [{ target := .collected w.heap.size, args := #[] }]) ((w.alloc (.deferred (some []))).alloc (.loop (rec .ready none))) := by rw [hrec]; exact run_enterLoop_outer _ _ _ _ _
  obtain ⟨W1, hW1⟩ : ∃ W1, (w.alloc (.deferred (some []))).alloc (.loop (rec .ready none)) = W1 := ⟨_, rfl⟩
  rw [hW1] at h0 hsz hB h1 h2
  clear hW1
  refine ⟨w.heap.size + 1, [{ target := .collected w.heap.size, args := #[] }], W1, { target := .fn (.func gf) lb, args := #[.func (.yield (w.heap.size + 1)) #[] #[]] }, W1, gf,
    #[.func (.yield (w.heap.size + 1)) #[] #[]] ++ lb, W1, h0, ?_, fun f' _ => trivial, ?_, fun e => by simp [Fence.wide] at e, ?_⟩
  · simp only [resolve, hg]
    simp [go_sem]
  · simp [invoke, go_sem, eg]
  · refine (h fn rec ⟨hrec⟩ _ hB hsz h1 h2).mono ?_
    rintro e W2 ⟨⟨v, rfl⟩, (⟨hl, hq⟩ | ⟨c, hl, hq⟩)⟩
    · exact ⟨none, _, by have := run_endLoop (P := P) hl (by rw [hrec]; simp); rw [hrec] at this ⊢; exact this, hq⟩
    · exact ⟨some c, _, by have := run_endLoop (P := P) hl (by rw [hrec]; simp); rw [hrec] at this ⊢; exact this, hq⟩
end Go.Proofs.Ytkkhfnkmfkdhiab

namespace Go.Proofs.Ytkkhfnkmfkdhiab
open Go.RowKit Go.Shelf
attribute [local go_sem] Oper.semAt_some

/-- A node where it stands, and its layer. -/
structure Sp where
  b : Nat
  p : Nat
  ly : Nat
  x : Nd
  h : Hd
def Sp.v (s : Sp) : Value := .agg #[.pointer (some ⟨s.b, s.p, none⟩), .int .i64 s.ly]
def Sp.pr (s : Sp) : Nd × Nat := (s.x, s.ly)
def SpAt (c : Mem) (s : Sp) : Prop := NAt c s.b s.p s.x s.h ∧ NdV c s.x s.h
theorem SpAt.below {w w' : World} {s : Sp} (h : SpAt w.cell? s) (hb : Below w.heap.size w w') : SpAt w'.cell? s := ⟨h.1.below hb, h.2.ab hb⟩
theorem yield_n {P : Program} {n m l : Nat} {args : Array Value} {W : World} {R : Ending → World → Prop} (h : YieldAt Fence.wide n P l args W R) : YieldAt Fence.wide m P l args W R := by
  obtain ⟨fn, tmps, assign, body, hy, hR⟩ := h
  exact ⟨fn, tmps, assign, body, hy, hR.1, fun c cs _ => hR.2 c cs (room_wide _)⟩
theorem callsIn_n {P : Program} {n m : Nat} {f : FuncId} {args : Array Value} {w : World} {R : Ending → World → Prop} (h : CallsIn Fence.wide n P f args w R) : CallsIn Fence.wide m P f args w R := ⟨h.1, fun cs _ => h.2 cs (room_wide _)⟩
/-- What a function that is ranged over gives: these spots, in this order. -/
def Its (gf : Nat) (lb : Array Value) (n₀ : Nat) (w : World) (T : List Sp) : Prop :=
  ∀ (l : Nat) (J : Nat → World → Prop) (Jx : World → Prop) (W : World), Below n₀ w W → (∀ i A B, J i A → Below A.heap.size A B → J i B) →
    (∀ i s A, T[i]? = some s → J i A → YieldAt Fence.wide 0 Try.prog l #[s.v] A fun e B => (e = .returned (.bool true) ∧ J (i + 1) B ∧ Below n₀ A B) ∨ (e = .returned (.bool false) ∧ Jx B)) →
    J 0 W → CallsIn Fence.wide 0 Try.prog gf (#[.func (.yield l) #[] #[]] ++ lb) W fun e B => (∃ v, e = .returned v) ∧ (J T.length B ∨ Jx B)

set_option maxRecDepth 100000 in
set_option maxHeartbeats 1000000 in
theorem layers1_any (bx n₀ : Nat) (a : Option Addr) (cap : Nat) (T : List Sp) (w : World) (hbx : bx < n₀) (_hn : n₀ ≤ w.heap.size) (hc : w.cell? ⟨bx, 0, none⟩ = some (.slice a T.length cap)) (hlen : T.length ≤ 1000)
    (hT : ∀ i s, T[i]? = some s → ∃ b off, a = some ⟨b, off, none⟩ ∧ s.b = b ∧ s.p = off + i * 8 ∧ s.ly = i) :
    Its 150 #[.pointer (some ⟨bx, 0, none⟩)] n₀ w T := by
  intro l J Jx W hW hJ hY h0
  have hcW : W.cell? ⟨bx, 0, none⟩ = some (.slice a T.length cap) := (hW.cell (p := ⟨bx, 0, none⟩) hbx).trans hc
  show CallsIn Fence.wide 0 Try.prog 150 #[.func (.yield l) #[] #[], .pointer (some ⟨bx, 0, none⟩)] W _
  refine callsIn_of_wp Try.func150 rfl trivial ?_ rfl
  simp only [Try.ntmps150, List.size_toArray, List.length_cons, List.length_nil, Nat.reduceAdd, Nat.reduceSub, Array.replicate_succ, Array.replicate_zero, List.push_toArray, List.append_toArray, List.nil_append, List.cons_append]
  have HY : Hid _ := hY
  have HT : Hid _ := hT
  obtain ⟨N, HN⟩ : ∃ N, Hid (T.length = N) := ⟨_, rfl⟩
  rw [HN.out] at hcW hlen ⊢
  clear hY hT hc
  gi_wp2
  gi_loopw [3, 6] (fun _ i wr => ∃ j : Nat, j ≤ N ∧ i = .int .i64 j ∧ J j wr ∧ wr.cell? ⟨bx, 0, none⟩ = some (.slice a N cap)) (fun _ i _ => N - (intOf i).toNat)
  case atStart => exact ⟨0, Nat.zero_le _, rfl, h0, hcW⟩
  case round =>
    obtain ⟨j, hj, rfl, hJj, hcj⟩ := hrel
    by_cases hjl : j < N
    rotate_left
    · have hji : decide ((j : Int) < (N : Int)) = false := decide_eq_false (by omega)
      gi_wp2
      go_end0
      exact ⟨⟨_, rfl⟩, .inl (by rw [show N = j by omega]; exact hJj)⟩
    · obtain ⟨s, hs⟩ : ∃ s, T[j]? = some s := ⟨_, List.getElem?_eq_getElem (by rw [HN.out]; exact hjl)⟩
      obtain ⟨b, off, rfl, e1, e2, e3⟩ := HT.out j s hs
      obtain ⟨fn, tmps, assign, body, hy, hR⟩ := HY.out j s wr hs hJj
      rw [Sp.v, e1, e2, e3] at hy
      have hji : decide ((j : Int) < (N : Int)) = true := decide_eq_true (by omega)
      have HR : Hid _ := hR
      clear hR hs e1 e2 e3
      gi_wp2
      refine ⟨rfl, RoundIn.mono HR.out ?_⟩
      rintro e W3 (⟨rfl, hJ3, hk3⟩ | ⟨rfl, hJx3⟩)
      · have hc3 := (hk3.cell (p := ⟨bx, 0, none⟩) hbx).trans hcj
        gi_wp2
        go_roundw
        case rel => exact ⟨j + 1, by omega, by go_num, hJ3, hc3⟩
        case measure => (simp [intOf]; try omega)
      · gi_wp2
        refine bodyPost_ret (results_none rfl _ _ _) rfl ?_
        exact ⟨⟨_, rfl⟩, .inr hJx3⟩
end Go.Proofs.Ytkkhfnkmfkdhiab

namespace Go.Proofs.Ytkkhfnkmfkdhiab
open Go.RowKit Go.Shelf

set_option maxRecDepth 100000 in
set_option maxHeartbeats 1000000 in
theorem kof1_any (n m : ByteArray) (x : Nd) (h : Hd) (bp : Nat) (w : World) (hc : w.cell? ⟨bp, 0, none⟩ = some (.string m)) :
    Calls Try.prog 117 #[kdV n x h, .pointer (some ⟨bp, 0, none⟩)] w fun e w' => e = .returned (.bool (decide (n = m))) ∧ Below w.heap.size w w' := by
  obtain ⟨k, mo, u, g, o, at_, d, ks⟩ := x
  have hB : Below w.heap.size w (w.alloc (.cells #[.string n, .int .i64 k, .int .i64 mo, .int .i64 u, .int .i64 g, .bool o, .slice h.aa at_.length h.ca, .string d, .slice h.ak ks.length h.ck] 102)) := (Below.refl _ _).alloc (Nat.le_refl _) _
  have c0 := KBx.newW w n k mo u g o at_ d ks h 102
  have c1 : (w.alloc (.cells #[.string n, .int .i64 k, .int .i64 mo, .int .i64 u, .int .i64 g, .bool o, .slice h.aa at_.length h.ca, .string d, .slice h.ak ks.length h.ck] 102)).cell? ⟨bp, 0, none⟩ = some (.string m) := (hB.cell (p := ⟨bp, 0, none⟩) (World.block_lt_of_cell? _ _ hc)).trans hc
  have hlt : bp < w.heap.size := World.block_lt_of_cell? _ _ hc
  show Calls Try.prog 117 #[.agg #[.string n, .int .i64 k, .int .i64 mo, .int .i64 u, .int .i64 g, .bool o, .slice h.aa at_.length h.ca, .string d, .slice h.ak ks.length h.ck], .pointer (some ⟨bp, 0, none⟩)] _ _
  go_enter Try.func117, Try.ntmps117
  go_wp2
  go_ret
  exact ⟨ret_bool (by rw [← eql_eq]), hB⟩

set_option maxRecDepth 100000 in
set_option maxHeartbeats 1000000 in
theorem kofx_any (a : Option Addr) (cap bp : Nat) (ks : Kds) (m : ByteArray) (w : World) (hl : ks.length ≤ 1000) (h : KsV w.cell? a ks) (hc : w.cell? ⟨bp, 0, none⟩ = some (.string m)) :
    Calls Try.prog 106 #[.slice a ks.length cap, .func (.func 117) #[] #[.pointer (some ⟨bp, 0, none⟩)]] w fun e w' => e = .returned (.int .i64 (idxI (fun n => decide (n = m)) ks 0)) ∧ Below w.heap.size w w' := by
  obtain ⟨R, HR⟩ : ∃ R, Hid (idxI (fun n => decide (n = m)) ks 0 = R) := ⟨_, rfl⟩
  rw [HR.out]
  have HC : Hid (w.cell? ⟨bp, 0, none⟩ = some (.string m)) := hc
  have HK : Hid (KsV w.cell? a ks) := h
  have hbp : bp < w.heap.size := World.block_lt_of_cell? _ _ hc
  clear hc h
  by_cases hks : ks = []
  · subst hks
    have HR2 : Hid (R = -1) := HR.out.symm
    go_enter Try.func106, Try.ntmps106
    go_wp2
    go_loop [8] (fun i => i = .int .i64 0) (fun _ => 0)
    case atStart => rfl
    case round =>
      subst hrel
      go_wp2
      go_ret
      exact ⟨ret_num HR2.out.symm, Below.refl _ _⟩
  obtain ⟨b, off, rfl, f, hf⟩ : ∃ b off, a = some ⟨b, off, none⟩ ∧ ∃ f : Nat → Hd, ∀ i n x, ks[i]? = some (n, x) → KdAt w.cell? b (off + i * 9) n x (f i) := by
    rcases HK.out with e | ⟨b, off, e, f, hf⟩
    · exact absurd e hks
    · exact ⟨b, off, e, f, fun i n x hi => (hf i n x hi).1⟩
  have HF : Hid (∀ i n x, ks[i]? = some (n, x) → KdAt w.cell? b (off + i * 9) n x (f i)) := hf
  clear hf hks HK
  go_enter Try.func106, Try.ntmps106
  go_wp2
  go_loopw [8] (fun i wr => ∃ j : Nat, j ≤ ks.length ∧ i = .int .i64 j ∧ Hid (R = idxI (fun n => decide (n = m)) (ks.drop j) j) ∧ Below w.heap.size w wr) (fun i _ => ks.length - (intOf i).toNat)
  case atStart => exact ⟨0, Nat.zero_le _, rfl, HR.out.symm, Below.refl _ _⟩
  case round =>
    obtain ⟨j, hj, rfl, HJ, hB⟩ := hrel
    by_cases hjl : j < ks.length
    rotate_left
    · have hji : decide ((j : Int) < (ks.length : Int)) = false := decide_eq_false (by omega)
      have HR2 : Hid (R = -1) := by show _ = _; rw [HJ.out, List.drop_of_length_le (by omega), idxI]
      go_wp2
      go_ret
      exact ⟨ret_num HR2.out.symm, hB⟩
    have hji : (j : Int) < (ks.length : Int) := by omega
    obtain ⟨⟨n, x⟩, hx⟩ : ∃ x, ks[j]? = some x := ⟨ks[j], by simp [hjl]⟩
    have hK := (HF.out j n x hx).below hB
    have hc2 : wr.cell? ⟨bp, 0, none⟩ = some (.string m) := (hB.cell (p := ⟨bp, 0, none⟩) hbp).trans HC.out
    have HD : Hid (R = if (decide (n = m)) = true then (j : Int) else idxI (fun n => decide (n = m)) (ks.drop (j + 1)) (j + 1)) := HJ.out.trans (idxI_drop hx)
    clear hx HJ
    generalize f j = hd1 at hK
    have hcl := kof1_any n m x hd1 bp wr hc2
    have HCL : Hid (Calls Try.prog 117 #[kdV n x hd1, .pointer (some ⟨bp, 0, none⟩)] wr fun e w' => e = .returned (.bool (decide (n = m))) ∧ Below wr.heap.size wr w') := hcl
    obtain ⟨t, ht⟩ : ∃ t, (decide (n = m)) = t := ⟨_, rfl⟩
    rw [ht] at HD HCL
    clear ht hcl hc2
    obtain ⟨k', m', u', g', o', at', d', ks'⟩ := x
    obtain ⟨p0, p1, p2, p3, p4, p5, p6, p7, p8⟩ := hK.nine
    clear hK
    go_wp2_with fail
    refine HCL.out.mono ?_
    rintro e w2 ⟨rfl, c2⟩
    have hB2 := hB.trans (c2.mono hB.size)
    clear p0 p1 p2 p3 p4 p5 p6 p7 p8 c2 hB HCL
    cases t
    · have HN : Hid (R = idxI (fun n => decide (n = m)) (ks.drop (j + 1)) (j + 1)) := by show _ = _; rw [HD.out, if_neg (by simp)]
      go_wp2
      go_roundw
      case rel => exact ⟨j + 1, by omega, by go_num, HN.out, hB2⟩
      case measure => simp [intOf]; omega
    · have HN : Hid (R = j) := by show _ = _; rw [HD.out, if_pos rfl]
      go_wp2
      go_ret
      exact ⟨ret_num HN.out.symm, hB2⟩

theorem NAt.split {c : Mem} {b p : Nat} {k m u g : Int} {o : Bool} {at_ : List Kv} {d : ByteArray} {ks : Kds} {h : Hd} (hk : NAt c b p (.mk k m u g o at_ d ks) h) : c ⟨b, p, none⟩ = some (.int .i64 k) ∧ c ⟨b, p + 4, none⟩ = some (.bool o) ∧ c ⟨b, p + 7, none⟩ = some (.slice h.ak ks.length h.ck) := ⟨hk.1, hk.2.2.2.2.1, hk.2.2.2.2.2.2.2⟩
theorem two_new (w : World) (u v : Value) (t : TypeId) : (w.alloc (.cells #[u, v] t)).cell? ⟨w.heap.size, 0, none⟩ = some u ∧ (w.alloc (.cells #[u, v] t)).cell? ⟨w.heap.size, 1, none⟩ = some v := ⟨World.cell?_alloc_at _ _ _ _ rfl, World.cell?_alloc_at _ _ _ _ rfl⟩
/-- The kids that are asked for. -/
def Nd.dirKs (x : Nd) : Kds := if x.kind = 2 then x.kids else []
set_option maxRecDepth 100000 in
set_option maxHeartbeats 1000000 in
theorem kids_any {w : World} {s : Sp} (hs : SpAt w.cell? s) :
    Calls Try.prog 116 #[s.v] w fun e w' => e = .returned (if s.x.kind = 2 then .slice s.h.ak s.x.kids.length s.h.ck else .slice none 0 0) ∧ Below w.heap.size w w' := by
  obtain ⟨b, p, ly, ⟨k, m, u, g, o, at_, d, ks⟩, h⟩ := s
  have hB : Below w.heap.size w (w.alloc (.cells #[.pointer (some ⟨b, p, none⟩), .int .i64 ly] 123)) := (Below.refl _ _).alloc (Nat.le_refl _) _
  obtain ⟨c0, c1⟩ := two_new w (.pointer (some ⟨b, p, none⟩)) (.int .i64 ly) 123
  obtain ⟨n0, n1, n2⟩ := (hs.1.below hB).split
  show Calls Try.prog 116 #[.agg #[.pointer (some ⟨b, p, none⟩), .int .i64 ly]] w fun e w' => e = .returned (if k = 2 then .slice h.ak ks.length h.ck else .slice none 0 0) ∧ Below w.heap.size w w'
  dsimp only at n0 n2
  by_cases hk : k = 2
  · subst hk
    go_enter Try.func116, Try.ntmps116
    go_wp2
    go_ret
    exact ⟨rfl, hB⟩
  · rw [if_neg hk]
    go_enter Try.func116, Try.ntmps116
    go_wp2
    go_ret
    exact ⟨rfl, hB⟩
/-- The spot of a kid. -/
theorem kid_spot {c : Mem} {s : Sp} (hs : SpAt c s) (nm : ByteArray) :
    (kidF nm s.x = -1 ∧ idxI (fun n => decide (n = nm)) s.x.dirKs 0 = -1) ∨ ∃ (b off j : Nat) (y : Nd) (hy : Hd), s.x.kind = 2 ∧ s.h.ak = some ⟨b, off, none⟩ ∧ kidF nm s.x = j ∧ idxI (fun n => decide (n = nm)) s.x.dirKs 0 = j ∧ s.x.kids[j]? = some (nm, y) ∧ j < s.x.kids.length ∧ SpAt c ⟨b, off + j * 9 + 1, s.ly, y, hy⟩ := by
  obtain ⟨b, p, ly, ⟨k, m, u, g, o, at_, d, ks⟩, h⟩ := s
  show ((if k = 2 then kidI nm ks 0 else -1) = -1 ∧ idxI (fun n => decide (n = nm)) (if k = 2 then ks else []) 0 = -1) ∨ ∃ (b off j : Nat) (y : Nd) (hy : Hd), k = 2 ∧ h.ak = some ⟨b, off, none⟩ ∧ (if k = 2 then kidI nm ks 0 else -1) = (j : Int) ∧ idxI (fun n => decide (n = nm)) (if k = 2 then ks else []) 0 = j ∧ ks[j]? = some (nm, y) ∧ j < ks.length ∧ SpAt c ⟨b, off + j * 9 + 1, ly, y, hy⟩
  by_cases hk : k = 2
  · rw [if_pos hk, if_pos hk, idxI_kid]
    rcases kidI_at nm ks 0 with ⟨h1, _⟩ | ⟨j, x, h1, h2, _⟩
    · exact .inl ⟨h1, h1⟩
    · right
      obtain ⟨_, _, _, hK⟩ := ndV_iff.1 hs.2
      rcases hK with e | ⟨kb, off, e, f, hf⟩
      · subst e; simp at h2
      · obtain ⟨g1, g2⟩ := hf j nm x h2
        refine ⟨kb, off, j, x, f j, hk, e, by rw [h1]; simp, by rw [h1]; simp, h2, (List.getElem?_eq_some_iff.1 h2).1, g1.2, g2⟩
  · rw [if_neg hk, if_neg hk]
    exact .inl ⟨rfl, rfl⟩
end Go.Proofs.Ytkkhfnkmfkdhiab
