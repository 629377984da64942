/-
  A TREE THAT MAY BE HAS SMALL NUMBERS; HOW MANY BYTES IT HAS: the facts of no program.
  A ROW OF BYTES AS A TEXT: no walk.
  WHAT beyond, bounds AND misshaped DO: the walks.
  Bytes OF BOTH, Size, Blocks OF BOTH: the walks.
  A RANGE OVER A FUNCTION, AT THE WIDE FENCE: the statement; one round.
  SPOTS: nodes where they stand; an iterator over spots; the layers' one: the walk.
  THE KIDS OF A NAME, of spots: the walks.
  WHAT IS SHOWN OF SPOTS: no walk.
  ONE STEP ALONG NAMES: what is shown of the layers; of the kids of a name: the walks.
  WHAT THE CLOSURES OF Cut AND Put DO: the walks.
  A WAY DOWN A TREE, whose lists become new: the facts of no program.
  MAPS OF IDS: what is wrong with one; the walks of bounded, meet.
  WHAT IS WRONG WITH A MAP: the walk of Check of package idmap.
  WHERE AN ID LEADS: the walks of ToHost and FromHost.
  PUT BELOW WHAT WAS PUT, branches: no program here.
-/
import Derived.Test.YtkjknbjjchdjlaaGreatDoorNnX
import Derived.Lib.SlBytesRow
import Derived.Test.YtkjknbjjchdjlaaGreatDoorWaY
import Derived.Test.YtkjknbjjchdjlaaGreatDoorApX
import Derived.Test.YtkjknbjjchdjlaaGreatDoorVdY
import Derived.Deep.RegionHeld3
import Derived.RangeFuncNested
import Derived.RangeFuncBound
import Derived.RangeFuncCalls
import Derived.RangeFuncLeaves
import Derived.Test.YtkjknbjjchdjlaaGreatDoorNpX
import Derived.Shelf.Abstract
import Derived.Shelf.RegionOpen
import Derived.WalkKit
import Derived.OwnWalkIn
import Derived.TacticsInMore
import Derived.LoopNIn
import Derived.LoopIn
import Derived.Lib.AppendZeros
import Derived.RangeFuncBox
namespace Go.Proofs.YtkjknbjjchdjlaaGreatDoor
open Go.RowKit
theorem idB_two {n : Int} (h : idB n ≠ false) : 0 ≤ n ∧ n ≤ 65535 := by
  unfold idB at h
  have h1 : (decide (0 ≤ n) && decide (n ≤ 65535)) = true := by simpa using h
  rw [Bool.and_eq_true] at h1
  exact ⟨of_decide_eq_true h1.1, of_decide_eq_true h1.2⟩
theorem nfF_num {up root : Bool} {k m u g : Int} {o : Bool} {at_ : List Kv} {d : ByteArray} {ks : Kds} (h : nfF up root (.mk k m u g o at_ d ks) = 0) : (1 ≤ k ∧ k ≤ 3) ∧ (0 ≤ m ∧ m ≤ 4095) ∧ (0 ≤ u ∧ u ≤ 65535) ∧ (0 ≤ g ∧ g ≤ 65535) := by
  rw [nfF] at h
  split at h
  · omega
  rename_i h1
  split at h
  · omega
  rename_i h2
  have hu : idB u ≠ false := fun e => h2 (.inr (.inr (.inl e)))
  have hg : idB g ≠ false := fun e => h2 (.inr (.inr (.inr e)))
  have hm : ¬ (m < 0 ∨ 4095 < m) := fun e => h2 (e.elim .inl (fun e => .inr (.inl e)))
  exact ⟨by omega, by omega, idB_two hu, idB_two hg⟩
mutual
theorem sml_wlk (up : Bool) : ∀ (x : Nd) (deep seen : Nat), (wlkN up x deep seen).1 = 0 → Lil x → cnt x ≤ 1000 → Sml x
  | .mk k m u g o at_ d ks, deep, seen, h, hl, hc => by
    rw [wlkN] at h
    split at h
    · simp at h
    split at h
    · rename_i h2; exact absurd h h2
    rename_i h1 h2
    obtain ⟨a, b, c, e⟩ := nfF_num (Decidable.not_not.1 h2)
    rw [Lil] at hl
    rw [cnt] at hc
    have hlen := cntL_len ks
    obtain ⟨l1, l2⟩ := hl.1
    rw [Sml]
    exact ⟨by omega, by omega, c, e, ⟨by omega, fun r hr => by have := l2 r hr; omega⟩, by omega, by omega, smlL_wlk up none ks (deep + 1) (seen + 1) h hl.2.2 (by omega)⟩
theorem smlL_wlk (up : Bool) : ∀ (p : Option ByteArray) (l : Kds) (deep seen : Nat), (wlkL up p l deep seen).1 = 0 → LilL l → cntL l ≤ 1000 → SmlL l
  | p, [], deep, seen, h, hl, hc => by rw [SmlL]; trivial
  | p, (n, x) :: l, deep, seen, h, hl, hc => by
    rw [wlkL] at h
    split at h
    · simp at h
    split at h
    · simp at h
    split at h
    · rename_i h2; exact absurd h h2
    rename_i h1 h2 h3
    rw [LilL] at hl
    rw [cntL] at hc
    rw [SmlL]
    exact ⟨by show n.size ≤ 1000; omega, sml_wlk up x deep seen (Decidable.not_not.1 h3) hl.2.1 (by omega), smlL_wlk up (some n) l deep _ h hl.2.2 (by omega)⟩
end
theorem sml_of {up : Bool} {x : Nd} (h : tfF up x = 0) (hl : Lil x) (hc : cnt x ≤ 1000) : Sml x := by
  obtain ⟨k, m, u, g, o, at_, d, ks⟩ := x
  rw [tfF] at h
  split at h
  · omega
  · exact sml_wlk up _ 0 0 h hl hc
end Go.Proofs.YtkjknbjjchdjlaaGreatDoor
namespace Go.Proofs.YtkjknbjjchdjlaaGreatDoor
open Go.RowKit
/-- Bytes as a text. -/
def ofB (l : List UInt8) : ByteArray := ⟨l.toArray⟩
theorem ofB_size (l : List UInt8) : (ofB l).size = l.length := by simp [ofB, ByteArray.size]
theorem conv_row {w : World} {base : Nat} {v : Value} {n : Nat} {l : List UInt8} (hrow : w.ownsRow base 5 1 v n (bc l)) (hn : n = l.length) (hl : 0 < n) : (convert 48 9 v).run Tryz.prog w = .ok (.string (ofB l)) w := by
  subst hn
  obtain ⟨a, cap, rfl, _, _, hf⟩ := owns_cells hrow
  rcases hf with ⟨_, e, _⟩ | ⟨g, rfl, _, _, hc, _⟩
  · omega
  · have := Lib.run_convert_whole (P := Tryz.prog) w 48 5 9 Tryz.underlying48 Tryz.underlying5 Tryz.underlying9 g 0 (ofB l) (fun i hi => by
      rw [Nat.zero_add]
      refine hc i _ ?_
      have hi' : i < l.length := by rwa [ofB_size] at hi
      simp [bc, ofB, List.getElem?_eq_getElem hi']
      rfl) cap
    rwa [ofB_size] at this
end Go.Proofs.YtkjknbjjchdjlaaGreatDoor
namespace Go.Proofs.YtkjknbjjchdjlaaGreatDoor
open Go.RowKit
set_option maxHeartbeats 400000 in
theorem beyond_any (x most : Int) (w : World) : Calls Tryz.prog 115 #[.int .i64 x, .int .i64 most] w fun e w' => e = .returned (.bool (decide (x < 0) || decide (most < x))) ∧ w = w' := by
  by_cases h : x < 0
  · have d : decide (x < 0) = true := decide_eq_true h
    clear h
    go_enter Tryz.func115, Tryz.ntmps115
    go_wp2
    go_ret
    exact ⟨ret_bool (by rw [d]; rfl), rfl⟩
  · have d : decide (x < 0) = false := decide_eq_false h
    clear h
    go_enter Tryz.func115, Tryz.ntmps115
    go_wp2
    go_ret
    exact ⟨ret_bool (by rw [d]; rfl), rfl⟩
end Go.Proofs.YtkjknbjjchdjlaaGreatDoor
namespace Go.Proofs.YtkjknbjjchdjlaaGreatDoor
open Go.RowKit
theorem gr_nil {w w' : World} {v' : Value} (h : Gr w w' (.slice none 0 0) v') : Below w.heap.size w w' := ⟨h.g.os, h.g.tape, h.g.output, h.g.size, fun k hk => h.g.block k hk (by simp [Value.ownBlock])⟩
end Go.Proofs.YtkjknbjjchdjlaaGreatDoor
namespace Go.Proofs.YtkjknbjjchdjlaaGreatDoor
open Go.RowKit
/-- The loop's record, by its state and its pending jump. -/
structure IsRec (rec : LoopState → Option Code → Loop) (fn : FuncId) (tmps : Array Value) (ps : Array Tmp) (assign body : Code) (D : Nat) : Prop where
  out : rec = fun st pe => { state := st, pending := pe, fn, tmps, params := ps, assign, body, defers := D }
/-- How a round may end. -/
def rPost (l : Nat) (rec : LoopState → Option Code → Loop) (R : Ending → World → Prop) : Exit → Act → World → Prop
  | .normal, _, W => W.heap[l]? = some (.loop (rec .busy none)) ∧ R (.returned (.bool true)) (W.putObj l (.loop (rec .ready none)))
  | .ret, _, W => W.heap[l]? = some (.loop (rec .busy none)) ∧ R (.returned (.bool false)) (W.putObj l (.loop (rec .done (some .ret))))
  | .exit id, _, W => W.heap[l]? = some (.loop (rec .busy none)) ∧ R (.returned (.bool false)) (W.putObj l (.loop (rec .done (some (.exit id)))))
  | .goto t, _, W => W.heap[l]? = some (.loop (rec .busy none)) ∧ R (.returned (.bool false)) (W.putObj l (.loop (rec .done (some (.goto t)))))
  | .panic _, _, _ => False
  | .outgrown, _, _ => False
theorem round_at {P : Program} {n : Nat} {rec : LoopState → Option Code → Loop} {fn : FuncId} {tmps : Array Value} {ps : Array Tmp} {assign body : Code} {D : Nat} (hrec : IsRec rec fn tmps ps assign body D) {l : Nat} {W : World} {args : Array Value} {R : Ending → World → Prop}
    (hl : W.heap[l]? = some (.loop (rec .ready none))) (hs : args.size = ps.size)
    (h : assign.wpIn (Fence.wide.inRound l) n P (Exit.then (fun a w => w.heap[l]? = some (.loop (rec .ready none)) ∧ body.wpIn (Fence.wide.inRound l) n P (rPost l rec R) a (w.putObj l (.loop (rec .busy none)))) fun _ _ _ => False)
      { tmps := (ps.zip args).foldl (fun t (p, v) => t.setIfInBounds p v) tmps, defers := [] } W) : YieldAt Fence.wide n P l args W R := by
  have hr := hrec.out
  have hy := run_yield (P := P) (args := args) hl (by rw [hr]; exact hs)
  rw [hr] at hy
  refine ⟨fn, _, assign, body, hy, roundIn_of_wpIn trivial (wpIn_mono h ?_)⟩
  intro e a w hp
  cases e with
  | normal =>
    obtain ⟨h1, h2⟩ := hp
    refine ⟨_, run_beginRound h1 (by rw [hr]), ?_⟩
    have e1 : ({ rec .ready none with state := .busy } : Loop) = rec .busy none := by rw [hr]
    rw [e1]
    refine wpIn_mono h2 ?_
    have key : ∀ (jump : Option Code) (w3 : World), w3.heap[l]? = some (.loop (rec .busy none)) → (Instr.endRound l jump).run P w3 = .ok (.bool jump.isNone) (w3.putObj l (.loop (rec (if jump.isNone then .ready else .done) jump))) := fun jump w3 h3 => by
      have := run_endRound (P := P) jump h3
      rw [hr] at this ⊢
      exact this
    intro e a w hp
    cases e with
    | normal => exact ⟨_, _, key none w hp.1, hp.2⟩
    | ret => exact ⟨_, _, key (some .ret) w hp.1, hp.2⟩
    | exit id => exact ⟨_, _, key (some (.exit id)) w hp.1, hp.2⟩
    | goto t => exact ⟨_, _, key (some (.goto t)) w hp.1, hp.2⟩
    | panic c => exact hp.elim
    | outgrown => exact hp.elim
  | ret => exact hp.elim
  | exit id => exact hp.elim
  | goto t => exact hp.elim
  | panic c => exact hp.elim
  | outgrown => exact hp.elim
end Go.Proofs.YtkjknbjjchdjlaaGreatDoor
namespace Go.Proofs.YtkjknbjjchdjlaaGreatDoor
open Go.RowKit Go.Shelf
attribute [local go_sem] Oper.semAt_some
/-- A node where it stands, and its layer. -/
structure Sp where
  b : Nat
  p : Nat
  ly : Nat
  x : Nd
  h : Hd
def Sp.v (s : Sp) : Value := .agg #[.pointer (some ⟨s.b, s.p, none⟩), .int .i64 s.ly]
end Go.Proofs.YtkjknbjjchdjlaaGreatDoor
namespace Go.Proofs.YtkjknbjjchdjlaaGreatDoor
open Go.RowKit Go.Shelf
theorem NAt.split {c : Mem} {b p : Nat} {k m u g : Int} {o : Bool} {at_ : List Kv} {d : ByteArray} {ks : Kds} {h : Hd} (hk : NAt c b p (.mk k m u g o at_ d ks) h) : c ⟨b, p, none⟩ = some (.int .i64 k) ∧ c ⟨b, p + 4, none⟩ = some (.bool o) ∧ c ⟨b, p + 7, none⟩ = some (.slice h.ak ks.length h.ck) := ⟨hk.1, hk.2.2.2.2.1, hk.2.2.2.2.2.2.2⟩
end Go.Proofs.YtkjknbjjchdjlaaGreatDoor
namespace Go.Proofs.YtkjknbjjchdjlaaGreatDoor
open Go.RowKit Go.Shelf
def Nd.opq : Nd → Bool
  | .mk _ _ _ _ o _ _ _ => o
/-- All the spots so far are plain directories. -/
def Plain (L : List Sp) : Prop := ∀ s ∈ L, s.x.kind = 2 ∧ s.x.opq = false
theorem grown_below {A B : World} (h : Below A.heap.size A B) : A.grownBy B none := ⟨h.os, h.tape, h.output, h.size, fun k hk _ => h.block k hk⟩
theorem ownsRow_bel {A B : World} {base : Nat} {t : TypeId} {n k : Nat} {v : Value} {xs : List Value} (h : A.ownsRow base t n v k xs) (hb : Below A.heap.size A B) : B.ownsRow base t n v k xs := by
  refine h.kept (grown_below hb) ?_
  cases hv : v.ownBlock with
  | none => exact .inl rfl
  | some b => exact .inr (by simp)
end Go.Proofs.YtkjknbjjchdjlaaGreatDoor
namespace Go.Proofs.YtkjknbjjchdjlaaGreatDoor
open Go.RowKit Go.Shelf
/-- Nodes in a row. -/
def NsV (c : Mem) (a : Option Addr) (xs : List Nd) : Prop := xs = [] ∨ ∃ b off, a = some ⟨b, off, none⟩ ∧ ∃ f : Nat → Hd, ∀ i x, xs[i]? = some x → NAt c b (off + i * 8) x (f i) ∧ NdV c x (f i)
theorem NsV.on {c c' : Mem} {a : Option Addr} {xs : List Nd} (h : NsV c a xs) (hb : MLe c c') : NsV c' a xs := by
  rcases h with h | ⟨b, off, h1, f, h2⟩
  · exact .inl h
  · exact .inr ⟨b, off, h1, f, fun i x hi => ⟨(h2 i x hi).1.on hb, (h2 i x hi).2.on hb⟩⟩
end Go.Proofs.YtkjknbjjchdjlaaGreatDoor
namespace Go.Proofs.YtkjknbjjchdjlaaGreatDoor
open Go.RowKit
theorem kfl_take (L : Khs) (k : Nat) : kfl (L.take k) = (kfl L).take (k * 9) := by
  by_cases hk : k ≤ L.length
  · have h := kfl_append (L.take k) (L.drop k)
    rw [List.take_append_drop] at h
    have hl : (kfl (L.take k)).length = k * 9 := by rw [kfl_length, List.length_take, Nat.min_eq_left hk]
    conv => rhs; rw [h, ← hl, List.take_left]
  · have h1 : L.take k = L := List.take_of_length_le (by omega)
    have h2 : (kfl L).take (k * 9) = kfl L := List.take_of_length_le (by rw [kfl_length]; omega)
    rw [h1, h2]
theorem kfl_drop (L : Khs) (k : Nat) : kfl (L.drop k) = (kfl L).drop (k * 9) := by
  by_cases hk : k ≤ L.length
  · have h := kfl_append (L.take k) (L.drop k)
    rw [List.take_append_drop] at h
    have hl : (kfl (L.take k)).length = k * 9 := by rw [kfl_length, List.length_take, Nat.min_eq_left hk]
    conv => rhs; rw [h, ← hl, List.drop_left]
  · have h1 : L.drop k = [] := List.drop_of_length_le (by omega)
    have h2 : (kfl L).drop (k * 9) = [] := List.drop_of_length_le (by rw [kfl_length]; omega)
    rw [h1, h2]; rfl
theorem KsH.take {c : Mem} {a : Option Addr} {L : Khs} (h : KsH c a L) (k : Nat) : KsH c a (L.take k) := by
  obtain ⟨h1, h2⟩ := h
  refine ⟨?_, fun e he => h2 e (List.mem_of_mem_take he)⟩
  rcases h1 with rfl | ⟨b, off, ha, hc⟩
  · exact .inl (by simp)
  · refine .inr ⟨b, off, ha, fun j u hj => hc j u ?_⟩
    rw [kfl_take, List.getElem?_take] at hj
    split at hj
    · exact hj
    · cases hj
theorem KsH.drop {c : Mem} {a : Option Addr} {L : Khs} (h : KsH c a L) (k : Nat) : KsH c (a.map (·.add (k * 9))) (L.drop k) := by
  obtain ⟨h1, h2⟩ := h
  refine ⟨?_, fun e he => h2 e (List.mem_of_mem_drop he)⟩
  rcases h1 with rfl | ⟨b, off, rfl, hc⟩
  · exact .inl (by simp)
  · refine .inr ⟨b, off + k * 9, by simp [addr_add], fun j u hj => ?_⟩
    rw [kfl_drop, List.getElem?_drop] at hj
    have := hc _ u hj
    rw [← Nat.add_assoc] at this; exact this
theorem KsH.none {c : Mem} {a : Option Addr} {L : Khs} (h : L.length = 0) : KsH c a L := by
  have := List.eq_nil_of_length_eq_zero h
  subst this
  exact ⟨.inl rfl, fun e he => by cases he⟩
end Go.Proofs.YtkjknbjjchdjlaaGreatDoor
namespace Go.Proofs.YtkjknbjjchdjlaaGreatDoor
open Go.RowKit
theorem NAt.lt {w : World} {b p : Nat} {x : Nd} {h : Hd} (hk : NAt w.cell? b p x h) : b < w.heap.size := by
  obtain ⟨k, m, u, g, o, at_, d, ks⟩ := x
  exact World.block_lt_of_cell? _ _ hk.1
end Go.Proofs.YtkjknbjjchdjlaaGreatDoor
namespace Go.Proofs.YtkjknbjjchdjlaaGreatDoor
open Go.RowKit
/-- A range. -/
structure Rg where
  i : Int
  o : Int
  n : Int
/-- An int. -/
def I64 (x : Int) : Prop := -9223372036854775808 ≤ x ∧ x ≤ 9223372036854775807
/-- A range of ints. -/
def Rg.ok (r : Rg) : Prop := I64 r.i ∧ I64 r.o ∧ I64 r.n
/-- A slice of ranges: nothing is asked of an empty one's address. -/
def Rgs (w : World) (a : Option Addr) (rs : List Rg) : Prop :=
  rs = [] ∨ ∃ b off, a = some ⟨b, off, none⟩ ∧ ∀ k r, rs[k]? = some r → w.cell? ⟨b, off + k * 3, none⟩ = some (.int .i64 r.i) ∧ w.cell? ⟨b, off + k * 3 + 1, none⟩ = some (.int .i64 r.o) ∧ w.cell? ⟨b, off + k * 3 + 2, none⟩ = some (.int .i64 r.n)
theorem Rgs.below {w w' : World} {a : Option Addr} {rs : List Rg} (h : Rgs w a rs) (hb : Below w.heap.size w w') : Rgs w' a rs := by
  rcases h with h | ⟨b, off, ha, hc⟩
  · exact .inl h
  · refine .inr ⟨b, off, ha, fun k r hk => ?_⟩
    obtain ⟨h1, h2, h3⟩ := hc k r hk
    have hlt : b < w.heap.size := World.block_lt_of_cell? _ _ h1
    exact ⟨(hb.cell (p := ⟨b, off + k * 3, none⟩) hlt).trans h1, (hb.cell (p := ⟨b, off + k * 3 + 1, none⟩) hlt).trans h2, (hb.cell (p := ⟨b, off + k * 3 + 2, none⟩) hlt).trans h3⟩
/-- A range in memory: the three cells of block b, which may be written. -/
def RBox (w : World) (b : Nat) (r : Rg) : Prop :=
  w.cell? ⟨b, 0, none⟩ = some (.int .i64 r.i) ∧ w.cell? ⟨b, 1, none⟩ = some (.int .i64 r.o) ∧ w.cell? ⟨b, 2, none⟩ = some (.int .i64 r.n) ∧ ∀ o, w.frozen? ⟨b, o, none⟩ = false
theorem RBox.new (w : World) (i o n : Int) : RBox (w.alloc (.cells #[.int .i64 i, .int .i64 o, .int .i64 n] 83)) w.heap.size ⟨i, o, n⟩ :=
  ⟨World.cell?_alloc_at _ _ _ _ rfl, World.cell?_alloc_at _ _ _ _ rfl, World.cell?_alloc_at _ _ _ _ rfl, fun _ => World.frozen?_alloc_at _ _ _ _ rfl⟩
theorem RBox.lt {w : World} {b : Nat} {r : Rg} (h : RBox w b r) : b < w.heap.size := World.block_lt_of_cell? _ _ h.1
theorem RBox.below {w w' : World} {b : Nat} {r : Rg} (h : RBox w b r) (hb : Below w.heap.size w w') : RBox w' b r := by
  have hl := h.lt
  obtain ⟨h0, h1, h2, h4⟩ := h
  exact ⟨(hb.cell (p := ⟨b, 0, none⟩) hl).trans h0, (hb.cell (p := ⟨b, 1, none⟩) hl).trans h1, (hb.cell (p := ⟨b, 2, none⟩) hl).trans h2, fun o => (hb.frozen (p := ⟨b, o, none⟩) hl).trans (h4 o)⟩
theorem RBox.alloc {w : World} {b : Nat} {r : Rg} (h : RBox w b r) (o : Obj) : RBox (w.alloc o) b r := h.below ((Below.refl _ _).alloc (Nat.le_refl _) _)
def bndB (f n : Int) : Bool := decide (0 ≤ f ∧ 1 ≤ n ∧ n - 1 ≤ 65535 - f)
def meetB (a n b m : Int) : Bool := decide (a < b + m ∧ b < a + n)
def bndR (r : Rg) : Bool := bndB r.i r.n && bndB r.o r.n
def meetR (p r : Rg) : Bool := meetB p.i p.n r.i r.n || meetB p.o p.n r.o r.n
/-- A range of ids: bounds. -/
def Rg.bd (r : Rg) : Prop := 0 ≤ r.i ∧ r.i ≤ 65535 ∧ 0 ≤ r.o ∧ r.o ≤ 65535 ∧ 1 ≤ r.n ∧ r.n ≤ 65536 ∧ r.i + r.n ≤ 65536 ∧ r.o + r.n ≤ 65536
theorem bd_of {r : Rg} (h : bndR r = true) : r.bd := by
  simp [bndR, bndB] at h; unfold Rg.bd; omega
set_option maxHeartbeats 400000 in
theorem bounded_any (f n : Int) (hf : I64 f) (hn : I64 n) (w : World) : Calls Tryz.prog 102 #[.int .i64 f, .int .i64 n] w fun e w' => e = .returned (.bool (bndB f n)) ∧ w = w' := by
  obtain ⟨f1, f2⟩ := hf
  obtain ⟨n1, n2⟩ := hn
  by_cases h0 : 0 ≤ f
  · by_cases h1 : 1 ≤ n
    · have HB : Hid (bndB f n = decide (n - 1 ≤ 65535 - f)) := by show _ = _; simp [bndB, h0, h1]
      go_enter Tryz.func102, Tryz.ntmps102
      go_wp2
      go_ret
      exact ⟨ret_bool HB.out.symm, rfl⟩
    · have d1 : decide (1 ≤ n) = false := by simpa using h1
      have HB : Hid (bndB f n = false) := by show _ = _; simp [bndB]; omega
      go_enter Tryz.func102, Tryz.ntmps102
      go_wp2
      go_ret
      exact ⟨ret_bool HB.out.symm, rfl⟩
  · have d1 : decide (0 ≤ f) = false := by simpa using h0
    have HB : Hid (bndB f n = false) := by show _ = _; simp [bndB]; omega
    go_enter Tryz.func102, Tryz.ntmps102
    go_wp2
    go_ret
    exact ⟨ret_bool HB.out.symm, rfl⟩
set_option maxHeartbeats 400000 in
theorem meet_any (a n b m : Int) (h1 : 0 ≤ a) (h2 : a ≤ 65535) (h3 : 1 ≤ n) (h4 : n ≤ 65536) (h5 : 0 ≤ b) (h6 : b ≤ 65535) (h7 : 1 ≤ m) (h8 : m ≤ 65536) (w : World) :
    Calls Tryz.prog 103 #[.int .i64 a, .int .i64 n, .int .i64 b, .int .i64 m] w fun e w' => e = .returned (.bool (meetB a n b m)) ∧ w = w' := by
  by_cases g1 : a < b + m
  · have HB : Hid (meetB a n b m = decide (b < a + n)) := by show _ = _; simp [meetB, g1]
    go_enter Tryz.func103, Tryz.ntmps103
    go_wp2
    go_ret
    exact ⟨ret_bool HB.out.symm, rfl⟩
  · have d1 : decide (a < b + m) = false := by simpa using g1
    have HB : Hid (meetB a n b m = false) := by show _ = _; simp [meetB]; omega
    go_enter Tryz.func103, Tryz.ntmps103
    go_wp2
    go_ret
    exact ⟨ret_bool HB.out.symm, rfl⟩
end Go.Proofs.YtkjknbjjchdjlaaGreatDoor
namespace Go.Proofs.YtkjknbjjchdjlaaGreatDoor
open Go.RowKit
/-- Of the range at place k: 1: out of bounds; 3: it meets one ahead of it. -/
def stepM (rs : List Rg) (k : Nat) : Int := match rs[k]? with
  | none => 0
  | some r => if bndR r = false then 1 else if (rs.take k).any (fun p => meetR p r) = true then 3 else 0
/-- The first wrong range from place k on, of so many. -/
def mF (rs : List Rg) : Nat → Nat → Int
  | _, 0 => 0
  | k, n + 1 => if stepM rs k = 0 then mF rs (k + 1) n else stepM rs k
/-- What is wrong with a map (0: nothing). -/
def mapF (rs : List Rg) : Int := if 4 < rs.length then 2 else mF rs 0 rs.length
theorem mF_ok {rs : List Rg} {k n : Nat} (h : stepM rs k = 0) : mF rs k (n + 1) = mF rs (k + 1) n := by simp [mF, h]
theorem mF_bad {rs : List Rg} {k n : Nat} (h : ¬ stepM rs k = 0) : mF rs k (n + 1) = stepM rs k := by simp [mF, h]
theorem stepM_bd {rs : List Rg} {k : Nat} {r : Rg} (hr : rs[k]? = some r) (h : bndR r = false) : stepM rs k = 1 := by simp [stepM, hr, h]
theorem stepM_meet {rs : List Rg} {k : Nat} {r : Rg} (hr : rs[k]? = some r) (h : bndR r = true) (hm : (rs.take k).any (fun p => meetR p r) = true) : stepM rs k = 3 := by
  unfold stepM; rw [hr]; dsimp only; rw [if_neg (by rw [h]; decide), if_pos hm]
theorem stepM_ok {rs : List Rg} {k : Nat} {r : Rg} (hr : rs[k]? = some r) (h : bndR r = true) (hm : (rs.take k).any (fun p => meetR p r) = false) : stepM rs k = 0 := by
  unfold stepM; rw [hr]; dsimp only; rw [if_neg (by rw [h]; decide), if_neg (by rw [hm]; decide)]
theorem bnd_of_step {rs : List Rg} {k : Nat} {r : Rg} (hr : rs[k]? = some r) (h : stepM rs k = 0) : bndR r = true := by
  by_cases hb : bndR r = false
  · rw [stepM_bd hr hb] at h; omega
  · simpa using hb
theorem take_snoc_get {α : Type} {l : List α} {k : Nat} {p : α} (h : l[k]? = some p) : l.take (k + 1) = l.take k ++ [p] := by
  obtain ⟨hk, rfl⟩ := List.getElem?_eq_some_iff.1 h
  exact List.take_succ_eq_append_getElem hk
theorem any_more {rs : List Rg} {f : Rg → Bool} {j k : Nat} (hjk : j < k) (h : (rs.take (j + 1)).any f = true) : (rs.take k).any f = true := by
  rw [List.any_eq_true] at h ⊢
  obtain ⟨x, hx, hf⟩ := h
  refine ⟨x, ?_, hf⟩
  have : rs.take (j + 1) = (rs.take k).take (j + 1) := by rw [List.take_take]; congr 1; omega
  rw [this] at hx
  exact List.mem_of_mem_take hx
set_option maxRecDepth 100000 in
set_option maxHeartbeats 2000000 in
theorem checkM_any (a : Option Addr) (cap : Nat) (rs : List Rg) (w : World) (hl : rs.length ≤ 100) (hcap : rs.length ≤ cap) (hok : ∀ r ∈ rs, r.ok) (h : Rgs w a rs) :
    Calls Tryz.prog 87 #[.slice a rs.length cap] w fun e w' => e = .returned (errV (mapF rs)) ∧ Below w.heap.size w w' := by
  by_cases hn : 4 < rs.length
  · have HM : Hid (mapF rs = 2) := if_pos hn
    go_enter Tryz.func87, Tryz.ntmps87
    go_wp2
    go_ret
    exact ⟨ret_val (errV_of HM.out (by decide)).symm, Below.refl _ _⟩
  have HF : Hid (mapF rs = mF rs 0 rs.length) := if_neg hn
  have hd : decide (4 < (rs.length : Int)) = false := by simp; omega
  go_enter Tryz.func87, Tryz.ntmps87
  go_wp2
  go_loopw [13] (fun i wr => ∃ k : Nat, k ≤ rs.length ∧ i = .int .i64 k ∧ Hid (mF rs 0 rs.length = mF rs k (rs.length - k)) ∧ Hid (∀ j, j < k → stepM rs j = 0) ∧ Below w.heap.size w wr) (fun i _ => rs.length - (intOf i).toNat)
  case atStart => exact ⟨0, Nat.zero_le _, rfl, rfl, fun j hj => absurd hj (Nat.not_lt_zero _), Below.refl _ _⟩
  case round =>
    obtain ⟨k, hk, rfl, HR, HP, hB⟩ := hrel
    by_cases hlt : k < rs.length
    · rcases h with rfl | ⟨b, off, rfl, hc⟩
      · simp at hlt
      · obtain ⟨r, hr⟩ : ∃ r, rs[k]? = some r := ⟨rs[k], by simp [hlt]⟩
        obtain ⟨hc0, hc1, hc2⟩ := hc k r hr
        have hbl : b < w.heap.size := World.block_lt_of_cell? _ _ hc0
        have hblr : b < wr.heap.size := Nat.lt_of_lt_of_le hbl hB.size
        obtain ⟨⟨i1, i2⟩, ⟨o1, o2⟩, ⟨n1, n2⟩⟩ := hok r (List.mem_of_getElem? hr)
        have hki : (k : Int) < (rs.length : Int) := by omega
        have HS : Hid (mF rs k (rs.length - k) = mF rs k ((rs.length - (k + 1)) + 1)) := by show _ = _; congr 1; omega
        obtain ⟨ri, ro, rn⟩ := r
        dsimp only at *
        have q0 : wr.cell? ⟨b, off + k * 3, none⟩ = some (.int .i64 ri) := (hB.cell (p := ⟨b, off + k * 3, none⟩) hbl).trans hc0
        have q1 : wr.cell? ⟨b, off + k * 3 + 1, none⟩ = some (.int .i64 ro) := (hB.cell (p := ⟨b, off + k * 3 + 1, none⟩) hbl).trans hc1
        have q2 : wr.cell? ⟨b, off + k * 3 + 2, none⟩ = some (.int .i64 rn) := (hB.cell (p := ⟨b, off + k * 3 + 2, none⟩) hbl).trans hc2
        have HRr : Hid (rs[k]? = some ⟨ri, ro, rn⟩) := hr
        have HC := hc
        clear hc0 hc1 hc2 hr hc
        obtain ⟨bi, hbi⟩ : ∃ t, bndB ri rn = t := ⟨_, rfl⟩
        obtain ⟨bo, hbo⟩ : ∃ t, bndB ro rn = t := ⟨_, rfl⟩
        have hor : bi = false ∨ bi = true ∧ bo = false ∨ bi = true ∧ bo = true := by cases bi <;> cases bo <;> simp
        rcases hor with rfl | ⟨rfl, rfl⟩ | ⟨rfl, rfl⟩
        · have HN : Hid (mF rs k (rs.length - k) = 1) := HS.out.trans ((mF_bad (by rw [stepM_bd HRr.out (by simp [bndR, hbi])]; decide)).trans (stepM_bd HRr.out (by simp [bndR, hbi])))
          clear HC
          go_wp2_with (go_at_call 102; refine (bounded_any _ _ ⟨by omega, by omega⟩ ⟨by omega, by omega⟩ _).mono ?_; rintro e w' ⟨rfl, rfl⟩)
          go_ret
          exact ⟨ret_val (errV_of (by rw [HF.out, HR.out, HN.out]) (by decide)).symm, hB.alloc hB.size _⟩
        · have HN : Hid (mF rs k (rs.length - k) = 1) := HS.out.trans ((mF_bad (by rw [stepM_bd HRr.out (by simp [bndR, hbo])]; decide)).trans (stepM_bd HRr.out (by simp [bndR, hbo])))
          clear HC
          go_wp2_with (go_at_call 102; refine (bounded_any _ _ ⟨by omega, by omega⟩ ⟨by omega, by omega⟩ _).mono ?_; rintro e w' ⟨rfl, rfl⟩)
          go_ret
          exact ⟨ret_val (errV_of (by rw [HF.out, HR.out, HN.out]) (by decide)).symm, hB.alloc hB.size _⟩
        · have hbd : bndR ⟨ri, ro, rn⟩ = true := by simp [bndR, hbi, hbo]
          obtain ⟨v1, v2, v3, v4, v5, v6, v7, v8⟩ := bd_of hbd
          dsimp only at v1 v2 v3 v4 v5 v6 v7 v8
          have HBD : Hid (bndR ⟨ri, ro, rn⟩ = true) := hbd
          clear hbd
          have hkc : (k : Int) ≤ (cap : Int) := by omega
          go_wp2_with (go_at_call 102; refine (bounded_any _ _ ⟨by omega, by omega⟩ ⟨by omega, by omega⟩ _).mono ?_; rintro e w' ⟨rfl, rfl⟩)
          have RB := RBox.new wr ri ro rn
          have hB1 := hB.alloc hB.size (.cells #[.int .i64 ri, .int .i64 ro, .int .i64 rn] 83)
          clear q0 q1 q2 hB hblr hbi hbo
          generalize wr.alloc (.cells #[.int .i64 ri, .int .i64 ro, .int .i64 rn] 83) = w1 at RB hB1 ⊢
          generalize wr.heap.size = rb at RB ⊢
          go_loopw [37] (fun i wq => ∃ j : Nat, j ≤ k ∧ i = .int .i64 j ∧ Hid ((rs.take j).any (fun p => meetR p ⟨ri, ro, rn⟩) = false) ∧ Below w.heap.size w wq ∧ RBox wq rb ⟨ri, ro, rn⟩) (fun i _ => k - (intOf i).toNat)
          case atStart => exact ⟨0, Nat.zero_le _, rfl, rfl, hB1, RB⟩
          case round =>
            obtain ⟨j, hj, rfl, HJ, hB2, RB2⟩ := hrel
            clear hB1 RB
            obtain ⟨x0, x1, x2, x3⟩ := id RB2
            dsimp only at x0 x1 x2
            have lb := RB2.lt
            by_cases hjk : j < k
            · have hjl : j < rs.length := by omega
              obtain ⟨p, hp⟩ : ∃ p, rs[j]? = some p := ⟨rs[j], by simp [hjl]⟩
              obtain ⟨y0, y1, y2⟩ := HC j p hp
              obtain ⟨t1, t2, t3, t4, t5, t6, t7, t8⟩ := bd_of (bnd_of_step hp (HP.out j hjk))
              have HJ2 : Hid ((rs.take (j + 1)).any (fun p => meetR p ⟨ri, ro, rn⟩) = meetR p ⟨ri, ro, rn⟩) := by
                show _ = _
                rw [take_snoc_get hp, List.any_append, HJ.out]; simp
              obtain ⟨pi, po, pn⟩ := p
              dsimp only at y0 y1 y2 t1 t2 t3 t4 t5 t6 t7 t8
              have z0 : wr.cell? ⟨b, off + j * 3, none⟩ = some (.int .i64 pi) := (hB2.cell (p := ⟨b, off + j * 3, none⟩) hbl).trans y0
              have z1 : wr.cell? ⟨b, off + j * 3 + 1, none⟩ = some (.int .i64 po) := (hB2.cell (p := ⟨b, off + j * 3 + 1, none⟩) hbl).trans y1
              have z2 : wr.cell? ⟨b, off + j * 3 + 2, none⟩ = some (.int .i64 pn) := (hB2.cell (p := ⟨b, off + j * 3 + 2, none⟩) hbl).trans y2
              have hblr : b < wr.heap.size := Nat.lt_of_lt_of_le hbl hB2.size
              have hji : (j : Int) < (k : Int) := by omega
              clear y0 y1 y2 hp
              obtain ⟨mi, hmi⟩ : ∃ t, meetB pi pn ri rn = t := ⟨_, rfl⟩
              obtain ⟨mo, hmo⟩ : ∃ t, meetB po pn ro rn = t := ⟨_, rfl⟩
              have HME : Hid (meetR ⟨pi, po, pn⟩ ⟨ri, ro, rn⟩ = (mi || mo)) := by show _ = _; simp [meetR, hmi, hmo]
              have hor : mi = true ∨ mi = false ∧ mo = true ∨ mi = false ∧ mo = false := by cases mi <;> cases mo <;> simp
              rcases hor with rfl | ⟨rfl, rfl⟩ | ⟨rfl, rfl⟩
              · have HN : Hid (mF rs k (rs.length - k) = 3) := HS.out.trans ((mF_bad (by rw [stepM_meet HRr.out HBD.out (any_more hjk (by rw [HJ2.out, HME.out]; rfl))]; decide)).trans (stepM_meet HRr.out HBD.out (any_more hjk (by rw [HJ2.out, HME.out]; rfl))))
                clear HC HJ2 HME
                go_wp2_with (go_at_call 103; refine (meet_any _ _ _ _ (by omega) (by omega) (by omega) (by omega) (by omega) (by omega) (by omega) (by omega) _).mono ?_; rintro e w' ⟨rfl, rfl⟩)
                go_ret
                exact ⟨ret_val (errV_of (by rw [HF.out, HR.out, HN.out]) (by decide)).symm, hB2.alloc hB2.size _⟩
              · have HN : Hid (mF rs k (rs.length - k) = 3) := HS.out.trans ((mF_bad (by rw [stepM_meet HRr.out HBD.out (any_more hjk (by rw [HJ2.out, HME.out]; rfl))]; decide)).trans (stepM_meet HRr.out HBD.out (any_more hjk (by rw [HJ2.out, HME.out]; rfl))))
                clear HC HJ2 HME
                go_wp2_with (go_at_call 103; refine (meet_any _ _ _ _ (by omega) (by omega) (by omega) (by omega) (by omega) (by omega) (by omega) (by omega) _).mono ?_; rintro e w' ⟨rfl, rfl⟩)
                go_ret
                exact ⟨ret_val (errV_of (by rw [HF.out, HR.out, HN.out]) (by decide)).symm, hB2.alloc hB2.size _⟩
              · have HN : Hid ((rs.take (j + 1)).any (fun p => meetR p ⟨ri, ro, rn⟩) = false) := by show _ = _; rw [HJ2.out, HME.out]; rfl
                clear HC HJ2 HME
                go_wp2_with (go_at_call 103; refine (meet_any _ _ _ _ (by omega) (by omega) (by omega) (by omega) (by omega) (by omega) (by omega) (by omega) _).mono ?_; rintro e w' ⟨rfl, rfl⟩)
                go_roundw
                case rel => exact ⟨j + 1, by omega, by go_num, HN.out, hB2.alloc hB2.size _, RB2.alloc _⟩
                case measure => simp [intOf]; omega
            · have hjk2 : j = k := by omega
              subst hjk2
              have HN : Hid (mF rs j (rs.length - j) = mF rs (j + 1) (rs.length - (j + 1))) := HS.out.trans (mF_ok (stepM_ok HRr.out HBD.out HJ.out))
              have HP2 : Hid (∀ i, i < j + 1 → stepM rs i = 0) := by
                intro i hi
                by_cases e : i = j
                · subst e; exact stepM_ok HRr.out HBD.out HJ.out
                · exact HP.out i (by omega)
              clear HC
              go_wp2
              go_roundw
              case rel => exact ⟨j + 1, by omega, by go_num, HR.out.trans HN.out, HP2.out, hB2⟩
              case measure => simp [intOf]; omega
    · have e0 : rs.length - k = 0 := by omega
      go_wp2
      go_ret
      exact ⟨ret_val (errV_nil (by rw [HF.out, HR.out, e0]; rfl)).symm, hB⟩
end Go.Proofs.YtkjknbjjchdjlaaGreatDoor
namespace Go.Proofs.YtkjknbjjchdjlaaGreatDoor
open Go.RowKit
set_option maxHeartbeats 400000 in
theorem sidesTo (r : Rg) (w : World) : Calls Tryz.prog 108 #[.agg #[.int .i64 r.i, .int .i64 r.o, .int .i64 r.n]] w fun e w' => e = .returned (.tuple #[.int .i64 r.i, .int .i64 r.o]) ∧ Below w.heap.size w w' := by
  go_enter Tryz.func108, Tryz.ntmps108
  go_wp2
  go_quiet (fail)
  go_wp2
  go_ret2
  exact ⟨rfl, below_drewN ((Below.refl _ _).alloc (Nat.le_refl _) _) _⟩
/-- Where an id leads, by ranges. -/
def walkM (fr tg : Rg → Int) : List Rg → Int → Option Int
  | [], _ => none
  | r :: l, x => if fr r ≤ x ∧ x - fr r < r.n then some (tg r + x - fr r) else walkM fr tg l x
theorem walkM_hit {fr tg : Rg → Int} {r : Rg} {l : List Rg} {x : Int} (h1 : fr r ≤ x) (h2 : x - fr r < r.n) : walkM fr tg (r :: l) x = some (tg r + x - fr r) := by
  unfold walkM; rw [if_pos ⟨h1, h2⟩]
theorem walkM_miss {fr tg : Rg → Int} {r : Rg} {l : List Rg} {x : Int} (h : ¬ (fr r ≤ x ∧ x - fr r < r.n)) : walkM fr tg (r :: l) x = walkM fr tg l x := by
  rw [walkM, if_neg h]
/-- What an id is outside; within. -/
def toM (rs : List Rg) (x : Int) : Option Int := if mapF rs = 0 then walkM (·.i) (·.o) rs x else none
def fromM (rs : List Rg) (x : Int) : Option Int := if mapF rs = 0 then walkM (·.o) (·.i) rs x else none
def optV (o : Option Int) : Value := .tuple #[.int .i64 (o.getD 0), .bool o.isSome]
theorem ret_some {o : Option Int} {v : Int} (h : o = some v) : Ending.returned (.tuple #[.int .i64 v, .bool true]) = .returned (optV o) := by subst h; rfl
theorem ret_none {o : Option Int} (h : o = none) : Ending.returned (.tuple #[.int .i64 0, .bool false]) = .returned (optV o) := by subst h; rfl
theorem ret_opt {o o' : Option Int} (h : o = o') : Ending.returned (.tuple #[.int .i64 (o.getD 0), .bool o.isSome]) = .returned (optV o') := by subst h; rfl
theorem mF_all {rs : List Rg} : ∀ n k, mF rs k n = 0 → ∀ j, k ≤ j → j < k + n → stepM rs j = 0
  | 0, k, _, j, h1, h2 => by omega
  | n + 1, k, h, j, h1, h2 => by
    by_cases e : stepM rs k = 0
    · rw [mF_ok e] at h
      by_cases ej : j = k
      · subst ej; exact e
      · exact mF_all n (k + 1) h j (by omega) (by omega)
    · rw [mF_bad e] at h; exact absurd h e
theorem mapF_zero {rs : List Rg} (h : mapF rs = 0) : rs.length ≤ 4 ∧ ∀ j, j < rs.length → stepM rs j = 0 := by
  unfold mapF at h
  by_cases hl : 4 < rs.length
  · rw [if_pos hl] at h; omega
  · rw [if_neg hl] at h
    exact ⟨by omega, fun j hj => mF_all _ _ h j (Nat.zero_le _) (by omega)⟩
theorem mapF_bd {rs : List Rg} (h : mapF rs = 0) : ∀ r ∈ rs, r.bd := by
  intro r hr
  obtain ⟨k, hk⟩ := List.getElem?_of_mem hr
  have hl := (List.getElem?_eq_some_iff.1 hk).1
  exact bd_of (bnd_of_step hk ((mapF_zero h).2 k hl))
set_option maxRecDepth 100000 in
set_option maxHeartbeats 1000000 in
theorem acrossTo (a : Option Addr) (cap : Nat) (rs : List Rg) (x : Int) (w : World) (hl : rs.length ≤ 100) (hcap : rs.length ≤ cap) (hok : ∀ r ∈ rs, r.ok) (hx : I64 x) (h : Rgs w a rs) (o : Option Int) (HO : Hid ((if mapF rs = 0 then walkM (·.i) (·.o) rs x else none) = o)) :
    Calls Tryz.prog 107 #[.slice a rs.length cap, .int .i64 x, .func (.func 108) #[] #[]] w fun e w' => e = .returned (optV o) ∧ Below w.heap.size w w' := by
  obtain ⟨xa, xb⟩ := hx
  by_cases hf : mapF rs = 0
  · have HV : Hid (o = walkM (·.i) (·.o) rs x) := HO.out.symm.trans (if_pos hf)
    have HF : Hid (mapF rs = 0) := hf
    clear hf HO
    go_enter Tryz.func107, Tryz.ntmps107
    go_wp2_with fail
    refine (checkM_any a cap rs _ hl hcap hok h).mono ?_
    rintro e w1 ⟨rfl, hB1⟩
    rw [errV_nil HF.out]
    go_wp2_with fail
    go_loopw [17] (fun i wr => ∃ k : Nat, k ≤ rs.length ∧ i = .int .i64 k ∧ Hid (walkM (·.i) (·.o) rs x = walkM (·.i) (·.o) (rs.drop k) x) ∧ Below w.heap.size w wr) (fun i _ => rs.length - (intOf i).toNat)
    case atStart => exact ⟨0, Nat.zero_le _, rfl, rfl, hB1⟩
    case round =>
      obtain ⟨k, hk, rfl, HR, hB⟩ := hrel
      clear hB1
      by_cases hlt : k < rs.length
      · rcases h with rfl | ⟨b, off, rfl, hc⟩
        · simp at hlt
        · obtain ⟨r, hr⟩ : ∃ r, rs[k]? = some r := ⟨rs[k], by simp [hlt]⟩
          obtain ⟨hc0, hc1, hc2⟩ := hc k r hr
          have hbl : b < w.heap.size := World.block_lt_of_cell? _ _ hc0
          have hblr : b < wr.heap.size := Nat.lt_of_lt_of_le hbl hB.size
          obtain ⟨t1, t2, t3, t4, t5, t6, t7, t8⟩ := mapF_bd HF.out r (List.mem_of_getElem? hr)
          have HD : Hid (rs.drop k = r :: rs.drop (k + 1)) := by
            obtain ⟨hk', rfl⟩ := List.getElem?_eq_some_iff.1 hr
            exact List.drop_eq_getElem_cons hk'
          have hki : (k : Int) < (rs.length : Int) := by omega
          obtain ⟨ri, ro, rn⟩ := r
          dsimp only at *
          have q0 : wr.cell? ⟨b, off + k * 3, none⟩ = some (.int .i64 ri) := (hB.cell (p := ⟨b, off + k * 3, none⟩) hbl).trans hc0
          have q1 : wr.cell? ⟨b, off + k * 3 + 1, none⟩ = some (.int .i64 ro) := (hB.cell (p := ⟨b, off + k * 3 + 1, none⟩) hbl).trans hc1
          have q2 : wr.cell? ⟨b, off + k * 3 + 2, none⟩ = some (.int .i64 rn) := (hB.cell (p := ⟨b, off + k * 3 + 2, none⟩) hbl).trans hc2
          clear hc0 hc1 hc2 hr hc
          go_wp2_with fail
          refine (sidesTo ⟨ri, ro, rn⟩ _).mono ?_
          rintro e w2 ⟨rfl, hB2⟩
          have RB := (RBox.new wr ri ro rn).below hB2
          have hB3 := (hB.alloc hB.size (.cells #[.int .i64 ri, .int .i64 ro, .int .i64 rn] 83)).trans (hB2.mono (by have := hB.size; simp; omega))
          clear q0 q1 q2 hB2
          obtain ⟨y0, y1, y2, y3⟩ := id RB
          dsimp only at y0 y1 y2
          by_cases g1 : ri ≤ x
          · by_cases g2 : x - ri < rn
            · have HN : Hid (walkM (·.i) (·.o) rs x = some (ro + x - ri)) := HR.out.trans (by rw [HD.out]; exact walkM_hit g1 g2)
              go_wp2
              go_ret2
              exact ⟨ret_some (HV.out.trans HN.out), hB3⟩
            · have HN : Hid (walkM (·.i) (·.o) rs x = walkM (·.i) (·.o) (rs.drop (k + 1)) x) := HR.out.trans (by rw [HD.out]; exact walkM_miss (fun e => g2 e.2))
              have d2 : decide (x - ri < rn) = false := by simpa using g2
              go_wp2
              go_roundw
              case rel => exact ⟨k + 1, by omega, by go_num, HN.out, hB3⟩
              case measure => simp [intOf]; omega
          · have HN : Hid (walkM (·.i) (·.o) rs x = walkM (·.i) (·.o) (rs.drop (k + 1)) x) := HR.out.trans (by rw [HD.out]; exact walkM_miss (fun e => g1 e.1))
            have d1 : decide (ri ≤ x) = false := by simpa using g1
            go_wp2
            go_roundw
            case rel => exact ⟨k + 1, by omega, by go_num, HN.out, hB3⟩
            case measure => simp [intOf]; omega
      · have HN : Hid (walkM (·.i) (·.o) rs x = none) := HR.out.trans (by rw [List.drop_of_length_le (by omega)]; rfl)
        go_wp2
        go_ret2
        exact ⟨ret_none (HV.out.trans HN.out), hB⟩
  · have HV : Hid (o = none) := HO.out.symm.trans (if_neg hf)
    obtain ⟨n, hn⟩ : ∃ n, mapF rs = n := ⟨_, rfl⟩
    have HN : Hid (mapF rs = n) := hn
    have hn0 : n ≠ 0 := hn ▸ hf
    clear hn hf HO
    go_enter Tryz.func107, Tryz.ntmps107
    go_wp2_with fail
    refine (checkM_any a cap rs _ hl hcap hok h).mono ?_
    rintro e w1 ⟨rfl, hB1⟩
    rw [errV_of HN.out hn0]
    go_wp2
    go_ret2
    exact ⟨ret_none HV.out, hB1⟩
set_option maxHeartbeats 400000 in
theorem toHost_any (a : Option Addr) (cap : Nat) (rs : List Rg) (x : Int) (w : World) (hl : rs.length ≤ 100) (hcap : rs.length ≤ cap) (hok : ∀ r ∈ rs, r.ok) (hx : I64 x) (h : Rgs w a rs) :
    Calls Tryz.prog 90 #[.slice a rs.length cap, .int .i64 x] w fun e w' => e = .returned (optV (toM rs x)) ∧ Below w.heap.size w w' := by
  obtain ⟨o, HO⟩ : ∃ o, Hid (toM rs x = o) := ⟨_, rfl⟩
  go_enter Tryz.func90, Tryz.ntmps90
  go_wp2_with fail
  refine (acrossTo a cap rs x _ hl hcap hok hx h o HO).mono ?_
  rintro e w1 ⟨rfl, hB1⟩
  unfold optV
  go_wp2
  go_ret2
  exact ⟨ret_opt HO.out.symm, hB1⟩
end Go.Proofs.YtkjknbjjchdjlaaGreatDoor
namespace Go.Proofs.YtkjknbjjchdjlaaGreatDoor
open Go.RowKit
/-- A node with its ids on the other side. -/
def mvF (out : Bool) (us gs : List Rg) : Nd → Option Nd
  | .mk k m u g o at_ d ks => match (if out = true then toM us u else fromM us u), (if out = true then toM gs g else fromM gs g) with
    | some u', some g' => some (.mk k m u' g' o at_ d ks)
    | _, _ => none
end Go.Proofs.YtkjknbjjchdjlaaGreatDoor
