/-
  A BOX IN MEMORY: no walk. Blocks in which no list of a tree can lie; a box's eight cells; what a walk finds.
  A BOX'S RIGHTS: may, owns, take: the walks.
  ALONG: what stands between its rounds; no walk.
  A REGION THAT DRAWS ITS ORDER, BY WHAT IS KEPT; what is kept while Along lays what it saw into its rows.
  THE REGION IN WHICH Along LAYS WHAT IT SAW INTO ITS ROWS: each operation.
  A STACK'S UPPER: the walk.
  A STACK THAT IS CHANGED BY ITSELF, IN MEMORY; lay: the walk.
-/
import Derived.Test.YtkjknbjjchdjlaaGreatDoorUcX
import Derived.Deep.RegionHeld3
import Derived.Test.YtkjknbjjchdjlaaGreatDoorVeX
import Derived.Test.YtkjknbjjchdjlaaGreatDoorWlY
import Derived.Test.YtkjknbjjchdjlaaGreatDoorApX
import Derived.Test.YtkjknbjjchdjlaaGreatDoorWbY
import Derived.OrdersIn
import Derived.RangeFuncCalls
import Derived.Deep.MidRow
import Derived.Test.YtkjknbjjchdjlaaGreatDoorNnX
import Derived.Test.YtkjknbjjchdjlaaGreatDoorWaY
import Derived.Deep.RegionLaw
import Derived.Deep.Cut
import Derived.Deep.CutRange
import Derived.Test.YtkjknbjjchdjlaaGreatDoorNpX
import Derived.Deep.QuietTactic
import Derived.BigQuiet
import Derived.Lib.SplitLaws
import Derived.Shelf.Strings.Split
import Derived.Test.YtkjknbjjchdjlaaGreatDoorProg
namespace Go.Proofs.YtkjknbjjchdjlaaGreatDoor
open Go.RowKit
/-- A value with which a kid, or an attribute, may go on behind its name. -/
def Goes : Value → Prop
  | .int _ _ => True
  | .string _ => True
  | _ => False
/-- No name stands here with what would follow one. -/
def NoRow (c : Mem) (b : Nat) : Prop := ∀ o s v, c ⟨b, o, none⟩ = some (.string s) → c ⟨b, o + 1, none⟩ = some v → ¬ Goes v
theorem offS_at {c : Mem} {S : Nat → Bool} {q : Addr} {v : Value} (h : c q = some v) (hs : S q.block = false) : offS c S q = some v := by unfold offS; rw [if_neg (by simp [hs])]; exact h
theorem off_ne {c : Mem} {S : Nat → Bool} (hS : ∀ b, S b = true → NoRow c b) {b o : Nat} {s : ByteArray} {v : Value} (h1 : c ⟨b, o, none⟩ = some (.string s)) (h2 : c ⟨b, o + 1, none⟩ = some v) (hv : Goes v) : S b = false := by
  cases e : S b with
  | false => rfl
  | true => exact absurd hv (hS b e o s v h1 h2)
theorem kvm_off {c : Mem} {S : Nat → Bool} (hS : ∀ b, S b = true → NoRow c b) {a : Option Addr} {l : List Kv} (h : Kvm c a l) : Kvm (offS c S) a l := by
  rcases h with h | ⟨b, off, ha, hc⟩
  · exact .inl h
  · refine .inr ⟨b, off, ha, fun k x hk => ?_⟩
    have hb := off_ne hS (hc k x hk).1 (hc k x hk).2 trivial
    exact ⟨offS_at (hc k x hk).1 hb, offS_at (hc k x hk).2 hb⟩
theorem nat_off {c : Mem} {S : Nat → Bool} {b p : Nat} {x : Nd} {h : Hd} (hk : NAt c b p x h) (hs : S b = false) : NAt (offS c S) b p x h := by
  obtain ⟨k, m, u, g, o, at_, d, ks⟩ := x
  obtain ⟨h0, h1, h2, h3, h4, h5, h6, h7⟩ := hk
  exact ⟨offS_at h0 hs, offS_at h1 hs, offS_at h2 hs, offS_at h3 hs, offS_at h4 hs, offS_at h5 hs, offS_at h6 hs, offS_at h7 hs⟩
theorem nd_off {c : Mem} {S : Nat → Bool} (hS : ∀ b, S b = true → NoRow c b) {x : Nd} {h : Hd} (hn : NdV c x h) : NdV (offS c S) x h := by
  induction hn with
  | mk b off f ha hca hck hak hc _ ih =>
    refine .mk b off f (kvm_off hS ha) hca hck hak (fun i n x hi => ?_) ih
    have hk := hc i n x hi
    have hb : S b = false := by
      obtain ⟨k, m, u, g, o, at_, d, ks⟩ := x
      exact off_ne hS hk.1 hk.2.1 trivial
    exact ⟨offS_at hk.1 hb, nat_off hk.2 hb⟩
/-- No text stands here. -/
def NoStr (c : Mem) (b : Nat) : Prop := ∀ o s, c ⟨b, o, none⟩ ≠ some (.string s)
theorem NoStr.row {c : Mem} {b : Nat} (h : NoStr c b) : NoRow c b := fun o s _ e _ => absurd e (h o s)
theorem ns_off {c : Mem} {S : Nat → Bool} (hS : ∀ b, S b = true → NoStr c b) {a : Option Addr} {xs : List Nd} (h : NsV c a xs) : NsV (offS c S) a xs := by
  rcases h with h | ⟨b, off, ha, f, hc⟩
  · exact .inl h
  · refine .inr ⟨b, off, ha, f, fun i x hi => ?_⟩
    obtain ⟨h1, h2⟩ := hc i x hi
    refine ⟨nat_off h1 ?_, nd_off (fun b hb => (hS b hb).row) h2⟩
    obtain ⟨k, m, u, g, o, at_, d, ks⟩ := x
    cases e : S b with
    | false => rfl
    | true => exact absurd h1.2.2.2.2.2.2.1 (hS b e _ _)
/-- A box: its maps, its layers, who asks, its quota; and where its lists lie. -/
structure Bx where
  M : MapsV
  la : Option Addr
  lc : Nat
  xs : List Nd
  u : Int
  g : Int
  ca : Option Addr
  cc : Nat
  cs : List Int
  k : Int
  q : Int
def BxAt (c : Mem) (b : Nat) (B : Bx) : Prop :=
  c ⟨b, 0, none⟩ = some (.slice B.M.ua B.M.us.length B.M.uc) ∧ c ⟨b, 1, none⟩ = some (.slice B.M.ga B.M.gs.length B.M.gc) ∧ c ⟨b, 2, none⟩ = some (.slice B.la B.xs.length B.lc) ∧
  c ⟨b, 3, none⟩ = some (.int .i64 B.u) ∧ c ⟨b, 4, none⟩ = some (.int .i64 B.g) ∧ c ⟨b, 5, none⟩ = some (.slice B.ca B.cs.length B.cc) ∧ c ⟨b, 6, none⟩ = some (.int .i64 B.k) ∧ c ⟨b, 7, none⟩ = some (.int .i64 B.q)
def awayB (a : Option Addr) (b : Nat) : Prop := ∀ p, a = some p → p.block ≠ b
structure BxV (w : World) (b : Nat) (B : Bx) : Prop where
  cells : BxAt w.cell? b B
  end8 : ∀ o, 8 ≤ o → w.cell? ⟨b, o, none⟩ = none
  fz : ∀ o, w.frozen? ⟨b, o, none⟩ = false
  maps : MapsOk w B.M
  lay : NsV w.cell? B.la B.xs
  lcap : B.xs.length ≤ B.lc ∧ B.lc ≤ 9223372036854775807
  grp : Ints w B.ca B.cs
  gcap : B.cs.length ≤ B.cc ∧ B.cc ≤ 9223372036854775807
  au : awayB B.M.ua b
  ag : awayB B.M.ga b
  ac : B.cs = [] ∨ awayB B.ca b
theorem BxV.lt {w : World} {b : Nat} {B : Bx} (h : BxV w b B) : b < w.heap.size := World.block_lt_of_cell? _ _ h.cells.1
theorem BxAt.on {c c' : Mem} {b : Nat} {B : Bx} (h : BxAt c b B) (hb : MLe c c') : BxAt c' b B :=
  ⟨hb _ _ h.1, hb _ _ h.2.1, hb _ _ h.2.2.1, hb _ _ h.2.2.2.1, hb _ _ h.2.2.2.2.1, hb _ _ h.2.2.2.2.2.1, hb _ _ h.2.2.2.2.2.2.1, hb _ _ h.2.2.2.2.2.2.2⟩
theorem BxV.below {w w' : World} {b : Nat} {B : Bx} (h : BxV w b B) (hb : Below w.heap.size w w') : BxV w' b B where
  cells := h.cells.on (mle_below hb)
  end8 := fun o ho => (hb.cell (p := ⟨b, o, none⟩) h.lt).trans (h.end8 o ho)
  fz := fun o => (hb.frozen (p := ⟨b, o, none⟩) h.lt).trans (h.fz o)
  maps := h.maps.below hb
  lay := h.lay.on (mle_below hb)
  lcap := h.lcap
  grp := h.grp.below hb
  gcap := h.gcap
  au := h.au
  ag := h.ag
  ac := h.ac
theorem BxV.noStr {w : World} {b : Nat} {B : Bx} (h : BxV w b B) : NoStr w.cell? b := fun o s e => by
  obtain ⟨h0, h1, h2, h3, h4, h5, h6, h7⟩ := h.cells
  rcases Nat.lt_or_ge o 8 with ho | ho
  · rcases (by omega : o = 0 ∨ o = 1 ∨ o = 2 ∨ o = 3 ∨ o = 4 ∨ o = 5 ∨ o = 6 ∨ o = 7) with q | q | q | q | q | q | q | q <;> subst q
    · rw [h0] at e; cases e
    · rw [h1] at e; cases e
    · rw [h2] at e; cases e
    · rw [h3] at e; cases e
    · rw [h4] at e; cases e
    · rw [h5] at e; cases e
    · rw [h6] at e; cases e
    · rw [h7] at e; cases e
  · rw [h.end8 o ho] at e; cases e
theorem BxV.hid {w : World} {b : Nat} {B : Bx} (h : BxV w b B) : NsV (offS w.cell? (fun k => k == b)) B.la B.xs := ns_off (fun k hk => by
  have : k = b := by simpa using hk
  rw [this]; exact h.noStr) h.lay
end Go.Proofs.YtkjknbjjchdjlaaGreatDoor
namespace Go.Proofs.YtkjknbjjchdjlaaGreatDoor
open Go.RowKit
theorem blwV {w w' : World} (hb : Below w.heap.size w w') {q : Addr} {v : Value} (h : w.cell? q = some v) : w'.cell? q = some v := mle_below hb q v h
end Go.Proofs.YtkjknbjjchdjlaaGreatDoor
namespace Go.Proofs.YtkjknbjjchdjlaaGreatDoor
open Go.RowKit Go.Shelf
def flN : List Fl → List Value
  | [] => []
  | f :: r => ndL f.x f.h ++ flN r
theorem flN_get : ∀ (F : List Fl) (i : Nat) (f : Fl), F[i]? = some f → ∀ q u, (ndL f.x f.h)[q]? = some u → (flN F)[i * 8 + q]? = some u
  | [], i, f, hi => by simp at hi
  | g :: r, 0, f, hi => by
    simp at hi
    subst hi
    intro q u hq
    have hl := (List.getElem?_eq_some_iff.1 hq).1
    rw [Nat.zero_mul, Nat.zero_add, flN, List.getElem?_append_left hl]
    exact hq
  | g :: r, i + 1, f, hi => by
    intro q u hq
    have := flN_get r i f (by simpa using hi) q u hq
    rw [flN, List.getElem?_append_right (by simp [ndL_length]; omega), ndL_length, show (i + 1) * 8 + q - 8 = i * 8 + q by omega]
    exact this
end Go.Proofs.YtkjknbjjchdjlaaGreatDoor
namespace Go.Proofs.YtkjknbjjchdjlaaGreatDoor
open Go.RowKit Go.Shelf
/-- How many are still to come. -/
def left (l : Array Bool) : Nat := l.toList.count false
theorem left_set {l : Array Bool} {i : Nat} (h : l.getD i true = false) : left (l.setIfInBounds i true) + 1 = left l := by
  unfold left
  have hi : i < l.size := by
    rcases Nat.lt_or_ge i l.size with h' | h'
    · exact h'
    · simp [Array.getD, Nat.not_lt.2 h'] at h
  have he : l[i] = false := by simpa [Array.getD, hi] using h
  rw [Array.toList_setIfInBounds]
  have e : l.toList[i]? = some false := by simp [hi, he]
  generalize l.toList = t at e
  clear h he hi
  induction t generalizing i with
  | nil => simp at e
  | cons x t ih =>
    cases i with
    | zero => simp at e; subst e; simp
    | succ i =>
      have := ih (i := i) (by simpa using e)
      rw [List.set_cons_succ, List.count_cons, List.count_cons]
      omega
/-- What each operation keeps, whichever may come up, holds at the end. -/
theorem anyIn_kept {F : Fence} {n : Nat} {P : Program} {md : Region.Mode} {ops : Array Oper} {Q : Exit → Act → World → Prop} (I : Array Bool → Act → World → Prop)
    (hstep : ∀ listed a w i, I listed a w → i ∈ Region.ready md ops listed → wpOpIn F n P ops Q i (I (listed.setIfInBounds i true)) a w)
    (hfin : ∀ listed a w, I listed a w → Region.ready md ops listed = [] → Q .normal a w) :
    ∀ (fuel : Nat) (listed : Array Bool) (a : Act) (w : World), left listed ≤ fuel → I listed a w → wpAnyIn F n P md ops Q fuel listed a w
  | 0, listed, a, w, hl, h => by
    have e : Region.ready md ops listed = [] := by
      cases hr : Region.ready md ops listed with
      | nil => rfl
      | cons i r =>
        have hi : i ∈ Region.ready md ops listed := by rw [hr]; exact List.mem_cons_self ..
        have := left_set (mem_ready.1 hi).1
        omega
    exact ⟨e, hfin _ _ _ h e⟩
  | fuel + 1, listed, a, w, hl, h => by
    refine ⟨hfin _ _ _ h, fun i hi => ?_⟩
    refine wpOpIn_mono (fun a' w' h' => anyIn_kept I hstep hfin fuel _ a' w' ?_ h') (hstep _ _ _ _ h hi)
    have := left_set (mem_ready.1 hi).1
    omega
end Go.Proofs.YtkjknbjjchdjlaaGreatDoor
namespace Go.Proofs.YtkjknbjjchdjlaaGreatDoor
open Go.RowKit Go.Shelf
theorem opIn_of {l n : Nat} {P : Program} {ops : Array Oper} {Q : Exit → Act → World → Prop} {i : Nat} {o : Oper} {K : Act → World → Prop} {a : Act} {w : World} (ho : ops[i]? = some o) (hgd : o.guard = none) (hnd : ∀ c, o.op ≠ .defer c) (hrow : ∀ r args w', (execOp a.eval o).run P w ≠ .ok (.row r args) w')
    (h : o.wp P a w K Q) : wpOpIn (Fence.wide.inRound l) n P ops Q i K a w := by
  unfold wpOpIn
  rw [ho]
  have hw : Region.wanted o (yielded ops a.tmps) = true := by simp [Region.wanted, hgd]
  simp only [hw, if_true]
  refine ⟨fun f _ => trivial, ?_⟩
  unfold Oper.wp at h
  rw [Fence.inRound_round, Oper.semAt_some _ _ _ hnd]
  generalize (execOp a.eval o).run P w = r at *
  cases r with
  | ok x w' =>
    cases x <;> simp only [Oper.upon, Oper.uponIn] at h ⊢
    case value => exact h
    case skip => exact h
    case defer => exact h
    case enter f args => exact ⟨fun e => by simp [Fence.inRound, Fence.wide] at e, CallsIn.inRound l (callsIn_wide.2 h)⟩
    case row => exact absurd rfl (hrow _ _ _)
  | halt x w' => cases x <;> simp only [Oper.upon, Oper.uponIn] at h ⊢ <;> exact h
theorem Tryz.infoNd : (Tryz.prog.info? 102).map (fun i => (i.zero, i.size, i.bytes)) = some (some (.agg #[.int .i64 0, .int .i64 0, .int .i64 0, .int .i64 0, .bool false, .slice none 0 0, .string ⟨#[]⟩, .slice none 0 0]), 8, 104) := by kernel_rfl
theorem Tryz.infoInt : (Tryz.prog.info? 3).map (fun i => (i.zero, i.size, i.bytes)) = some (some (.int .i64 0), 1, 8) := by kernel_rfl
end Go.Proofs.YtkjknbjjchdjlaaGreatDoor
namespace Go.Proofs.YtkjknbjjchdjlaaGreatDoor
open Go.RowKit
set_option maxRecDepth 100000 in
set_option maxHeartbeats 2000000 in
theorem upper_any {w : World} {b : Nat} {la : Option Addr} {lc : Nat} {x : Nd} {rest : List Nd} (h2 : w.cell? ⟨b, 2, none⟩ = some (.slice la (x :: rest).length lc)) (hn : NsV w.cell? la (x :: rest)) :
    Calls Tryz.prog 48 #[.pointer (some ⟨b, 0, none⟩)] w fun e w' => (∃ h, e = .returned (ndV x h) ∧ NdV w.cell? x h ∧ NdV w'.cell? x h) ∧ Below w.heap.size w w' := by
  obtain ⟨nb, no, rfl, f, hf⟩ : ∃ nb off, la = some ⟨nb, off, none⟩ ∧ ∃ f : Nat → Hd, ∀ i y, (x :: rest)[i]? = some y → NAt w.cell? nb (off + i * 8) y (f i) ∧ NdV w.cell? y (f i) := by
    rcases hn with e | e
    · cases e
    · exact e
  obtain ⟨hA, hN⟩ := hf 0 x rfl
  generalize f 0 = hd at hA hN
  clear hf
  rw [Nat.zero_mul, Nat.add_zero] at hA
  obtain ⟨k, m, u, g, o, at_, d, ks⟩ := x
  have NB := NBw.zero w
  have hb : Below w.heap.size w (w.alloc (.cells #[.int .i64 0, .int .i64 0, .int .i64 0, .int .i64 0, .bool false, .slice none 0 0, .string ⟨#[]⟩, .slice none 0 0] 102)) := (Below.refl _ _).alloc (Nat.le_refl _) _
  have hA1 := hA.on (mle_below hb)
  obtain ⟨n0, n1, n2, n3, n4, n5, n6, n7⟩ := hA1
  have c2 := blwV hb h2
  have hlp : (0 : Int) < (((.mk k m u g o at_ d ks : Nd) :: rest).length : Int) := by rw [List.length_cons]; omega
  generalize ((.mk k m u g o at_ d ks : Nd) :: rest).length = ln at c2 hlp
  go_enter Tryz.func48, Tryz.ntmps48
  go_upto_region 1 with fail
  have HB : Hid _ := hb
  have HN : Hid _ := hN
  obtain ⟨z0, z1, z2, z3, z4, z5, z6, z7⟩ := NB.1
  have fz := NB.2
  have y0 := fz 0
  have y1 := fz 1
  have y2 := fz 2
  have y3 := fz 3
  have y4 := fz 4
  have y5 := fz 5
  have y6 := fz 6
  have y7 := fz 7
  clear hb hN NB fz hA h2 hn
  generalize w.alloc (.cells #[.int .i64 0, .int .i64 0, .int .i64 0, .int .i64 0, .bool false, .slice none 0 0, .string ⟨#[]⟩, .slice none 0 0] 102) = w1 at *
  have hle : w.heap.size ≤ w.heap.size := Nat.le_refl _
  have HBW : Hid _ := (((((((HB.out.setCell (p := ⟨w.heap.size, 0, none⟩) hle (.int .i64 k)).setCell (p := ⟨w.heap.size, 1, none⟩) hle (.int .i64 m)).setCell (p := ⟨w.heap.size, 2, none⟩) hle (.int .i64 u)).setCell (p := ⟨w.heap.size, 3, none⟩) hle (.int .i64 g)).setCell (p := ⟨w.heap.size, 4, none⟩) hle (.bool o)).setCell (p := ⟨w.heap.size, 5, none⟩) hle (.slice hd.aa at_.length hd.ca)).setCell (p := ⟨w.heap.size, 6, none⟩) hle (.string d)).setCell (p := ⟨w.heap.size, 7, none⟩) hle (.slice hd.ak ks.length hd.ck)
  go_wp2
  refine bodyPost_ret (v := ndV (.mk k m u g o at_ d ks) hd) ?_ rfl ⟨⟨hd, rfl, HN.out, HN.out.on (mle_below HBW.out)⟩, HBW.out⟩
  simp [results, Tryz.results48, go_sem, z0, z1, z2, z3, z4, z5, z6, z7, ndV]
end Go.Proofs.YtkjknbjjchdjlaaGreatDoor
namespace Go.Proofs.YtkjknbjjchdjlaaGreatDoor
open Go.RowKit
theorem st8_offS {w : World} {b p : Nat} {x : Nd} {hd : Hd} : MLe (offS w.cell? (fun k => k == b)) (st8 w b p x hd).cell? := fun q v hq => by
  unfold offS at hq
  split at hq
  · cases hq
  · rename_i hne
    have hne : q.block ≠ b := by simpa using hne
    rw [st8_far (fun j _ e => hne (by rw [e]))]
    exact hq
end Go.Proofs.YtkjknbjjchdjlaaGreatDoor
