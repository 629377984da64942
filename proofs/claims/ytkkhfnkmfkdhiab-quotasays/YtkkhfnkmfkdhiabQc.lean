/-
  THE DOCUMENT's POOL: at, Left, Of, Take: the walks.
-/
import Derived.Test.YtkkhfnkmfkdhiabNp
import Derived.Test.YtkkhfnkmfkdhiabQa
import Derived.Test.YtkkhfnkmfkdhiabAg
import Derived.Test.YtkkhfnkmfkdhiabWi
import Derived.Deep.RegionHeld3
import Derived.Deep.Cut
import Derived.Deep.RegionLaw
namespace Go.Proofs.Ytkkhfnkmfkdhiab
open Go.RowKit Go.Maps

def whoC (L : Ppl) : List Value := L.map fun p => .int .i64 p.1
def numC (L : Ppl) : List Value := L.map fun p => .int .i64 p.2
theorem whoC_one (L : Ppl) : ∀ u ∈ whoC L, u.oneCell' = true := by
  intro u hu
  obtain ⟨p, _, rfl⟩ := List.mem_map.1 hu
  rfl
theorem numC_one (L : Ppl) : ∀ u ∈ numC L, u.oneCell' = true := by
  intro u hu
  obtain ⟨p, _, rfl⟩ := List.mem_map.1 hu
  rfl
/-- The document's pool in memory. -/
structure QB (w : World) (qb : Nat) (room : Int) (L : Ppl) (vw vn : Value) : Prop where
  c0 : w.cell? ⟨qb, 0, none⟩ = some (.int .i64 room)
  c1 : w.cell? ⟨qb, 1, none⟩ = some vw
  c2 : w.cell? ⟨qb, 2, none⟩ = some vn
  f1 : w.frozen? ⟨qb, 1, none⟩ = false
  f2 : w.frozen? ⟨qb, 2, none⟩ = false
  r1 : w.ownsRow (qb + 1) 3 1 vw L.length (whoC L)
  r2 : w.ownsRow (qb + 1) 3 1 vn L.length (numC L)
  ap : vn.ownBlock = none ∨ vn.ownBlock ≠ vw.ownBlock
theorem QB.lt {w : World} {qb : Nat} {room : Int} {L : Ppl} {vw vn : Value} (h : QB w qb room L vw vn) : qb < w.heap.size := World.block_lt_of_cell? _ _ h.c0
theorem QB.mv {S : Nat → Prop} {w w' : World} {qb : Nat} {room : Int} {L : Ppl} {vw vn : Value} (h : QB w qb room L vw vn) (hm : Mv S w w') (hS : ∀ k, S k → k < qb) : QB w' qb room L vw vn := by
  have hl := h.lt
  have hn : ¬ S qb := fun e => by have := hS _ e; omega
  have hr : ∀ {v : Value} {xs : List Value}, w.ownsRow (qb + 1) 3 1 v L.length xs → w'.ownsRow (qb + 1) 3 1 v L.length xs := fun {v xs} hr => by
    obtain ⟨h1, h2⟩ := hr
    refine ⟨h1, ?_⟩
    rcases h2 with h2 | ⟨g, cap, cur, hv, hb, hg, r⟩
    · exact .inl h2
    · refine .inr ⟨g, cap, cur, hv, hb, ?_, r⟩
      refine (hm.block g ?_ (fun e => by have := hS _ e; omega)).trans hg
      by_cases hlt : g < w.heap.size
      · exact hlt
      · rw [Array.getElem?_eq_none (by omega)] at hg; cases hg
  exact ⟨(hm.cell (p := ⟨qb, 0, none⟩) hl hn).trans h.c0, (hm.cell (p := ⟨qb, 1, none⟩) hl hn).trans h.c1, (hm.cell (p := ⟨qb, 2, none⟩) hl hn).trans h.c2, (hm.frozen (p := ⟨qb, 1, none⟩) hl hn).trans h.f1, (hm.frozen (p := ⟨qb, 2, none⟩) hl hn).trans h.f2, hr h.r1, hr h.r2, h.ap⟩
def atF (L : Ppl) (who : Int) : Int := if (fnd L who).isSome = true then ix L who else -1

set_option maxRecDepth 100000 in
set_option maxHeartbeats 1000000 in
theorem rat_any {W : World} {qb : Nat} {room : Int} {L : Ppl} {vw vn : Value} (h : QB W qb room L vw vn) (who : Int) (_hL : L.length ≤ 1000) :
    Calls Try.prog 93 #[.pointer (some ⟨qb, 0, none⟩), .int .i64 who] W fun e w' => e = .returned (.int .i64 (atF L who)) ∧ W = w' := by
  obtain ⟨A, HAF⟩ : ∃ A, Hid (atF L who = A) := ⟨_, rfl⟩
  rw [HAF.out]
  obtain ⟨a, cap, rfl, hle, hcap, hf⟩ := owns_cells h.r1
  have h1 := h.c1
  have HF : Hid _ := hf
  clear h hf
  go_enter Try.func93, Try.ntmps93
  go_wp2
  go_loopw [5] (fun i wr => ∃ j : Nat, j ≤ L.length ∧ i = .int .i64 j ∧ Hid (∀ (k : Nat) p, k < j → L[k]? = some p → p.1 ≠ who) ∧ wr = W) (fun i _ => L.length - (intOf i).toNat)
  case atStart => exact ⟨0, Nat.zero_le _, rfl, fun k p hk => by omega, rfl⟩
  case round =>
    obtain ⟨j, hj, rfl, HN, rfl⟩ := hrel
    by_cases hjl : j < L.length
    · have hji : (j : Int) < (L.length : Int) := by omega
      rcases HF.out with ⟨_, e0, _⟩ | ⟨g, rfl, hg1, hg2, hc, _⟩
      · omega
      obtain ⟨p, hp⟩ : ∃ p, L[j]? = some p := ⟨L[j], by simp [hjl]⟩
      have q0 := hc j (.int .i64 p.1) (by simp [whoC, hp])
      clear hc hg1 hg2
      by_cases hpe : p.1 = who
      · have HA2 : Hid (A = (j : Int)) := by
          show _ = _
          have hp' : L[j]? = some (who, p.2) := by rw [hp, ← hpe]
          rw [← HAF.out, atF, fnd_hit hp' HN.out, ix_hit hp' HN.out]; rfl
        have be : (p.1 == who) = true := by simpa using hpe
        go_wp2
        go_ret
        exact ⟨by rw [HA2.out]; rfl, rfl⟩
      · have be : (p.1 == who) = false := by simpa using hpe
        have HN2 : Hid (∀ (k : Nat) q, k < j + 1 → L[k]? = some q → q.1 ≠ who) := fun k q hk hq => by
          by_cases e : k = j
          · subst e; rw [hp] at hq; cases hq; exact hpe
          · exact HN.out k q (by omega) hq
        clear hp
        go_wp2
        go_roundw
        case rel => exact ⟨j + 1, by omega, by go_num, HN2.out, by first | rfl | trivial⟩
        case measure => simp [intOf]; omega
    · have hji : decide ((j : Int) < (L.length : Int)) = false := decide_eq_false (by omega)
      have HA2 : Hid (A = -1) := by
        show _ = _
        rw [← HAF.out, atF, fnd_none fun k p hk => HN.out k p (by have := (List.getElem?_eq_some_iff.1 hk).1; omega) hk]; rfl
      go_wp2
      go_ret
      exact ⟨by rw [HA2.out]; rfl, rfl⟩

set_option maxRecDepth 100000 in
set_option maxHeartbeats 1000000 in
theorem rleft_any {W : World} {qb : Nat} {room : Int} {L : Ppl} {vw vn : Value} (h : QB W qb room L vw vn) (_hL : L.length ≤ 1000) (hp : Pos L) (hr0 : sm L ≤ room) (hr : room ≤ 100000) :
    Calls Try.prog 60 #[.pointer (some ⟨qb, 0, none⟩)] W fun e w' => e = .returned (.int .i64 (room - sm L)) ∧ W = w' := by
  obtain ⟨A, HAF⟩ : ∃ A, Hid (room - sm L = A) := ⟨_, rfl⟩
  rw [HAF.out]
  obtain ⟨a, cap, rfl, hle, hcap, hf⟩ := owns_cells h.r2
  have h0 := h.c0
  have h2 := h.c2
  have HF : Hid _ := hf
  have HP : Hid (Pos L) := hp
  have HS : Hid (sm L ≤ room) := hr0
  clear h hf hp hr0
  go_enter Try.func60, Try.ntmps60
  go_wp2
  go_loopw [4, 3] (fun i s wr => ∃ (j : Nat) (z : Int), j ≤ L.length ∧ i = .int .i64 j ∧ s = .int .i64 z ∧ Hid (z = room - sm (L.take j)) ∧ wr = W) (fun i _ _ => L.length - (intOf i).toNat)
  case atStart => exact ⟨0, room, Nat.zero_le _, rfl, rfl, by show _ = _; simp [sm], rfl⟩
  case round =>
    obtain ⟨j, z, hj, rfl, rfl, HZ, rfl⟩ := hrel
    by_cases hjl : j < L.length
    · have hji : (j : Int) < (L.length : Int) := by omega
      rcases HF.out with ⟨_, e0, _⟩ | ⟨g, rfl, hg1, hg2, hc, _⟩
      · omega
      obtain ⟨p, hp⟩ : ∃ p, L[j]? = some p := ⟨L[j], by simp [hjl]⟩
      have q0 := hc j (.int .i64 p.2) (by simp [numC, hp])
      clear hc hg1 hg2
      have hs1 := sm_take (i := j) HP.out
      have hs2 := sm_take (i := j + 1) HP.out
      have hs3 := sm_take_succ hp
      have hs4 := HS.out
      have hs5 := HP.out p (List.mem_of_getElem? hp)
      have hz : 0 ≤ z ∧ z ≤ 100000 ∧ 0 ≤ p.2 ∧ p.2 ≤ 100000 ∧ p.2 ≤ z := by have := HZ.out; omega
      have HZ2 : Hid (z - p.2 = room - sm (L.take (j + 1))) := by show _ = _; rw [hs3, HZ.out]; omega
      clear hs1 hs2 hs3 hs4 hs5 hp HZ
      obtain ⟨hz1, hz2, hz3, hz4, hz5⟩ := hz
      generalize p.2 = pn at q0 hz3 hz4 hz5 HZ2
      go_wp2
      go_roundw
      case rel => exact ⟨j + 1, z - pn, by omega, by go_num, rfl, HZ2.out, by first | rfl | trivial⟩
      case measure => simp [intOf]; omega
    · have hji : decide ((j : Int) < (L.length : Int)) = false := decide_eq_false (by omega)
      have HA2 : Hid (A = z) := by
        show _ = _
        rw [← HAF.out, HZ.out, List.take_of_length_le (by omega)]
      go_wp2
      go_ret
      exact ⟨by rw [HA2.out]; rfl, rfl⟩

set_option maxRecDepth 100000 in
set_option maxHeartbeats 1000000 in
theorem rof_any {W : World} {qb : Nat} {room : Int} {L : Ppl} {vw vn : Value} (h : QB W qb room L vw vn) (who : Int) (hL : L.length ≤ 1000) :
    Calls Try.prog 58 #[.pointer (some ⟨qb, 0, none⟩), .int .i64 who] W fun e w' => e = .returned (.tuple #[.int .i64 ((fnd L who).getD 0), .bool (fnd L who).isSome]) ∧ W = w' := by
  have HC : Hid (Calls Try.prog 93 #[.pointer (some ⟨qb, 0, none⟩), .int .i64 who] W fun e w' => e = .returned (.int .i64 (atF L who)) ∧ W = w') := rat_any h who hL
  obtain ⟨a, cap, rfl, hle, hcap, hf⟩ := owns_cells h.r2
  have h2 := h.c2
  have HF : Hid _ := hf
  clear h hf
  go_enter Try.func58, Try.ntmps58
  go_wp2_with fail
  refine Calls.mono HC.out ?_
  rintro e w' ⟨rfl, rfl⟩
  cases hfn : fnd L who with
  | none =>
    have e : atF L who = -1 := by unfold atF; rw [hfn]; rfl
    rw [e]
    have HFN : Hid (fnd L who = none) := hfn
    clear e hfn HC
    go_wp2
    go_ret2
    exact ⟨by rw [HFN.out]; rfl, rfl⟩
  | some z =>
    have e : atF L who = (ix L who : Int) := by unfold atF; rw [hfn]; rfl
    rw [e]
    have hx := ix_get hfn
    have hxl := (List.getElem?_eq_some_iff.1 hx).1
    generalize ix L who = j at hx hxl
    rcases HF.out with ⟨_, e0, _⟩ | ⟨g, rfl, hg1, hg2, hc, _⟩
    · omega
    have q0 := hc j (.int .i64 z) (by simp [numC, hx])
    have hj0 : decide ((j : Int) < 0) = false := decide_eq_false (by omega)
    have HFN : Hid (fnd L who = some z) := hfn
    clear e hfn HC hc hx hg1 hg2
    go_wp2
    go_ret2
    exact ⟨by rw [HFN.out]; rfl, rfl⟩
/-- A box of three cells, two of which may be written. -/
def B3 (w : World) (b : Nat) (x y z : Value) : Prop := w.cell? ⟨b, 0, none⟩ = some x ∧ w.cell? ⟨b, 1, none⟩ = some y ∧ w.cell? ⟨b, 2, none⟩ = some z ∧ w.frozen? ⟨b, 1, none⟩ = false ∧ w.frozen? ⟨b, 2, none⟩ = false
theorem B3.lt {w : World} {b : Nat} {x y z : Value} (h : B3 w b x y z) : b < w.heap.size := World.block_lt_of_cell? _ _ h.1
theorem B3.kept {w w' : World} {b : Nat} {x y z : Value} {row : Option Nat} (h : B3 w b x y z) (hg : w.grownBy w' row) (hne : some b ≠ row) : B3 w' b x y z := by
  have hl := hg.block b h.lt hne
  obtain ⟨h0, h1, h2, h3, h4⟩ := h
  exact ⟨(World.cell?_of_block (w := w) hl).trans h0, (World.cell?_of_block (w := w) hl).trans h1, (World.cell?_of_block (w := w) hl).trans h2, (World.frozen?_of_block (w := w) hl).trans h3, (World.frozen?_of_block (w := w) hl).trans h4⟩
theorem B3.alloc {w : World} {b : Nat} {x y z : Value} (h : B3 w b x y z) (o : Obj) : B3 (w.alloc o) b x y z := h.kept (World.grownBy_alloc w o none) (by simp)
theorem B3.set1 {w : World} {b : Nat} {x y z : Value} (h : B3 w b x y z) (y' : Value) : B3 (w.setCell ⟨b, 1, none⟩ y') b x y' z := by
  obtain ⟨h0, h1, h2, h3, h4⟩ := h
  exact ⟨(World.cell?_setCell_other _ _ _ _ (by simp)).trans h0, World.cell?_setCell_same _ _ _ h1, (World.cell?_setCell_other _ _ _ _ (by simp)).trans h2, by simpa using h3, by simpa using h4⟩
theorem B3.set2 {w : World} {b : Nat} {x y z : Value} (h : B3 w b x y z) (z' : Value) : B3 (w.setCell ⟨b, 2, none⟩ z') b x y z' := by
  obtain ⟨h0, h1, h2, h3, h4⟩ := h
  exact ⟨(World.cell?_setCell_other _ _ _ _ (by simp)).trans h0, (World.cell?_setCell_other _ _ _ _ (by simp)).trans h1, World.cell?_setCell_same _ _ _ h2, by simpa using h3, by simpa using h4⟩
theorem QB.b3 {w : World} {qb : Nat} {room : Int} {L : Ppl} {vw vn : Value} (h : QB w qb room L vw vn) : B3 w qb (.int .i64 room) vw vn := ⟨h.c0, h.c1, h.c2, h.f1, h.f2⟩
theorem QB.of {w : World} {qb : Nat} {room : Int} {L : Ppl} {vw vn : Value} (h : B3 w qb (.int .i64 room) vw vn) (r1 : w.ownsRow (qb + 1) 3 1 vw L.length (whoC L)) (r2 : w.ownsRow (qb + 1) 3 1 vn L.length (numC L)) (ap : vn.ownBlock = none ∨ vn.ownBlock ≠ vw.ownBlock) : QB w qb room L vw vn := ⟨h.1, h.2.1, h.2.2.1, h.2.2.2.1, h.2.2.2.2, r1, r2, ap⟩
theorem row_ne {w : World} {b : Nat} {v : Value} {n : Nat} {xs : List Value} (h : w.ownsRow (b + 1) 3 1 v n xs) : some b ≠ v.ownBlock := fun e => by have := (h.lt _ e.symm).1; omega
theorem ne_flip {a b : Option Nat} (h : a = none ∨ a ≠ b) : b = none ∨ b ≠ a := by
  rcases h with e | e
  · cases b with
    | none => exact .inl rfl
    | some s => exact .inr (by rw [e]; simp)
  · exact .inr (fun q => e q.symm)
/-- The blocks of the document's pool. -/
def QS (qb : Nat) (vw vn : Value) : Nat → Prop := fun k => k = qb ∨ some k = vw.ownBlock ∨ some k = vn.ownBlock
theorem one_int (w : World) (z : Int) (t : TypeId) : ∀ j u, [Value.int .i64 z][j]? = some u → (w.alloc (.cells #[.int .i64 z] t)).cell? ((⟨w.heap.size, 0, none⟩ : Addr).add j) = some u := by
  intro j u hj
  rw [addr_add, Nat.zero_add]
  refine (World.cell?_alloc_at _ _ _ _ rfl).trans ?_
  cases j with
  | zero => simpa using hj
  | succ j => simp at hj
theorem one_intS (w : World) (a : Addr) (v : Value) (z : Int) (t : TypeId) : ∀ j u, [Value.int .i64 z][j]? = some u → ((w.setCell a v).alloc (.cells #[.int .i64 z] t)).cell? ((⟨w.heap.size, 0, none⟩ : Addr).add j) = some u := by
  have h := one_int (w.setCell a v) z t
  have e : (w.setCell a v).heap.size = w.heap.size := by simp [World.setCell]
  rwa [e] at h
theorem Try.infoI : (Try.prog.info? 3).map (fun i => (i.zero, i.size, i.bytes)) = some (some (.int .i64 0), 1, 8) := by kernel_rfl

set_option maxRecDepth 100000 in
set_option maxHeartbeats 1000000 in
theorem rtake_any {W : World} {qb : Nat} {room : Int} {L : Ppl} {vw vn : Value} (h : QB W qb room L vw vn) (who k : Int) (hL : L.length ≤ 1000) (hp : Pos L) (hr0 : sm L ≤ room) (hr : room ≤ 100000) :
    Calls Try.prog 56 #[.pointer (some ⟨qb, 0, none⟩), .int .i64 who, .int .i64 k] W fun e w' => e = .returned (.int .i64 (tkF (room - sm L) L who k)) ∧ Mv (QS qb vw vn) W w' ∧ ∃ vw' vn', QB w' qb room (tkL (room - sm L) L who k) vw' vn' := by
  have HC1 : Hid (Calls Try.prog 93 #[.pointer (some ⟨qb, 0, none⟩), .int .i64 who] W fun e w' => e = .returned (.int .i64 (atF L who)) ∧ W = w') := rat_any h who hL
  have HC2 : Hid (Calls Try.prog 60 #[.pointer (some ⟨qb, 0, none⟩)] W fun e w' => e = .returned (.int .i64 (room - sm L)) ∧ W = w') := rleft_any h hL hp hr0 hr
  obtain ⟨i0, hi0, hz0, hz1, hz2⟩ := info_three Try.infoI
  have HI0 : Hid _ := hi0
  have HZ0 : Hid _ := hz0
  have HZ1 : Hid _ := hz1
  have HZ2 : Hid _ := hz2
  have HQ : Hid (QB W qb room L vw vn) := h
  have hs := sm_pos hp
  generalize hle : room - sm L = left at *
  have hle1 : 0 ≤ left ∧ left ≤ 100000 := by omega
  clear hi0 hz0 hz1 hz2 h hp hr0 hs hle
  obtain ⟨F, HF⟩ : ∃ F, Hid (tkF left L who k = F) := ⟨_, rfl⟩
  obtain ⟨K, HK⟩ : ∃ K, Hid (tkL left L who k = K) := ⟨_, rfl⟩
  rw [HF.out, HK.out]
  go_enter Try.func56, Try.ntmps56
  by_cases hk0 : k < 0
  · have e : F = 1 := by rw [← HF.out]; exact if_pos hk0
    have e2 : K = L := by rw [← HK.out]; exact if_neg (by rw [HF.out, e]; decide)
    have b1 : decide (k < 0) = true := decide_eq_true hk0
    clear HC1 HC2
    go_wp2
    go_ret
    exact ⟨by rw [e]; rfl, Mv.refl _ _, vw, vn, by rw [e2]; exact HQ.out⟩
  have b1 : decide (k < 0) = false := decide_eq_false hk0
  have HK0 : Hid (¬ k < 0) := hk0
  go_wp2_with fail
  refine Calls.mono HC1.out ?_
  rintro e w' ⟨rfl, rfl⟩
  clear HC1
  cases hf : fnd L who with
  | some z =>
    have e : F = 6 := by rw [← HF.out, tkF, if_neg (by have := HK0.out; omega), hf]; rfl
    have e2 : K = L := by rw [← HK.out]; exact if_neg (by rw [HF.out, e]; decide)
    have ea : atF L who = (ix L who : Int) := by unfold atF; rw [hf]; rfl
    rw [ea]
    generalize ix L who = j
    have hj0 : decide ((0 : Int) ≤ (j : Int)) = true := decide_eq_true (by omega)
    have HE : Hid (F = 6 ∧ K = L) := ⟨e, e2⟩
    clear HC2 ea e e2 hf
    go_wp2
    go_ret
    exact ⟨by rw [HE.out.1]; rfl, Mv.refl _ _, vw, vn, by rw [HE.out.2]; exact HQ.out⟩
  | none =>
    have ea : atF L who = -1 := by unfold atF; rw [hf]; rfl
    rw [ea]
    have HFN : Hid (fnd L who = none) := hf
    clear hf ea
    go_wp2_with fail
    refine Calls.mono HC2.out ?_
    rintro e w' ⟨rfl, rfl⟩
    clear HC2
    by_cases hlt : left < k
    · have b2 : decide (left < k) = true := decide_eq_true hlt
      have e : F = 13 := by rw [← HF.out, tkF, if_neg (by have := HK0.out; omega), HFN.out, if_neg (by simp), if_pos hlt]
      have e2 : K = L := by rw [← HK.out]; exact if_neg (by rw [HF.out, e]; decide)
      have HE : Hid (F = 13 ∧ K = L) := ⟨e, e2⟩
      clear e e2
      go_wp2
      go_ret
      exact ⟨by rw [HE.out.1]; rfl, Mv.refl _ _, vw, vn, by rw [HE.out.2]; exact HQ.out⟩
    · have b2 : decide (left < k) = false := decide_eq_false hlt
      have e : F = 0 := by rw [← HF.out, tkF, if_neg (by have := HK0.out; omega), HFN.out, if_neg (by simp), if_neg hlt]
      have e2 : K = L ++ [(who, k)] := by rw [← HK.out]; exact if_pos (by rw [HF.out, e])
      have HE : Hid (F = 0 ∧ K = L ++ [(who, k)]) := ⟨e, e2⟩
      clear e e2 HFN
      obtain ⟨h0, h1, h2, h3, h4⟩ := HQ.out.b3
      have hn1 := row_ne HQ.out.r1
      have hn2 := row_ne HQ.out.r2
      go_wp2_with (at_builtin; refine wpList_append_src (W.alloc (.cells #[.int .i64 who] 3)) rfl (.tmp 21) (.tmp 23) 80 rfl (qb + 1) 3 i0 (.int .i64 0) 1 8 Try.underlying80 HI0.out HZ0.out HZ1.out HZ2.out rfl (by decide) vw L.length (whoC L) rfl (HQ.out.r1.alloc _) (some ⟨W.heap.size, 0, none⟩) 1 1 [.int .i64 who] rfl rfl (.inr ⟨_, rfl, one_int _ _ _⟩) (by simp [Value.oneCell']) (by unfold maxLen; omega) (by omega) (Nat.le_trans HQ.out.lt (by rw [World.size_alloc]; omega)) ?_)
      intro v1 w1 hown1 hgr1 ho1
      obtain ⟨a1, cap1, rfl, _, _, _⟩ := owns_cells hown1
      have HO1 : Hid (w1.ownsRow (qb + 1) 3 1 (Value.slice a1 (L.length + 1) cap1) (L.length + 1) (whoC L ++ [.int .i64 who])) := hown1
      have HR2 : Hid (w1.ownsRow (qb + 1) 3 1 vn L.length (numC L)) := (HQ.out.r2.alloc _).kept hgr1 HQ.out.ap
      have HB1 : Hid (B3 w1 qb (.int .i64 room) vw vn) := (HQ.out.b3.alloc _).kept hgr1 hn1
      have HA1 : Hid (vn.ownBlock = none ∨ vn.ownBlock ≠ (Value.slice a1 (L.length + 1) cap1).ownBlock) := by
        rcases ho1 with e | e
        · rw [e]; exact HQ.out.ap
        · have e : (Value.slice a1 (L.length + 1) cap1).ownBlock = some (W.heap.size + 1) := e
          cases hv : vn.ownBlock with
          | none => exact .inl rfl
          | some q => exact .inr (by rw [e]; have := (HQ.out.r2.lt q hv).2; simp; omega)
      have HLW : Hid (Mv (QS qb vw vn) W w1) := ((Mv.refl _ W).alloc _).grown hgr1 (fun q e => .inr (.inl e.symm))
      clear hown1 hgr1 ho1 h0 h1 h2 h3 h4 hn1
      obtain ⟨h0, h1, h2, h3, h4⟩ := HB1.out
      have HB2 : Hid (B3 (w1.setCell ⟨qb, 1, none⟩ (Value.slice a1 (L.length + 1) cap1)) qb (.int .i64 room) (Value.slice a1 (L.length + 1) cap1) vn) := HB1.out.set1 (Value.slice a1 (L.length + 1) cap1)
      have HO2 : Hid ((w1.setCell ⟨qb, 1, none⟩ (Value.slice a1 (L.length + 1) cap1)).ownsRow (qb + 1) 3 1 (Value.slice a1 (L.length + 1) cap1) (L.length + 1) (whoC L ++ [.int .i64 who])) := ownsRow_setCell_below HO1.out (by show qb < qb + 1; omega) _
      have HS2 : Hid ((w1.setCell ⟨qb, 1, none⟩ (Value.slice a1 (L.length + 1) cap1)).ownsRow (qb + 1) 3 1 vn L.length (numC L)) := ownsRow_setCell_below HR2.out (by show qb < qb + 1; omega) _
      have HLX : Hid (Mv (QS qb vw vn) W (w1.setCell ⟨qb, 1, none⟩ (Value.slice a1 (L.length + 1) cap1))) := HLW.out.setCell (.inl rfl) _
      go_wp2_with (at_builtin; refine wpList_append_src ((w1.setCell ⟨qb, 1, none⟩ (Value.slice a1 (L.length + 1) cap1)).alloc (.cells #[.int .i64 k] 3)) rfl (.tmp 31) (.tmp 33) 80 rfl (qb + 1) 3 i0 (.int .i64 0) 1 8 Try.underlying80 HI0.out HZ0.out HZ1.out HZ2.out rfl (by decide) vn L.length (numC L) rfl (HS2.out.alloc _) (some ⟨w1.heap.size, 0, none⟩) 1 1 [.int .i64 k] rfl rfl (.inr ⟨_, rfl, one_intS _ _ _ _ _⟩) (by simp [Value.oneCell']) (by unfold maxLen; omega) (by omega) (Nat.le_trans HB2.out.lt (by rw [World.size_alloc]; omega)) ?_)
      intro v3 w3 hown3 hgr3 ho3
      obtain ⟨a3, cap3, rfl, _, _, _⟩ := owns_cells hown3
      have B3' : B3 w3 qb (.int .i64 room) (Value.slice a1 (L.length + 1) cap1) vn := (HB2.out.alloc _).kept hgr3 hn2
      have R1' := (HO2.out.alloc (.cells #[.int .i64 k] 3)).kept hgr3 (ne_flip HA1.out)
      have HFin : Hid (QB (w3.setCell ⟨qb, 2, none⟩ (Value.slice a3 (L.length + 1) cap3)) qb room (L ++ [(who, k)]) (Value.slice a1 (L.length + 1) cap1) (Value.slice a3 (L.length + 1) cap3)) := by
        refine QB.of (B3'.set2 (Value.slice a3 (L.length + 1) cap3)) ?_ ?_ ?_
        · have := ownsRow_setCell_below R1' (a := ⟨qb, 2, none⟩) (by show qb < qb + 1; omega) (Value.slice a3 (L.length + 1) cap3)
          rw [List.length_append]
          simpa [whoC] using this
        · have := ownsRow_setCell_below hown3 (a := ⟨qb, 2, none⟩) (by show qb < qb + 1; omega) (Value.slice a3 (L.length + 1) cap3)
          rw [List.length_append]
          simpa [numC] using this
        · rcases ho3 with e | e
          · rw [e]; exact HA1.out
          · have e : (Value.slice a3 (L.length + 1) cap3).ownBlock = some (w1.heap.size + 1) := e
            refine .inr ?_
            rw [e]
            intro q
            have := (HO1.out.lt _ q.symm).2
            omega
      have HLF : Hid (Mv (QS qb vw vn) W (w3.setCell ⟨qb, 2, none⟩ (Value.slice a3 (L.length + 1) cap3))) := ((HLX.out.alloc _).grown hgr3 (fun q e => .inr (.inr e.symm))).setCell (.inl rfl) _
      clear hown3 hgr3 ho3 h0 h1 h2 h3 h4 R1' HB1 HO1 HR2 HLW
      obtain ⟨h0, h1, h2, h3, h4⟩ := B3'
      go_wp2
      go_ret
      exact ⟨by rw [HE.out.1]; rfl, HLF.out, (Value.slice a1 (L.length + 1) cap1), (Value.slice a3 (L.length + 1) cap3), by rw [HE.out.2]; exact HFin.out⟩
end Go.Proofs.Ytkkhfnkmfkdhiab
