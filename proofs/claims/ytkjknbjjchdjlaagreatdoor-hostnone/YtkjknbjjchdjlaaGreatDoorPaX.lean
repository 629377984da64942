/-
  Lights, copies, sameNodes: the walks.
  A BOX'S ALTER: the walks.
  CREDS: Become: the walks.
  A BOX'S CREATE: its step: the walk.
  ATTRIBUTES: Get: the walk.
  A NEW BOX: Clone of ranges and of numbers, own: the walks.
  A NEW BOX: New: the walk.
-/
import Derived.Test.YtkjknbjjchdjlaaGreatDoorXbX
import Derived.Test.YtkjknbjjchdjlaaGreatDoorUcX
import Derived.Test.YtkjknbjjchdjlaaGreatDoorWaY
import Derived.Test.YtkjknbjjchdjlaaGreatDoorVeX
import Derived.Test.YtkjknbjjchdjlaaGreatDoorNnX
import Derived.Test.YtkjknbjjchdjlaaGreatDoorApX
import Derived.Deep.RegionHeld3
import Derived.Deep.RegionLaw
import Derived.Deep.Cut
import Derived.Test.YtkjknbjjchdjlaaGreatDoorWlY
import Derived.Test.YtkjknbjjchdjlaaGreatDoorFrY
import Derived.Maps.OwnOps
import Derived.BigQuiet
import Derived.Test.YtkjknbjjchdjlaaGreatDoorNpX
import Derived.Test.YtkjknbjjchdjlaaGreatDoorWbY
import Derived.Deep.CutRange
import Derived.Deep.AppendSrc
import Derived.Deep.OwnRows
import Derived.Laws.CopyOwn
import Derived.Deep.QuietTactic
import Derived.Shelf.SlSorted.Search
import Derived.Lib.AppendZeros
import Derived.Lib.SliceRun
import Derived.Deep.LoopGhost
namespace Go.Proofs.YtkjknbjjchdjlaaGreatDoor
open Go.RowKit
theorem alloc_bel2 (w : World) (o : Obj) : Below w.heap.size w (w.alloc o) := (Below.refl _ _).alloc (Nat.le_refl _) _
theorem mle_hide {w w' : World} {S : Nat → Bool} (hb : Below w.heap.size w w') (hs : ∀ k, k < w.heap.size → S k = false) : MLe w.cell? (offS w'.cell? S) := fun q v h => by
  have hq := World.block_lt_of_cell? _ _ h
  rw [offS_ne (hs _ hq)]
  exact mle_below hb _ _ h
/-- What stands while nodes are copied. -/
structure CpI (w : World) (v : Value) (L : List Fl) (wr : World) : Prop where
  low : Below w.heap.size w wr
  row : wr.ownsRow w.heap.size 102 8 v L.length (flN L)
  nd : ∀ f ∈ L, NdV (offS wr.cell? (fun k => v.ownBlock == some k)) f.x f.h
theorem CpI.below {w : World} {v : Value} {L : List Fl} {wr w' : World} (h : CpI w v L wr) (hb : Below wr.heap.size wr w') : CpI w v L w' := ⟨h.low.trans (hb.mono h.low.size), ownsRow_bel h.row hb, fun f hf => (h.nd f hf).on (mle_S hb)⟩
theorem CpI.app {w : World} {v v' : Value} {L : List Fl} {wr w' : World} (h : CpI w v L wr) {f : Fl} (hf : NdV (offS wr.cell? (fun k => v.ownBlock == some k)) f.x f.h) (hown : w'.ownsRow w.heap.size 102 8 v' (L ++ [f]).length (flN (L ++ [f]))) (hg : wr.grownBy w' v.ownBlock) (ho : v'.ownBlock = v.ownBlock ∨ v'.ownBlock = some wr.heap.size) : CpI w v' (L ++ [f]) w' := by
  have hm : MLe (offS wr.cell? (fun k => v.ownBlock == some k)) (offS w'.cell? (fun k => v'.ownBlock == some k)) := mle_step fun k hk hs => by
    simp at hs
    refine ⟨?_, hg.block k hk (fun e => hs e.symm)⟩
    simp
    rcases ho with e | e
    · rw [e]; exact hs
    · rw [e]; intro e2; cases e2; omega
  refine ⟨h.low.grown hg h.low.size (fun g e => (h.row.lt g e).1), hown, fun f' hf' => ?_⟩
  rcases List.mem_append.1 hf' with e | e
  · exact (h.nd f' e).on hm
  · rw [List.mem_singleton] at e; rw [e]; exact hf.on hm
end Go.Proofs.YtkjknbjjchdjlaaGreatDoor
namespace Go.Proofs.YtkjknbjjchdjlaaGreatDoor
open Go.RowKit
theorem alc {w : World} {ob : Obj} {a : Addr} {v : Value} (h : w.cell? a = some v) : (w.alloc ob).cell? a = some v := blwV ((Below.refl _ _).alloc (Nat.le_refl _) _) h
theorem stc {w : World} {a p : Addr} {v : Value} (h : p.block ≠ a.block) : (w.setCell a v).cell? p = w.cell? p := World.cell?_setCell_other _ _ _ _ (fun e => h (by rw [← e]))
theorem stc2 {w : World} {b i j : Nat} {v : Value} (h : j ≠ i) : (w.setCell ⟨b, i, none⟩ v).cell? ⟨b, j, none⟩ = w.cell? ⟨b, j, none⟩ := World.cell?_setCell_other _ _ _ _ (fun e => by injection e with _ e2; omega)
theorem NBw.set1 {w : World} {b : Nat} {k m u g : Int} {o : Bool} {at_ : List Kv} {d : ByteArray} {ks : Kds} {h : Hd} (hk : NBw w b (.mk k m u g o at_ d ks) h) (m' : Int) : NBw (w.setCell ⟨b, 1, none⟩ (.int .i64 m')) b (.mk k m' u g o at_ d ks) h := by
  obtain ⟨⟨h0, h1, h2, h3, h4, h5, h6, h7⟩, hf⟩ := hk
  exact ⟨⟨(stc2 (by omega)).trans h0, World.cell?_setCell_same _ _ _ h1, (stc2 (by omega)).trans h2, (stc2 (by omega)).trans h3, (stc2 (by omega)).trans h4, (stc2 (by omega)).trans h5, (stc2 (by omega)).trans h6, (stc2 (by omega)).trans h7⟩, fun j => by simp [hf j]⟩
theorem NBw.set2 {w : World} {b : Nat} {k m u g : Int} {o : Bool} {at_ : List Kv} {d : ByteArray} {ks : Kds} {h : Hd} (hk : NBw w b (.mk k m u g o at_ d ks) h) (u' : Int) : NBw (w.setCell ⟨b, 2, none⟩ (.int .i64 u')) b (.mk k m u' g o at_ d ks) h := by
  obtain ⟨⟨h0, h1, h2, h3, h4, h5, h6, h7⟩, hf⟩ := hk
  exact ⟨⟨(stc2 (by omega)).trans h0, (stc2 (by omega)).trans h1, World.cell?_setCell_same _ _ _ h2, (stc2 (by omega)).trans h3, (stc2 (by omega)).trans h4, (stc2 (by omega)).trans h5, (stc2 (by omega)).trans h6, (stc2 (by omega)).trans h7⟩, fun j => by simp [hf j]⟩
theorem NBw.set3 {w : World} {b : Nat} {k m u g : Int} {o : Bool} {at_ : List Kv} {d : ByteArray} {ks : Kds} {h : Hd} (hk : NBw w b (.mk k m u g o at_ d ks) h) (g' : Int) : NBw (w.setCell ⟨b, 3, none⟩ (.int .i64 g')) b (.mk k m u g' o at_ d ks) h := by
  obtain ⟨⟨h0, h1, h2, h3, h4, h5, h6, h7⟩, hf⟩ := hk
  exact ⟨⟨(stc2 (by omega)).trans h0, (stc2 (by omega)).trans h1, (stc2 (by omega)).trans h2, World.cell?_setCell_same _ _ _ h3, (stc2 (by omega)).trans h4, (stc2 (by omega)).trans h5, (stc2 (by omega)).trans h6, (stc2 (by omega)).trans h7⟩, fun j => by simp [hf j]⟩
theorem nb_norow {w : World} {b : Nat} {x : Nd} {h : Hd} (hk : NBox w b x h) (he : ∀ o, 8 ≤ o → w.cell? ⟨b, o, none⟩ = none) : NoRow w.cell? b := by
  obtain ⟨k, m, u, g, o, at_, d, ks⟩ := x
  obtain ⟨q0, q1, q2, q3, q4, q5, q6, q7⟩ := hk
  intro o s v h1 h2
  rcases Nat.lt_or_ge o 8 with ho | ho
  · rcases (by omega : o = 0 ∨ o = 1 ∨ o = 2 ∨ o = 3 ∨ o = 4 ∨ o = 5 ∨ o = 6 ∨ o = 7) with q | q | q | q | q | q | q | q <;> subst q
    · rw [q0] at h1; cases h1
    · rw [q1] at h1; cases h1
    · rw [q2] at h1; cases h1
    · rw [q3] at h1; cases h1
    · rw [q4] at h1; cases h1
    · rw [q5] at h1; cases h1
    · rw [q7] at h2
      injection h2 with h2
      subst h2
      exact fun h => h
    · rw [q7] at h1; cases h1
  · rw [he o ho] at h1; cases h1
/-- A new node's box. -/
def ZnB (w : World) (b : Nat) : Prop := NBw w b zN zH ∧ ∀ o, 8 ≤ o → w.cell? ⟨b, o, none⟩ = none
theorem ZnB.new (w : World) : ZnB (w.alloc (.cells #[.int .i64 0, .int .i64 0, .int .i64 0, .int .i64 0, .bool false, .slice none 0 0, .string ⟨#[]⟩, .slice none 0 0] 102)) w.heap.size := ⟨NBw.zero w, fun o ho => by
  rw [World.cell?_alloc_at _ _ _ _ rfl]
  exact Array.getElem?_eq_none (by simpa using ho)⟩
theorem ZnB.below {w w' : World} {b : Nat} (h : ZnB w b) (hb : Below w.heap.size w w') : ZnB w' b := ⟨h.1.below hb, fun o ho => (hb.cell (p := ⟨b, o, none⟩) h.1.1.lt).trans (h.2 o ho)⟩
theorem ZnB.store {w : World} {b : Nat} (h : ZnB w b) {x : Nd} {hd : Hd} (hn : NdV w.cell? x hd) : NBw (stB w b x hd) b x hd ∧ NdV (stB w b x hd).cell? x hd ∧ But b w (stB w b x hd) ∧ ∀ o, 8 ≤ o → (stB w b x hd).cell? ⟨b, o, none⟩ = none := by
  refine ⟨h.1.store x hd, ?_, stB_but, fun o ho => ?_⟩
  · rw [stB_eq]
    exact (nd_off (fun k hk => by
      have e : k = b := by simpa using hk
      subst e
      exact nb_norow h.1.1 h.2) hn).on st8_offS
  · rw [stB_eq]
    exact (st8_far (fun j hj e => by injection e with _ e2; omega)).trans (h.2 o ho)
end Go.Proofs.YtkjknbjjchdjlaaGreatDoor
namespace Go.Proofs.YtkjknbjjchdjlaaGreatDoor
open Go.RowKit
theorem Ints.other {w : World} {g : Nat} {zs : List Int} (h : Ints w (some ⟨g, 0, none⟩) zs) {p : Addr} (hp : p.block ≠ g) (x : Value) : Ints (w.setCell p x) (some ⟨g, 0, none⟩) zs := by
  rcases h with h | ⟨b, off, ha, hc⟩
  · exact .inl h
  · obtain ⟨rfl, rfl⟩ : g = b ∧ 0 = off := by simpa using ha
    exact .inr ⟨g, 0, rfl, fun i hi => (World.cell?_setCell_other _ _ _ _ (fun e => hp (by rw [e]))).trans (hc i hi)⟩
end Go.Proofs.YtkjknbjjchdjlaaGreatDoor
namespace Go.Proofs.YtkjknbjjchdjlaaGreatDoor
open Go.RowKit
theorem bare_in (c : Mem) (k m u g : Int) (o : Bool) (d : ByteArray) : NdV c (.mk k m u g o [] d []) zH := ndV_iff.2 ⟨.inl rfl, ⟨Nat.le_refl _, by decide⟩, ⟨Nat.le_refl _, by decide⟩, .inl rfl⟩
end Go.Proofs.YtkjknbjjchdjlaaGreatDoor
namespace Go.Proofs.YtkjknbjjchdjlaaGreatDoor
open Go.RowKit Go.Sort Go.Shelf
theorem Kvm.take {w : World} {a : Option Addr} {l : List Kv} (h : Kvm w.cell? a l) (k : Nat) : Kvm w.cell? a (l.take k) := by
  rcases h with rfl | ⟨b, off, ha, hc⟩
  · exact .inl (by simp)
  · refine .inr ⟨b, off, ha, fun i x hi => hc i x ?_⟩
    rw [List.getElem?_take] at hi
    split at hi
    · exact hi
    · cases hi
theorem Kvm.drop {w : World} {a : Option Addr} {l : List Kv} (h : Kvm w.cell? a l) (k : Nat) : Kvm w.cell? (a.map (·.add (k * 2))) (l.drop k) := by
  rcases h with rfl | ⟨b, off, rfl, hc⟩
  · exact .inl (by simp)
  · refine .inr ⟨b, off + k * 2, ?_, fun i x hi => ?_⟩
    · by_cases hk : k * 2 = 0 <;> simp [Addr.add, hk]
    · rw [List.getElem?_drop] at hi
      obtain ⟨h1, h2⟩ := hc _ x hi
      have e : off + (k + i) * 2 = off + k * 2 + i * 2 := by omega
      rw [e] at h1 h2
      exact ⟨h1, h2⟩
theorem Kvm.none {w : World} {a : Option Addr} {l : List Kv} (h : l.length = 0) : Kvm w.cell? a l := .inl (List.eq_nil_of_length_eq_zero h)
end Go.Proofs.YtkjknbjjchdjlaaGreatDoor
namespace Go.Proofs.YtkjknbjjchdjlaaGreatDoor
open Go.RowKit
/-- What Clone answers. -/
def ClE (w w' : World) (n : Nat) (news : List Value) (e : Ending) : Prop := (∃ ao c', e = .returned (.slice ao n c') ∧ (n ≤ c' ∧ c' ≤ 9223372036854775807) ∧ (n = 0 ∨ ∃ g, ao = some ⟨g, 0, none⟩ ∧ w.heap.size ≤ g ∧ ∀ j u, news[j]? = some u → w'.cell? ⟨g, j, none⟩ = some u) ∧ ∀ p, ao = some p → p.block < w'.heap.size) ∧ Below w.heap.size w w'
theorem Tryz.infoRg : (Tryz.prog.info? 83).map (fun i => (i.zero, i.size, i.bytes)) = some (some (.agg #[.int .i64 0, .int .i64 0, .int .i64 0]), 3, 24) := by kernel_rfl
set_option maxRecDepth 100000 in
set_option maxHeartbeats 1000000 in
theorem cloneR_any {w : World} (a : Option Addr) (n cap : Nat) (news : List Value) (hl : news.length = n * 3) (hn : n ≤ 1000) (hsrc : (a = none ∧ n = 0) ∨ ∃ ad, a = some ad ∧ ∀ j u, news[j]? = some u → w.cell? (ad.add j) = some u) (h1 : ∀ u ∈ news, u.oneCell' = true) :
    Calls Tryz.prog 44 #[.slice a n cap] w fun e w' => ClE w w' n news e := by
  obtain ⟨i0, hi0, hz0, hz1, hz2⟩ := info_three Tryz.infoRg
  have hB : Below w.heap.size w (w.alloc (.cells #[] 83)) := (Below.refl _ _).alloc (Nat.le_refl _) _
  have hown : (w.alloc (.cells #[] 83)).ownsRow w.heap.size 83 3 (.slice (some ⟨w.heap.size, 0, none⟩) 0 0) 0 [] := ⟨rfl, .inr ⟨w.heap.size, 0, #[], rfl, Nat.le_refl _, by unfold World.alloc; simp, Nat.le_refl _, Nat.zero_le _, rfl, rfl⟩⟩
  rcases hsrc with ⟨rfl, rfl⟩ | ⟨ad, rfl, hc⟩
  · have hnil := fun (W : World) (n c : Nat) => Lib.run_eql_slice_nil (P := Tryz.prog) W 38 83 none n c 0 0 Tryz.underlying38
    go_enter Tryz.func44, Tryz.ntmps44
    go_wp2
    go_ret
    exact ⟨⟨none, 0, rfl, ⟨Nat.le_refl _, by omega⟩, .inl rfl, fun p hp => by cases hp⟩, Below.refl _ _⟩
  · have hnil := fun (W : World) (n c : Nat) => Lib.run_eql_slice_nil (P := Tryz.prog) W 38 83 (some ad) n c 0 0 Tryz.underlying38
    have hc2 : ∀ j u, news[j]? = some u → (w.alloc (.cells #[] 83)).cell? (ad.add j) = some u := fun j u hj => blwV hB (hc j u hj)
    have HB : Hid (Below w.heap.size w (w.alloc (.cells #[] 83))) := hB
    go_enter Tryz.func44, Tryz.ntmps44
    go_wp2_with (at_builtin; refine wpList_append_src (w.alloc (.cells #[] 83)) rfl (.tmp 5) (.tmp 6) 38 rfl w.heap.size 83 i0 (.agg #[.int .i64 0, .int .i64 0, .int .i64 0]) 3 24 Tryz.underlying38 hi0 hz0 hz1 hz2 rfl (by decide) (.slice (some ⟨w.heap.size, 0, none⟩) 0 0) 0 [] rfl hown (some ad) n cap news rfl hl (.inr ⟨ad, rfl, hc2⟩) h1 (by unfold maxLen; omega) (by omega) (by have := HB.out.size; omega) ?_)
    intro v' w' ho hg hv
    obtain ⟨ao, c', rfl, hle, hmx, hform⟩ := ownsRow_form ho
    have HW : Hid (ClE w w' n news (.returned (.slice ao n c'))) := by
      unfold maxLen at hmx
      have hbl : Below w.heap.size w w' := HB.out.grown hg HB.out.size (fun k e => by cases e; exact Nat.le_refl _)
      refine ⟨⟨ao, c', rfl, ⟨hle, hmx⟩, ?_, fun p hp => ?_⟩, hbl⟩
      · rcases hform with ⟨_, h0, _, _⟩ | ⟨g, cur, rfl, hbg, hhg, hcs, htk⟩
        · exact .inl h0
        · exact .inr ⟨g, rfl, hbg, fun j u hj => ownsRow_cell hhg htk (by simpa using hj)⟩
      · rcases hform with ⟨h0, _⟩ | ⟨g, cur, rfl, hbg, hhg, hcs, htk⟩
        · rw [h0] at hp; cases hp
        · cases hp
          exact (Array.getElem?_eq_some_iff.1 hhg).1
    clear ho hg hv hle hmx hform hc2 hown
    go_wp2
    go_ret
    exact HW.out
theorem Tryz.infoI : (Tryz.prog.info? 3).map (fun i => (i.zero, i.size, i.bytes)) = some (some (.int .i64 0), 1, 8) := by kernel_rfl
set_option maxRecDepth 100000 in
set_option maxHeartbeats 1000000 in
theorem cloneI_any {w : World} (a : Option Addr) (n cap : Nat) (news : List Value) (hl : news.length = n * 1) (hn : n ≤ 1000) (hsrc : (a = none ∧ n = 0) ∨ ∃ ad, a = some ad ∧ ∀ j u, news[j]? = some u → w.cell? (ad.add j) = some u) (h1 : ∀ u ∈ news, u.oneCell' = true) :
    Calls Tryz.prog 25 #[.slice a n cap] w fun e w' => ClE w w' n news e := by
  obtain ⟨i0, hi0, hz0, hz1, hz2⟩ := info_three Tryz.infoI
  have hB : Below w.heap.size w (w.alloc (.cells #[] 3)) := (Below.refl _ _).alloc (Nat.le_refl _) _
  have hown : (w.alloc (.cells #[] 3)).ownsRow w.heap.size 3 1 (.slice (some ⟨w.heap.size, 0, none⟩) 0 0) 0 [] := ⟨rfl, .inr ⟨w.heap.size, 0, #[], rfl, Nat.le_refl _, by unfold World.alloc; simp, Nat.le_refl _, Nat.zero_le _, rfl, rfl⟩⟩
  rcases hsrc with ⟨rfl, rfl⟩ | ⟨ad, rfl, hc⟩
  · have hnil := fun (W : World) (n c : Nat) => Lib.run_eql_slice_nil (P := Tryz.prog) W 41 3 none n c 0 0 Tryz.underlying41
    go_enter Tryz.func25, Tryz.ntmps25
    go_wp2
    go_ret
    exact ⟨⟨none, 0, rfl, ⟨Nat.le_refl _, by omega⟩, .inl rfl, fun p hp => by cases hp⟩, Below.refl _ _⟩
  · have hnil := fun (W : World) (n c : Nat) => Lib.run_eql_slice_nil (P := Tryz.prog) W 41 3 (some ad) n c 0 0 Tryz.underlying41
    have hc2 : ∀ j u, news[j]? = some u → (w.alloc (.cells #[] 3)).cell? (ad.add j) = some u := fun j u hj => blwV hB (hc j u hj)
    have HB : Hid (Below w.heap.size w (w.alloc (.cells #[] 3))) := hB
    go_enter Tryz.func25, Tryz.ntmps25
    go_wp2_with (at_builtin; refine wpList_append_src (w.alloc (.cells #[] 3)) rfl (.tmp 5) (.tmp 6) 41 rfl w.heap.size 3 i0 (.int .i64 0) 1 8 Tryz.underlying41 hi0 hz0 hz1 hz2 rfl (by decide) (.slice (some ⟨w.heap.size, 0, none⟩) 0 0) 0 [] rfl hown (some ad) n cap news rfl hl (.inr ⟨ad, rfl, hc2⟩) h1 (by unfold maxLen; omega) (by omega) (by have := HB.out.size; omega) ?_)
    intro v' w' ho hg hv
    obtain ⟨ao, c', rfl, hle, hmx, hform⟩ := ownsRow_form ho
    have HW : Hid (ClE w w' n news (.returned (.slice ao n c'))) := by
      unfold maxLen at hmx
      have hbl : Below w.heap.size w w' := HB.out.grown hg HB.out.size (fun k e => by cases e; exact Nat.le_refl _)
      refine ⟨⟨ao, c', rfl, ⟨hle, hmx⟩, ?_, fun p hp => ?_⟩, hbl⟩
      · rcases hform with ⟨_, h0, _, _⟩ | ⟨g, cur, rfl, hbg, hhg, hcs, htk⟩
        · exact .inl h0
        · exact .inr ⟨g, rfl, hbg, fun j u hj => ownsRow_cell hhg htk (by simpa using hj)⟩
      · rcases hform with ⟨h0, _⟩ | ⟨g, cur, rfl, hbg, hhg, hcs, htk⟩
        · rw [h0] at hp; cases hp
        · cases hp
          exact (Array.getElem?_eq_some_iff.1 hhg).1
    clear ho hg hv hle hmx hform hc2 hown
    go_wp2
    go_ret
    exact HW.out
/-- Ranges, cell by cell. -/
def rgL : List Rg → List Value
  | [] => []
  | r :: l => .int .i64 r.i :: .int .i64 r.o :: .int .i64 r.n :: rgL l
theorem rgL_len : ∀ rs : List Rg, (rgL rs).length = rs.length * 3
  | [] => rfl
  | r :: l => by rw [rgL, List.length_cons, List.length_cons, List.length_cons, List.length_cons, rgL_len l]; omega
theorem rgL_one : ∀ rs : List Rg, ∀ u ∈ rgL rs, u.oneCell' = true
  | [], u, h => by cases h
  | r :: l, u, h => by
    rw [rgL] at h
    simp only [List.mem_cons] at h
    rcases h with rfl | rfl | rfl | h
    · rfl
    · rfl
    · rfl
    · exact rgL_one l u h
theorem rgL_at : ∀ {rs : List Rg} {j : Nat} {u : Value}, (rgL rs)[j]? = some u → ∃ k r, rs[k]? = some r ∧ ((j = k * 3 ∧ u = .int .i64 r.i) ∨ (j = k * 3 + 1 ∧ u = .int .i64 r.o) ∨ (j = k * 3 + 2 ∧ u = .int .i64 r.n))
  | [], j, u, h => by simp [rgL] at h
  | r :: l, 0, u, h => ⟨0, r, rfl, .inl ⟨rfl, by simp [rgL] at h; exact h.symm⟩⟩
  | r :: l, 1, u, h => ⟨0, r, rfl, .inr (.inl ⟨rfl, by simp [rgL] at h; exact h.symm⟩)⟩
  | r :: l, 2, u, h => ⟨0, r, rfl, .inr (.inr ⟨rfl, by simp [rgL] at h; exact h.symm⟩)⟩
  | r :: l, j + 3, u, h => by
    have h : (rgL l)[j]? = some u := by simpa [rgL] using h
    obtain ⟨k, r', hk, hu⟩ := rgL_at h
    refine ⟨k + 1, r', by simpa using hk, ?_⟩
    rcases hu with ⟨e1, e2⟩ | ⟨e1, e2⟩ | ⟨e1, e2⟩
    · exact .inl ⟨by omega, e2⟩
    · exact .inr (.inl ⟨by omega, e2⟩)
    · exact .inr (.inr ⟨by omega, e2⟩)
theorem rgL_get : ∀ {rs : List Rg} {k : Nat} {r : Rg}, rs[k]? = some r → (rgL rs)[k * 3]? = some (.int .i64 r.i) ∧ (rgL rs)[k * 3 + 1]? = some (.int .i64 r.o) ∧ (rgL rs)[k * 3 + 2]? = some (.int .i64 r.n)
  | [], k, r, h => by simp at h
  | q :: l, 0, r, h => by
    have : q = r := by simpa using h
    subst this
    exact ⟨rfl, rfl, rfl⟩
  | q :: l, k + 1, r, h => by
    obtain ⟨a, b, c⟩ := rgL_get (rs := l) (k := k) (r := r) (by simpa using h)
    rw [show (k + 1) * 3 = k * 3 + 3 by omega]
    exact ⟨by simpa [rgL] using a, by simpa [rgL] using b, by simpa [rgL] using c⟩
theorem cloneRg2_any {w : World} {a : Option Addr} (cap : Nat) {rs : List Rg} (h : Rgs w a rs) (hl : rs.length ≤ 100) :
    Calls Tryz.prog 44 #[.slice a rs.length cap] w fun e w' => (∃ ao c', e = .returned (.slice ao rs.length c') ∧ (rs.length ≤ c' ∧ c' ≤ 9223372036854775807) ∧ Rgs w' ao rs ∧ (∀ p, ao = some p → p.block < w'.heap.size) ∧ ∀ p, ao = some p → rs ≠ [] → w.heap.size ≤ p.block) ∧ Below w.heap.size w w' := by
  refine Calls.mono (cloneR_any a rs.length cap (rgL rs) (rgL_len rs) (by omega) ?_ (rgL_one rs)) ?_
  · rcases h with rfl | ⟨b, off, rfl, hc⟩
    · cases a with
      | none => exact .inl ⟨rfl, rfl⟩
      | some ad => exact .inr ⟨ad, rfl, fun j u hj => by simp [rgL] at hj⟩
    · refine .inr ⟨_, rfl, fun j u hj => ?_⟩
      rw [addr_add]
      obtain ⟨k, r, hr, hu⟩ := rgL_at hj
      obtain ⟨g0, g1, g2⟩ := hc k r hr
      rcases hu with ⟨rfl, rfl⟩ | ⟨rfl, rfl⟩ | ⟨rfl, rfl⟩
      · exact g0
      · exact g1
      · exact g2
  · rintro e w' ⟨⟨ao, c', rfl, hcap, hrow, hlt⟩, hb⟩
    refine ⟨⟨ao, c', rfl, hcap, ?_, hlt, fun p hp hn => ?_⟩, hb⟩
    rotate_left
    · rcases hrow with h0 | ⟨g, rfl, hg, _⟩
      · exact absurd (List.length_eq_zero_iff.1 h0) hn
      · cases hp
        exact hg
    rcases hrow with h0 | ⟨g, rfl, _, hc⟩
    · exact .inl (List.length_eq_zero_iff.1 h0)
    · refine .inr ⟨g, 0, rfl, fun k r hr => ?_⟩
      obtain ⟨a1, a2, a3⟩ := rgL_get hr
      rw [Nat.zero_add]
      exact ⟨hc _ _ a1, hc _ _ a2, hc _ _ a3⟩
theorem cloneIt_any {w : World} {a : Option Addr} (cap : Nat) {zs : List Int} (h : Ints w a zs) (hl : zs.length ≤ 100) :
    Calls Tryz.prog 25 #[.slice a zs.length cap] w fun e w' => (∃ ao c', e = .returned (.slice ao zs.length c') ∧ (zs.length ≤ c' ∧ c' ≤ 9223372036854775807) ∧ (zs = [] ∨ ∃ g, ao = some ⟨g, 0, none⟩ ∧ w.heap.size ≤ g ∧ ∀ i, i < zs.length → w'.cell? ⟨g, i, none⟩ = some (.int .i64 (zs.getD i 0))) ∧ ∀ p, ao = some p → p.block < w'.heap.size) ∧ Below w.heap.size w w' := by
  refine Calls.mono (cloneI_any a zs.length cap (zs.map (Value.int .i64)) (by simp) (by omega) ?_ (fun u hu => by obtain ⟨z, _, rfl⟩ := List.mem_map.1 hu; rfl)) ?_
  · rcases h with rfl | ⟨b, off, rfl, hc⟩
    · cases a with
      | none => exact .inl ⟨rfl, rfl⟩
      | some ad => exact .inr ⟨ad, rfl, fun j u hj => by simp at hj⟩
    · refine .inr ⟨_, rfl, fun j u hj => ?_⟩
      rw [addr_add]
      rw [List.getElem?_map] at hj
      obtain ⟨z, hz, rfl⟩ := Option.map_eq_some_iff.1 hj
      have hlt := (List.getElem?_eq_some_iff.1 hz).1
      rw [hc j hlt]
      simp [List.getD, hz]
  · rintro e w' ⟨⟨ao, c', rfl, hcap, hrow, hlt⟩, hb⟩
    refine ⟨⟨ao, c', rfl, hcap, ?_, hlt⟩, hb⟩
    rcases hrow with h0 | ⟨g, rfl, hg, hc⟩
    · exact .inl (List.length_eq_zero_iff.1 h0)
    · refine .inr ⟨g, rfl, hg, fun i hi => hc _ _ ?_⟩
      rw [List.getElem?_map, List.getElem?_eq_getElem hi]
      simp [List.getD, List.getElem?_eq_getElem hi]
set_option maxRecDepth 100000 in
set_option maxHeartbeats 1000000 in
theorem bown_any {w : World} {cu cg ck : Int} {ca : Option Addr} {cc : Nat} {cs : List Int} (h : Ints w ca cs) (hl : cs.length ≤ 100) :
    Calls Tryz.prog 45 #[.agg #[.int .i64 cu, .int .i64 cg, .slice ca cs.length cc, .int .i64 ck]] w fun e w' => (∃ ao c', e = .returned (.agg #[.int .i64 cu, .int .i64 cg, .slice ao cs.length c', .int .i64 ck]) ∧ (cs.length ≤ c' ∧ c' ≤ 9223372036854775807) ∧ Ints w' ao cs ∧ ∀ p, ao = some p → p.block < w'.heap.size) ∧ Below w.heap.size w w' := by
  have s1 : (w.alloc (.cells #[.int .i64 cu, .int .i64 cg, .slice ca cs.length cc, .int .i64 ck] 43)).heap.size = w.heap.size + 1 := World.size_alloc _ _
  have hb1 : Below w.heap.size w (w.alloc (.cells #[.int .i64 cu, .int .i64 cg, .slice ca cs.length cc, .int .i64 ck] 43)) := (Below.refl _ _).alloc (Nat.le_refl _) _
  have hb2 : Below w.heap.size w ((w.alloc (.cells #[.int .i64 cu, .int .i64 cg, .slice ca cs.length cc, .int .i64 ck] 43)).alloc (.cells #[.int .i64 0, .int .i64 0, .slice none 0 0, .int .i64 0] 43)) := hb1.alloc hb1.size _
  have hbt : Below (w.alloc (.cells #[.int .i64 cu, .int .i64 cg, .slice ca cs.length cc, .int .i64 ck] 43)).heap.size (w.alloc (.cells #[.int .i64 cu, .int .i64 cg, .slice ca cs.length cc, .int .i64 ck] 43)) ((w.alloc (.cells #[.int .i64 cu, .int .i64 cg, .slice ca cs.length cc, .int .i64 ck] 43)).alloc (.cells #[.int .i64 0, .int .i64 0, .slice none 0 0, .int .i64 0] 43)) := (Below.refl _ _).alloc (Nat.le_refl _) _
  have c0 : ((w.alloc (.cells #[.int .i64 cu, .int .i64 cg, .slice ca cs.length cc, .int .i64 ck] 43)).alloc (.cells #[.int .i64 0, .int .i64 0, .slice none 0 0, .int .i64 0] 43)).cell? ⟨w.heap.size, 0, none⟩ = some (.int .i64 cu) := alc (World.cell?_alloc_at _ _ _ _ rfl)
  have c1 : ((w.alloc (.cells #[.int .i64 cu, .int .i64 cg, .slice ca cs.length cc, .int .i64 ck] 43)).alloc (.cells #[.int .i64 0, .int .i64 0, .slice none 0 0, .int .i64 0] 43)).cell? ⟨w.heap.size, 1, none⟩ = some (.int .i64 cg) := alc (World.cell?_alloc_at _ _ _ _ rfl)
  have c2 : ((w.alloc (.cells #[.int .i64 cu, .int .i64 cg, .slice ca cs.length cc, .int .i64 ck] 43)).alloc (.cells #[.int .i64 0, .int .i64 0, .slice none 0 0, .int .i64 0] 43)).cell? ⟨w.heap.size, 2, none⟩ = some (.slice ca cs.length cc) := alc (World.cell?_alloc_at _ _ _ _ rfl)
  have c3 : ((w.alloc (.cells #[.int .i64 cu, .int .i64 cg, .slice ca cs.length cc, .int .i64 ck] 43)).alloc (.cells #[.int .i64 0, .int .i64 0, .slice none 0 0, .int .i64 0] 43)).cell? ⟨w.heap.size, 3, none⟩ = some (.int .i64 ck) := alc (World.cell?_alloc_at _ _ _ _ rfl)
  have d0 : ((w.alloc (.cells #[.int .i64 cu, .int .i64 cg, .slice ca cs.length cc, .int .i64 ck] 43)).alloc (.cells #[.int .i64 0, .int .i64 0, .slice none 0 0, .int .i64 0] 43)).cell? ⟨w.heap.size + 1, 0, none⟩ = some (.int .i64 0) := World.cell?_alloc_at _ _ _ _ s1.symm
  have d1 : ((w.alloc (.cells #[.int .i64 cu, .int .i64 cg, .slice ca cs.length cc, .int .i64 ck] 43)).alloc (.cells #[.int .i64 0, .int .i64 0, .slice none 0 0, .int .i64 0] 43)).cell? ⟨w.heap.size + 1, 1, none⟩ = some (.int .i64 0) := World.cell?_alloc_at _ _ _ _ s1.symm
  have d2 : ((w.alloc (.cells #[.int .i64 cu, .int .i64 cg, .slice ca cs.length cc, .int .i64 ck] 43)).alloc (.cells #[.int .i64 0, .int .i64 0, .slice none 0 0, .int .i64 0] 43)).cell? ⟨w.heap.size + 1, 2, none⟩ = some (.slice none 0 0) := World.cell?_alloc_at _ _ _ _ s1.symm
  have d3 : ((w.alloc (.cells #[.int .i64 cu, .int .i64 cg, .slice ca cs.length cc, .int .i64 ck] 43)).alloc (.cells #[.int .i64 0, .int .i64 0, .slice none 0 0, .int .i64 0] 43)).cell? ⟨w.heap.size + 1, 3, none⟩ = some (.int .i64 0) := World.cell?_alloc_at _ _ _ _ s1.symm
  have f0 : ∀ q, ((w.alloc (.cells #[.int .i64 cu, .int .i64 cg, .slice ca cs.length cc, .int .i64 ck] 43)).alloc (.cells #[.int .i64 0, .int .i64 0, .slice none 0 0, .int .i64 0] 43)).frozen? ⟨w.heap.size, q, none⟩ = false := fun q => by
    rw [hbt.frozen (p := ⟨w.heap.size, q, none⟩) (by show w.heap.size < _; omega)]
    exact World.frozen?_alloc_at _ _ _ _ rfl
  have f1 : ∀ q, ((w.alloc (.cells #[.int .i64 cu, .int .i64 cg, .slice ca cs.length cc, .int .i64 ck] 43)).alloc (.cells #[.int .i64 0, .int .i64 0, .slice none 0 0, .int .i64 0] 43)).frozen? ⟨w.heap.size + 1, q, none⟩ = false := fun q => World.frozen?_alloc_at _ _ _ _ s1.symm
  have HCL : Hid (Calls Tryz.prog 25 #[.slice ca cs.length cc] ((w.alloc (.cells #[.int .i64 cu, .int .i64 cg, .slice ca cs.length cc, .int .i64 ck] 43)).alloc (.cells #[.int .i64 0, .int .i64 0, .slice none 0 0, .int .i64 0] 43)) fun e w' => (∃ ao c', e = .returned (.slice ao cs.length c') ∧ (cs.length ≤ c' ∧ c' ≤ 9223372036854775807) ∧ (cs = [] ∨ ∃ g, ao = some ⟨g, 0, none⟩ ∧ ((w.alloc (.cells #[.int .i64 cu, .int .i64 cg, .slice ca cs.length cc, .int .i64 ck] 43)).alloc (.cells #[.int .i64 0, .int .i64 0, .slice none 0 0, .int .i64 0] 43)).heap.size ≤ g ∧ ∀ i, i < cs.length → w'.cell? ⟨g, i, none⟩ = some (.int .i64 (cs.getD i 0))) ∧ ∀ p, ao = some p → p.block < w'.heap.size) ∧ Below ((w.alloc (.cells #[.int .i64 cu, .int .i64 cg, .slice ca cs.length cc, .int .i64 ck] 43)).alloc (.cells #[.int .i64 0, .int .i64 0, .slice none 0 0, .int .i64 0] 43)).heap.size ((w.alloc (.cells #[.int .i64 cu, .int .i64 cg, .slice ca cs.length cc, .int .i64 ck] 43)).alloc (.cells #[.int .i64 0, .int .i64 0, .slice none 0 0, .int .i64 0] 43)) w') := cloneIt_any cc (h.below hb2) hl
  have HSZ : Hid (((w.alloc (.cells #[.int .i64 cu, .int .i64 cg, .slice ca cs.length cc, .int .i64 ck] 43)).alloc (.cells #[.int .i64 0, .int .i64 0, .slice none 0 0, .int .i64 0] 43)).heap.size = w.heap.size + 1 + 1) := by show _ = _; rw [World.size_alloc, s1]
  have HB2 : Hid (Below w.heap.size w ((w.alloc (.cells #[.int .i64 cu, .int .i64 cg, .slice ca cs.length cc, .int .i64 ck] 43)).alloc (.cells #[.int .i64 0, .int .i64 0, .slice none 0 0, .int .i64 0] 43))) := hb2
  clear hb1 hb2 hbt h s1
  go_enter Tryz.func45, Tryz.ntmps45
  go_upto_region 1 with fail
  generalize ((w.alloc (.cells #[.int .i64 cu, .int .i64 cg, .slice ca cs.length cc, .int .i64 ck] 43)).alloc (.cells #[.int .i64 0, .int .i64 0, .slice none 0 0, .int .i64 0] 43)) = w2 at *
  go_wp2_with fail
  refine Calls.mono HCL.out ?_
  rintro e w3 ⟨⟨ao, c1', rfl, hcap, hrow, hlt⟩, q3⟩
  have hs := HSZ.out
  have la : w.heap.size < w2.heap.size := by omega
  have lb : w.heap.size + 1 < w2.heap.size := by omega
  have c0 := blwV q3 c0
  have c1 := blwV q3 c1
  have c2 := blwV q3 c2
  have c3 := blwV q3 c3
  have d0 := blwV q3 d0
  have d1 := blwV q3 d1
  have d2 := blwV q3 d2
  have d3 := blwV q3 d3
  have y02 := (q3.frozen (p := ⟨w.heap.size, 2, none⟩) la).trans (f0 2)
  have y10 := (q3.frozen (p := ⟨w.heap.size + 1, 0, none⟩) lb).trans (f1 0)
  have y11 := (q3.frozen (p := ⟨w.heap.size + 1, 1, none⟩) lb).trans (f1 1)
  have y12 := (q3.frozen (p := ⟨w.heap.size + 1, 2, none⟩) lb).trans (f1 2)
  have y13 := (q3.frozen (p := ⟨w.heap.size + 1, 3, none⟩) lb).trans (f1 3)
  have HCAP : Hid (cs.length ≤ c1' ∧ c1' ≤ 9223372036854775807) := hcap
  have far : ∀ g i, w2.heap.size ≤ g → (((((w3.setCell ⟨w.heap.size, 2, none⟩ (.slice ao cs.length c1')).setCell ⟨w.heap.size + 1, 0, none⟩ (.int .i64 cu)).setCell ⟨w.heap.size + 1, 1, none⟩ (.int .i64 cg)).setCell ⟨w.heap.size + 1, 2, none⟩ (.slice ao cs.length c1')).setCell ⟨w.heap.size + 1, 3, none⟩ (.int .i64 ck)).cell? ⟨g, i, none⟩ = w3.cell? ⟨g, i, none⟩ := fun g i hg => by
    rw [stc (by show g ≠ w.heap.size + 1; omega), stc (by show g ≠ w.heap.size + 1; omega), stc (by show g ≠ w.heap.size + 1; omega), stc (by show g ≠ w.heap.size + 1; omega), stc (by show g ≠ w.heap.size; omega)]
  have HFIN : Hid (Ints (((((w3.setCell ⟨w.heap.size, 2, none⟩ (.slice ao cs.length c1')).setCell ⟨w.heap.size + 1, 0, none⟩ (.int .i64 cu)).setCell ⟨w.heap.size + 1, 1, none⟩ (.int .i64 cg)).setCell ⟨w.heap.size + 1, 2, none⟩ (.slice ao cs.length c1')).setCell ⟨w.heap.size + 1, 3, none⟩ (.int .i64 ck)) ao cs ∧ (∀ p, ao = some p → p.block < (((((w3.setCell ⟨w.heap.size, 2, none⟩ (.slice ao cs.length c1')).setCell ⟨w.heap.size + 1, 0, none⟩ (.int .i64 cu)).setCell ⟨w.heap.size + 1, 1, none⟩ (.int .i64 cg)).setCell ⟨w.heap.size + 1, 2, none⟩ (.slice ao cs.length c1')).setCell ⟨w.heap.size + 1, 3, none⟩ (.int .i64 ck)).heap.size) ∧ Below w.heap.size w (((((w3.setCell ⟨w.heap.size, 2, none⟩ (.slice ao cs.length c1')).setCell ⟨w.heap.size + 1, 0, none⟩ (.int .i64 cu)).setCell ⟨w.heap.size + 1, 1, none⟩ (.int .i64 cg)).setCell ⟨w.heap.size + 1, 2, none⟩ (.slice ao cs.length c1')).setCell ⟨w.heap.size + 1, 3, none⟩ (.int .i64 ck))) := by
    have hb3 := HB2.out.trans (q3.mono HB2.out.size)
    refine ⟨?_, fun p hp => ?_, ?_⟩
    · rcases hrow with e | ⟨g, e1, hg, hc⟩
      · exact .inl e
      · refine .inr ⟨g, 0, e1, fun i hi => ?_⟩
        rw [Nat.zero_add, far _ _ hg]
        exact hc i hi
    · have := hlt p hp
      simpa using this
    · exact ((((hb3.setCell (p := ⟨w.heap.size, 2, none⟩) (Nat.le_refl _) _).setCell (p := ⟨w.heap.size + 1, 0, none⟩) (Nat.le_succ _) _).setCell (p := ⟨w.heap.size + 1, 1, none⟩) (Nat.le_succ _) _).setCell (p := ⟨w.heap.size + 1, 2, none⟩) (Nat.le_succ _) _).setCell (p := ⟨w.heap.size + 1, 3, none⟩) (Nat.le_succ _) _
  have r0 : (((((w3.setCell ⟨w.heap.size, 2, none⟩ (.slice ao cs.length c1')).setCell ⟨w.heap.size + 1, 0, none⟩ (.int .i64 cu)).setCell ⟨w.heap.size + 1, 1, none⟩ (.int .i64 cg)).setCell ⟨w.heap.size + 1, 2, none⟩ (.slice ao cs.length c1')).setCell ⟨w.heap.size + 1, 3, none⟩ (.int .i64 ck)).cell? ⟨w.heap.size + 1, 0, none⟩ = some (.int .i64 cu) := by
    rw [stc2 (by omega), stc2 (by omega), stc2 (by omega)]
    exact World.cell?_setCell_same _ _ _ ((stc (by show w.heap.size + 1 ≠ w.heap.size; omega)).trans d0)
  have r1 : (((((w3.setCell ⟨w.heap.size, 2, none⟩ (.slice ao cs.length c1')).setCell ⟨w.heap.size + 1, 0, none⟩ (.int .i64 cu)).setCell ⟨w.heap.size + 1, 1, none⟩ (.int .i64 cg)).setCell ⟨w.heap.size + 1, 2, none⟩ (.slice ao cs.length c1')).setCell ⟨w.heap.size + 1, 3, none⟩ (.int .i64 ck)).cell? ⟨w.heap.size + 1, 1, none⟩ = some (.int .i64 cg) := by
    rw [stc2 (by omega), stc2 (by omega)]
    exact World.cell?_setCell_same _ _ _ ((stc2 (by omega)).trans ((stc (by show w.heap.size + 1 ≠ w.heap.size; omega)).trans d1))
  have r2 : (((((w3.setCell ⟨w.heap.size, 2, none⟩ (.slice ao cs.length c1')).setCell ⟨w.heap.size + 1, 0, none⟩ (.int .i64 cu)).setCell ⟨w.heap.size + 1, 1, none⟩ (.int .i64 cg)).setCell ⟨w.heap.size + 1, 2, none⟩ (.slice ao cs.length c1')).setCell ⟨w.heap.size + 1, 3, none⟩ (.int .i64 ck)).cell? ⟨w.heap.size + 1, 2, none⟩ = some (.slice ao cs.length c1') := by
    rw [stc2 (by omega)]
    exact World.cell?_setCell_same _ _ _ ((stc2 (by omega)).trans ((stc2 (by omega)).trans ((stc (by show w.heap.size + 1 ≠ w.heap.size; omega)).trans d2)))
  have r3 : (((((w3.setCell ⟨w.heap.size, 2, none⟩ (.slice ao cs.length c1')).setCell ⟨w.heap.size + 1, 0, none⟩ (.int .i64 cu)).setCell ⟨w.heap.size + 1, 1, none⟩ (.int .i64 cg)).setCell ⟨w.heap.size + 1, 2, none⟩ (.slice ao cs.length c1')).setCell ⟨w.heap.size + 1, 3, none⟩ (.int .i64 ck)).cell? ⟨w.heap.size + 1, 3, none⟩ = some (.int .i64 ck) := World.cell?_setCell_same _ _ _ ((stc2 (by omega)).trans ((stc2 (by omega)).trans ((stc2 (by omega)).trans ((stc (by show w.heap.size + 1 ≠ w.heap.size; omega)).trans d3))))
  obtain ⟨wF, hwF⟩ : ∃ wF, (((((w3.setCell ⟨w.heap.size, 2, none⟩ (.slice ao cs.length c1')).setCell ⟨w.heap.size + 1, 0, none⟩ (.int .i64 cu)).setCell ⟨w.heap.size + 1, 1, none⟩ (.int .i64 cg)).setCell ⟨w.heap.size + 1, 2, none⟩ (.slice ao cs.length c1')).setCell ⟨w.heap.size + 1, 3, none⟩ (.int .i64 ck)) = wF := ⟨_, rfl⟩
  rw [hwF] at r0 r1 r2 r3 HFIN
  have HWF : Hid _ := hwF
  clear hwF far hrow hlt q3 HCL f0 f1 hs la lb hcap HSZ
  go_wp2
  rw [HWF.out]
  refine bodyPost_ret (v := .agg #[.int .i64 cu, .int .i64 cg, .slice ao cs.length c1', .int .i64 ck]) (by simp [results, Tryz.results45, go_sem, r0, r1, r2, r3]) rfl ⟨⟨ao, c1', rfl, HCAP.out, HFIN.out.1, HFIN.out.2.1⟩, HFIN.out.2.2⟩
end Go.Proofs.YtkjknbjjchdjlaaGreatDoor
namespace Go.Proofs.YtkjknbjjchdjlaaGreatDoor
open Go.RowKit
theorem to_idB {L : List Rg} {x y : Int} (h : toM L x = some y) : idB y = true ∧ I64 y := by
  unfold toM at h
  by_cases hm : mapF L = 0
  · rw [if_pos hm] at h
    obtain ⟨r, hr, h1, h2, rfl⟩ := walk_mem h
    have hb := mapF_bd hm r hr
    unfold Rg.bd at hb
    unfold idB I64
    simp
    omega
  · rw [if_neg hm] at h; cases h
/-- The upper with which a box begins. -/
theorem root_ok {us gs : List Rg} {cu cg : Int} {y : Nd} (h : mvF true us gs (.mk 2 493 cu cg false [] ⟨#[]⟩ []) = some y) : ∃ ux gx, y = .mk 2 493 ux gx false [] ⟨#[]⟩ [] ∧ (idB ux = true ∧ I64 ux) ∧ (idB gx = true ∧ I64 gx) := by
  rw [mvF] at h
  simp only [if_true] at h
  split at h
  · rename_i u' g' e1 e2
    cases h
    exact ⟨u', g', rfl, to_idB e1, to_idB e2⟩
  · cases h
theorem root_tf {ux gx : Int} (hu : idB ux = true) (hg : idB gx = true) : tfF true (.mk 2 493 ux gx false [] ⟨#[]⟩ []) = 0 := by
  rw [tf_val]
  refine ⟨rfl, ?_, by rw [cnt, cntL]; omega⟩
  rw [Val, ValL]
  refine ⟨by omega, ?_, trivial⟩
  rw [nfF, hu, hg]
  rfl
/-- A new box for maps. -/
def ZmB (w : World) (b : Nat) : Prop := w.cell? ⟨b, 0, none⟩ = some (.slice none 0 0) ∧ w.cell? ⟨b, 1, none⟩ = some (.slice none 0 0) ∧ (∀ q, w.frozen? ⟨b, q, none⟩ = false) ∧ b < w.heap.size
theorem ZmB.new (w : World) : ZmB (w.alloc (.cells #[.slice none 0 0, .slice none 0 0] 40)) w.heap.size := ⟨World.cell?_alloc_at _ _ _ _ rfl, World.cell?_alloc_at _ _ _ _ rfl, fun q => World.frozen?_alloc_at _ _ _ _ rfl, by rw [World.size_alloc]; omega⟩
theorem ZmB.lt {w : World} {b : Nat} (h : ZmB w b) : b < w.heap.size := h.2.2.2
theorem ZmB.below {w w' : World} {b : Nat} (h : ZmB w b) (hb : Below w.heap.size w w') : ZmB w' b := ⟨blwV hb h.1, blwV hb h.2.1, fun q => (hb.frozen (p := ⟨b, q, none⟩) h.lt).trans (h.2.2.1 q), Nat.lt_of_lt_of_le h.lt hb.size⟩
theorem rgs_other {w w' : World} {a : Option Addr} {rs : List Rg} (hb : Below w.heap.size w w') (h : Rgs w a rs) : Rgs w' a rs := h.below hb
/-- Two copies of ranges, in a box. -/
structure MbOk (wI w : World) (mb : Nat) (ao bo : Option Addr) (us gs : List Rg) (c1 c2 : Nat) : Prop where
  box : w.cell? ⟨mb, 0, none⟩ = some (.slice ao us.length c1) ∧ w.cell? ⟨mb, 1, none⟩ = some (.slice bo gs.length c2)
  low : Below wI.heap.size wI w
  u : Rgs w ao us
  g : Rgs w bo gs
  du : ∀ p, ao = some p → p.block < w.heap.size
  dg : ∀ p, bo = some p → p.block < w.heap.size
theorem rgs_set {w : World} {a : Option Addr} {rs : List Rg} {b i : Nat} {v : Value} (h : Rgs w a rs) (hn : ∀ p, a = some p → rs ≠ [] → p.block ≠ b) : Rgs (w.setCell ⟨b, i, none⟩ v) a rs := by
  rcases h with e | ⟨b0, off, rfl, hc⟩
  · exact .inl e
  · by_cases hr : rs = []
    · exact .inl hr
    · have hne : b0 ≠ b := hn _ rfl hr
      refine .inr ⟨b0, off, rfl, fun k r hk => ?_⟩
      obtain ⟨h0, h1, h2⟩ := hc k r hk
      exact ⟨(stc hne).trans h0, (stc hne).trans h1, (stc hne).trans h2⟩
theorem mb_set {wI w7 : World} {nx : Nat} {ao bo : Option Addr} {us gs : List Rg} {c1 c2 : Nat} (hz : ZmB w7 nx) (hb : Below wI.heap.size wI w7) (hle : wI.heap.size ≤ nx) (hu : Rgs w7 ao us) (hg : Rgs w7 bo gs) (du : ∀ p, ao = some p → p.block < w7.heap.size) (dg : ∀ p, bo = some p → p.block < w7.heap.size) (gu : ∀ p, ao = some p → us ≠ [] → p.block ≠ nx) (gg : ∀ p, bo = some p → gs ≠ [] → p.block ≠ nx) :
    MbOk wI ((w7.setCell ⟨nx, 0, none⟩ (.slice ao us.length c1)).setCell ⟨nx, 1, none⟩ (.slice bo gs.length c2)) nx ao bo us gs c1 c2 :=
  ⟨⟨(stc2 (by omega)).trans (World.cell?_setCell_same _ _ _ hz.1), World.cell?_setCell_same _ _ _ ((stc2 (by omega)).trans hz.2.1)⟩, (hb.setCell (p := ⟨nx, 0, none⟩) hle _).setCell (p := ⟨nx, 1, none⟩) hle _, rgs_set (rgs_set hu gu) gu, rgs_set (rgs_set hg gg) gg, fun p hp => by simpa using du p hp, fun p hp => by simpa using dg p hp⟩
theorem mb_new {wI w7 : World} {ao bo : Option Addr} {us gs : List Rg} {c1 c2 : Nat} (hb : Below wI.heap.size wI w7) (hu : Rgs w7 ao us) (hg : Rgs w7 bo gs) (du : ∀ p, ao = some p → p.block < w7.heap.size) (dg : ∀ p, bo = some p → p.block < w7.heap.size) :
    MbOk wI (w7.alloc (.cells #[.slice ao us.length c1, .slice bo gs.length c2] 40)) w7.heap.size ao bo us gs c1 c2 :=
  ⟨⟨World.cell?_alloc_at _ _ _ _ rfl, World.cell?_alloc_at _ _ _ _ rfl⟩, hb.alloc hb.size _, hu.below (alloc_bel2 _ _), hg.below (alloc_bel2 _ _), fun p hp => by have := du p hp; rw [World.size_alloc]; omega, fun p hp => by have := dg p hp; rw [World.size_alloc]; omega⟩
theorem cp_ns {w : World} {v : Value} {L : List Fl} {wr : World} (h : CpI w v L wr) (hne : L ≠ []) : ∃ g cap, v = .slice (some ⟨g, 0, none⟩) L.length cap ∧ (L.length ≤ cap ∧ cap ≤ 9223372036854775807) ∧ NsV wr.cell? (some ⟨g, 0, none⟩) (L.map Fl.x) := by
  rcases h.row.2 with ⟨rfl, h0⟩ | ⟨g, cap, cur, rfl, hb, hg, h1, h2, h3, h4⟩
  · exact absurd (List.length_eq_zero_iff.1 h0) hne
  · refine ⟨g, cap, rfl, ⟨h1, by unfold maxLen at h2; exact h2⟩, .inr ⟨g, 0, rfl, fun i => (L.getD i ⟨zN, zH, 0⟩).h, fun i x hi => ?_⟩⟩
    rw [List.getElem?_map] at hi
    obtain ⟨f, hf, rfl⟩ := Option.map_eq_some_iff.1 hi
    have e : (L.getD i ⟨zN, zH, 0⟩) = f := by rw [List.getD_eq_getElem?_getD, hf]; rfl
    dsimp only
    rw [e]
    refine ⟨nat_iff.2 fun q u hq => ?_, (h.nd f (List.mem_of_getElem? hf)).on (offS_le _ _)⟩
    rw [Nat.zero_add]
    exact ownsRow_cell hg h4 (flN_get L i f hf q u hq)
end Go.Proofs.YtkjknbjjchdjlaaGreatDoor
