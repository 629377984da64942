/-
  WHAT Flat HOLDS WHEN A PLACE IS DONE: no walk.
  WHAT Flat HOLDS AT ITS BEGINNING; THE MARKS: no walk.
  WHAT STANDS WHILE KIDS ARE PUT ON THE WORK: no walk.
  THE REGION IN WHICH Along LAYS WHAT IT SAW INTO ITS ROWS: each operation.
-/
import Derived.Test.YtgmeecfdkcbggaaFdX
import Derived.Test.YtgmeecfdkcbggaaNcX
import Derived.RangeFuncCalls
namespace Go.Proofs.Ytgmeecfdkcbggaa
open Go.RowKit Go.Shelf
theorem nat_other {c c' : Mem} {b p : Nat} {x : Nd} {h : Hd} (hn : NAt c b p x h) (hc : ∀ j, j < 8 → c' ⟨b, p + j, none⟩ = c ⟨b, p + j, none⟩) : NAt c' b p x h := by
  obtain ⟨k, m, u, g, o, at_, d, ks⟩ := x
  obtain ⟨h0, h1, h2, h3, h4, h5, h6, h7⟩ := hn
  exact ⟨(hc 0 (by omega)).trans h0, (hc 1 (by omega)).trans h1, (hc 2 (by omega)).trans h2, (hc 3 (by omega)).trans h3, (hc 4 (by omega)).trans h4, (hc 5 (by omega)).trans h5, (hc 6 (by omega)).trans h6, (hc 7 (by omega)).trans h7⟩
theorem FJ.tb {F : Nd → Nat → Nd} {S : Nat → Bool} (_hS : ∀ _w : World, True) {w W : World} {fb ab wb : Nat} {fv vw : Value} {T : List Ft} {top : Fls} (h : FJ F S w W fb ab wb fv vw T top) (hS0 : ∀ k, S k = true → k < w.heap.size) {t : Ft} (ht : t ∈ T) : w.heap.size < t.b ∧ t.b < W.heap.size ∧ flS w.heap.size wb vw S t.b = false ∧ t.b ≠ fb := by
  have hp := h.plc t ht
  obtain ⟨cs, ty, hh, hty⟩ := hp.typ
  have hlt := (Array.getElem?_eq_some_iff.1 hh).1
  have hlo := hp.lo
  have hne := hp.ne
  have hwb : t.b ≠ wb := fun e => by
    have := h.wbx
    unfold Boxed at this
    rw [← e, hh] at this
    simp at this
    rcases hty with q | q
    · rw [q] at this; exact absurd this.2 (by decide)
    · rw [q] at this; exact absurd this.2 (by decide)
  have hfb : t.b ≠ fb := fun e => by
    have := h.fbx
    rw [← e, hh] at this
    simp at this
    rcases hty with q | q
    · rw [q] at this; exact absurd this.2 (by decide)
    · rw [q] at this; exact absurd this.2 (by decide)
  have hrw : some t.b ≠ vw.ownBlock := fun e => by
    rcases h.row.2 with ⟨e1, _⟩ | ⟨g, cap, cur, e1, _, hg, _⟩
    · rw [e1] at e; cases e
    · rw [e1] at e
      simp [Value.ownBlock] at e
      rw [← e, hh] at hg
      simp at hg
      rcases hty with q | q
      · rw [q] at hg; exact absurd hg.2 (by decide)
      · rw [q] at hg; exact absurd hg.2 (by decide)
  refine ⟨by omega, hlt, flS_no.2 ⟨hne, hwb, hrw, ?_⟩, hfb⟩
  cases hh2 : S t.b with
  | false => rfl
  | true => have := hS0 _ hh2; omega
theorem FJ.next {F : Nd → Nat → Nd} {S : Nat → Bool} {w W0 W : World} {fb ab wb wb' : Nat} {fv vw vw' : Value} {T N : List Ft} {t : Ft} {top : Fls} (h : FJ F S w W0 fb ab wb fv vw (T ++ [t]) top) (hS0 : ∀ k, S k = true → k < w.heap.size) (r : RR w W0 W (flS w.heap.size wb vw S) (t.tk F))
    (hwb : Boxed W wb' 72 vw') (hwl : W0.heap.size ≤ wb') (hrow : W.ownsRow w.heap.size 71 2 vw' (T ++ N).length (flT (T ++ N))) (hvw : vw'.ownBlock = vw.ownBlock ∨ ∃ s, vw'.ownBlock = some s ∧ W0.heap.size ≤ s)
    {g : Nat} (hg : W0.heap.size ≤ g) (hNb : ∀ s ∈ N, s.b = g ∧ (∃ i, s.p = i * 9 + 1) ∧ (∃ cs, W.heap[g]? = some (.cells cs 48 (0, 0))) ∧ NAt W.cell? s.b s.p zN zH) (hNa : Apt (tks F N))
    {k m u gg : Int} {o : Bool} {at_ : List Kv} {d : ByteArray} {ks : Kds} {hd : Hd} (hx : flatD F t.l = .mk k m u gg o at_ d ks) (hn : NAt W.cell? t.b t.p (.mk k m u gg o at_ d ks) hd) (ha : Kvm (offS W.cell? (blkT (flS w.heap.size wb' vw' S) (tks F (T ++ N)))) hd.aa at_) (hca : at_.length ≤ hd.ca ∧ hd.ca ≤ 9223372036854775807) (hck : ks.length ≤ hd.ck ∧ hd.ck ≤ 9223372036854775807)
    (hak : ks = [] ∨ (hd.ak = some ⟨g, 0, none⟩ ∧ ∃ cs, W.heap[g]? = some (.cells cs 48 (0, 0)))) (hc : ∀ (i : Nat) nm y, ks[i]? = some (nm, y) → W.cell? ⟨g, i * 9, none⟩ = some (.string nm) ∧ (⟨g, i * 9 + 1, y⟩ : Tk) ∈ tks F N)
    (hsee : ∀ s ∈ N, SeenOk s.l ∧ SpL (offS W.cell? (blkT (flS w.heap.size wb' vw' S) (tks F (T ++ N)))) (.slice s.a s.l.length s.c) s.l) :
    FJ F S w W fb ab wb' fv vw' (T ++ N) top := by
  have tb := fun s hs => h.tb (fun _ => trivial) hS0 (t := s) hs
  have htm : t ∈ T ++ [t] := List.mem_append.2 (.inr (List.mem_singleton.2 rfl))
  obtain ⟨t1, t2, t3, t4⟩ := tb t htm
  have hnb : w.heap.size < W0.heap.size := by omega
  -- blocks that can be seen
  have vis : ∀ q, q < W0.heap.size → flS w.heap.size wb vw S q = false → flS w.heap.size wb' vw' S q = false := fun q hq hf => by
    obtain ⟨h1, _, h3, h4⟩ := flS_no.1 hf
    refine flS_no.2 ⟨h1, by omega, fun e => ?_, h4⟩
    rcases hvw with q1 | ⟨s, q1, q2⟩
    · exact h3 (e.trans q1)
    · rw [q1] at e
      simp at e
      omega
  have hgS : (∃ cs, W.heap[g]? = some (.cells cs 48 (0, 0))) → flS w.heap.size wb' vw' S g = false := fun ⟨cs, hh⟩ => by
    refine flS_no.2 ⟨by omega, fun e => ?_, fun e => ?_, ?_⟩
    · unfold Boxed at hwb
      rw [← e, hh] at hwb
      simp at hwb
    · rcases hrow.2 with ⟨e1, _⟩ | ⟨g', cap, cur, e1, _, hg', _⟩
      · rw [e1] at e; cases e
      · rw [e1] at e
        simp [Value.ownBlock] at e
        rw [← e, hh] at hg'
        simp at hg'
    · cases hh2 : S g with
      | false => rfl
      | true => have := hS0 _ hh2; omega
  have cellT : ∀ s ∈ T, ∀ j, j < 8 → W.cell? ⟨s.b, s.p + j, none⟩ = W0.cell? ⟨s.b, s.p + j, none⟩ := fun s hs j hj => by
    obtain ⟨s1, s2, s3, s4⟩ := tb s (List.mem_append.2 (.inl hs))
    by_cases e : s.b = t.b
    · refine r.cel _ e ?_
      have ha2 := h.apt
      unfold tks at ha2
      rw [List.map_append] at ha2
      have h1 := (List.pairwise_append.1 ha2).2.2 (s.tk F) (List.mem_map_of_mem hs) (t.tk F) (by simp)
      simp only [Ft.tk] at h1
      have h3 : (decide (t.p ≤ s.p + j) && decide (s.p + j < t.p + 8)) = false := by
        rcases h1 with q | q | q
        · exact absurd e q
        · rw [decide_eq_false (show ¬ t.p ≤ s.p + j by omega)]; rfl
        · rw [decide_eq_false (show ¬ s.p + j < t.p + 8 by omega), Bool.and_false]
      show ((s.b == t.b) && (decide (t.p ≤ s.p + j) && decide (s.p + j < t.p + 8))) = false
      rw [h3, Bool.and_false]
    · exact World.cell?_of_block (w := W0) (r.blk s.b s2 s3 e)
  have ety : tks F (T ++ [t]) = tks F T ++ [t.tk F] := by unfold tks; rw [List.map_append]; rfl
  have etN : tks F (T ++ N) = tks F T ++ tks F N := by unfold tks; rw [List.map_append]
  have mS : MLe (offS W0.cell? (blkT (flS w.heap.size wb vw S) (tks F (T ++ [t])))) (offS W.cell? (blkT (flS w.heap.size wb' vw' S) (tks F (T ++ N)))) := fun q v hq => by
    have hs := offS_off hq
    obtain ⟨b1, b2⟩ := blkT_no.1 hs
    have hq2 := offS_offT _ _ _ _ _ hq
    have hc0 := (offT_off hq2).2.2
    have hlt := World.block_lt_of_cell? _ _ hc0
    rw [offS_ne]
    · rw [ety] at hq2
      exact r.mle q v hq2
    · refine blkT_no.2 ⟨vis _ hlt b1, fun s hs e => ?_⟩
      rw [etN] at hs
      rcases List.mem_append.1 hs with hs | hs
      · exact b2 s (by rw [ety]; exact List.mem_append.2 (.inl hs)) e
      · obtain ⟨s0, hs0, rfl⟩ := List.mem_map.1 hs
        have := (hNb s0 hs0).1
        simp only [Ft.tk] at e
        omega
  refine ⟨r.low, ?_, ?_, ?_, h.fbl, hwb, by omega, hrow, ?_, ?_, ?_, ?_⟩
  · have hr := h.res
    refine ⟨?_, fun j => (World.frozen?_of_block (w := W0) r.res).trans (hr.2 j)⟩
    obtain ⟨e0, e1, e2, e3, e4, e5, e6, e7⟩ := hr.1
    have ce : ∀ j, W.cell? ⟨w.heap.size, j, none⟩ = W0.cell? ⟨w.heap.size, j, none⟩ := fun j => World.cell?_of_block (w := W0) r.res
    exact ⟨(ce _).trans e0, (ce _).trans e1, (ce _).trans e2, (ce _).trans e3, (ce _).trans e4, (ce _).trans e5, (ce _).trans e6, (ce _).trans e7⟩
  · rw [r.res]; exact h.rty
  · have hfl := (Array.getElem?_eq_some_iff.1 h.fbx).1
    rw [r.blk fb hfl ?_ (fun e => t4 e.symm)]
    · exact h.fbx
    · refine flS_no.2 ⟨fun e => ?_, fun e => ?_, fun e => ?_, ?_⟩
      · obtain ⟨cs, hh⟩ := h.rty
        have := h.fbx
        rw [e, hh] at this
        simp at this
      · have h1 := h.wbx
        unfold Boxed at h1
        have := h.fbx
        rw [e, h1] at this
        simp at this
      · rcases h.row.2 with ⟨e1, _⟩ | ⟨g', cap, cur, e1, _, hg', _⟩
        · rw [e1] at e; cases e
        · rw [e1] at e
          simp [Value.ownBlock] at e
          have := h.fbx
          rw [e, hg'] at this
          simp at this
      · cases hh2 : S fb with
        | false => rfl
        | true => have := hS0 _ hh2; have := h.fbl; omega
  · intro s hs
    rcases List.mem_append.1 hs with hs | hs
    · have hp := h.plc s (List.mem_append.2 (.inl hs))
      obtain ⟨s1, s2, s3, s4⟩ := tb s (List.mem_append.2 (.inl hs))
      refine ⟨hp.lo, hp.ne, ?_, nat_other hp.cell (cellT s hs)⟩
      by_cases e : s.b = t.b
      · rw [e]; exact r.typ
      · rw [r.blk s.b s2 s3 e]; exact hp.typ
    · obtain ⟨e1, _, ⟨cs, hh⟩, h3⟩ := hNb s hs
      exact ⟨by omega, by omega, ⟨cs, _, by rw [e1]; exact hh, .inr rfl⟩, h3⟩
  · rw [etN]
    refine List.pairwise_append.2 ⟨?_, hNa, fun a ha b hb => ?_⟩
    · have ha2 := h.apt
      rw [ety] at ha2
      exact (List.pairwise_append.1 ha2).1
    · obtain ⟨s, hs, rfl⟩ := List.mem_map.1 ha
      obtain ⟨s', hs', rfl⟩ := List.mem_map.1 hb
      left
      have h1 := (tb s (List.mem_append.2 (.inl hs))).2.1
      have h2 := (hNb s' hs').1
      simp only [Ft.tk]
      omega
  · intro s hs
    rcases List.mem_append.1 hs with hs | hs
    · obtain ⟨h1, h2⟩ := h.see s (List.mem_append.2 (.inl hs))
      exact ⟨h1, h2.on mS⟩
    · exact hsee s hs
  · rw [etN] at ha ⊢
    have hp := h.prt
    rw [ety] at hp
    refine part_next (c := W0.cell?) (S := flS w.heap.size wb vw S) (t := t.tk F) (n0 := W0.heap.size) (g := g) (h := hd) hx ?_ (fun q v hq => World.block_lt_of_cell? _ _ hq) ?_ hg ?_ vis r.mle hn (ha.on (offS_offT _ _ _)) hca hck (hak.imp id fun q => ⟨q.1, hgS q.2⟩) hc ?_ hp
    · have ha2 := h.apt
      rw [ety] at ha2
      exact ha2
    · intro s hs
      rw [← ety] at hs
      obtain ⟨s0, hs0, rfl⟩ := List.mem_map.1 hs
      exact ⟨(tb s0 hs0).2.1, (tb s0 hs0).2.2.1⟩
    · intro s hs
      obtain ⟨s0, hs0, rfl⟩ := List.mem_map.1 hs
      exact (hNb s0 hs0).1
    · intro s hs
      obtain ⟨s0, hs0, rfl⟩ := List.mem_map.1 hs
      exact (hNb s0 hs0).2.1
end Go.Proofs.Ytgmeecfdkcbggaa
namespace Go.Proofs.Ytgmeecfdkcbggaa
open Go.RowKit Go.Shelf
theorem FJ.start {F : Nd → Nat → Nd} {S : Nat → Bool} {w w1 : World} {fv : Value} {va : Option Addr} {vc n : Nat} {top : Fls} (_hS0 : ∀ k, S k = true → k < w.heap.size) (hB : Below w.heap.size w w1) (hnb : w.heap.size < w1.heap.size) (hR : NBw w1 w.heap.size zN zH) (hty : ∃ cs, w1.heap[w.heap.size]? = some (.cells cs 31 (0, 0))) (hok : SeenOk top) (hn : top.length = n)
    (hv : SpL (offS w1.cell? (fun k => k == w.heap.size || S k)) (.slice va n vc) top) :
    FJ F S w ((((w1.alloc (.cells #[fv] 44)).alloc (.cells #[.int .i64 0, .int .i64 0, .int .i64 0, .int .i64 0, .bool false, .slice none 0 0, .string ⟨#[]⟩, .slice none 0 0] 31)).alloc (.cells #[.pointer (some ⟨w1.heap.size + 1, 0, none⟩), .slice va n vc] 71)).alloc (.cells #[.slice (some ⟨w1.heap.size + 1 + 1, 0, none⟩) 1 1] 72))
      w1.heap.size (w1.heap.size + 1) (w1.heap.size + 1 + 1 + 1) fv (.slice (some ⟨w1.heap.size + 1 + 1, 0, none⟩) 1 1) [⟨w1.heap.size + 1, 0, va, vc, top⟩] top := by
  have b1 : Below w1.heap.size w1 (w1.alloc (.cells #[fv] 44)) := (Below.refl _ _).alloc (Nat.le_refl _) _
  have h1 := heap_alloc_new w1 (.cells #[fv] 44)
  have s1 : (w1.alloc (.cells #[fv] 44)).heap.size = w1.heap.size + 1 := World.size_alloc _ _
  generalize w1.alloc (.cells #[fv] 44) = w2 at b1 h1 s1
  have b2 : Below w2.heap.size w2 (w2.alloc (.cells #[.int .i64 0, .int .i64 0, .int .i64 0, .int .i64 0, .bool false, .slice none 0 0, .string ⟨#[]⟩, .slice none 0 0] 31)) := (Below.refl _ _).alloc (Nat.le_refl _) _
  have h2 := heap_alloc_new w2 (.cells #[.int .i64 0, .int .i64 0, .int .i64 0, .int .i64 0, .bool false, .slice none 0 0, .string ⟨#[]⟩, .slice none 0 0] 31)
  have z2 := NBw.zero w2
  have s2 : (w2.alloc (.cells #[.int .i64 0, .int .i64 0, .int .i64 0, .int .i64 0, .bool false, .slice none 0 0, .string ⟨#[]⟩, .slice none 0 0] 31)).heap.size = w2.heap.size + 1 := World.size_alloc _ _
  generalize w2.alloc (.cells #[.int .i64 0, .int .i64 0, .int .i64 0, .int .i64 0, .bool false, .slice none 0 0, .string ⟨#[]⟩, .slice none 0 0] 31) = w3 at b2 h2 s2 z2
  have b3 : Below w3.heap.size w3 (w3.alloc (.cells #[.pointer (some ⟨w1.heap.size + 1, 0, none⟩), .slice va n vc] 71)) := (Below.refl _ _).alloc (Nat.le_refl _) _
  have h3 := heap_alloc_new w3 (.cells #[.pointer (some ⟨w1.heap.size + 1, 0, none⟩), .slice va n vc] 71)
  have s3 : (w3.alloc (.cells #[.pointer (some ⟨w1.heap.size + 1, 0, none⟩), .slice va n vc] 71)).heap.size = w3.heap.size + 1 := World.size_alloc _ _
  generalize w3.alloc (.cells #[.pointer (some ⟨w1.heap.size + 1, 0, none⟩), .slice va n vc] 71) = w4 at b3 h3 s3
  have b4 : Below w4.heap.size w4 (w4.alloc (.cells #[.slice (some ⟨w1.heap.size + 1 + 1, 0, none⟩) 1 1] 72)) := (Below.refl _ _).alloc (Nat.le_refl _) _
  have h4 := heap_alloc_new w4 (.cells #[.slice (some ⟨w1.heap.size + 1 + 1, 0, none⟩) 1 1] 72)
  have s4 : (w4.alloc (.cells #[.slice (some ⟨w1.heap.size + 1 + 1, 0, none⟩) 1 1] 72)).heap.size = w4.heap.size + 1 := World.size_alloc _ _
  generalize w4.alloc (.cells #[.slice (some ⟨w1.heap.size + 1 + 1, 0, none⟩) 1 1] 72) = w5 at b4 h4 s4
  have e2 : w2.heap.size = w1.heap.size + 1 := s1
  have e3 : w3.heap.size = w1.heap.size + 1 + 1 := by omega
  have e4 : w4.heap.size = w1.heap.size + 1 + 1 + 1 := by omega
  rw [e2] at h2 z2
  rw [e3] at h3
  rw [e4] at h4
  have c2 := (b4.block (w1.heap.size + 1) (by omega)).trans ((b3.block (w1.heap.size + 1) (by omega)).trans h2)
  have c1 := (b4.block w1.heap.size (by omega)).trans ((b3.block w1.heap.size (by omega)).trans ((b2.block w1.heap.size (by omega)).trans h1))
  have c3 := (b4.block (w1.heap.size + 1 + 1) (by omega)).trans h3
  have z5 := (z2.below b3).below b4
  have B14 : Below w1.heap.size w1 w5 := b1.trans ((b2.mono (by omega)).trans ((b3.mono (by omega)).trans (b4.mono (by omega))))
  have hm : MLe (offS w1.cell? (fun k => k == w.heap.size || S k)) (offS w5.cell? (blkT (flS w.heap.size (w1.heap.size + 1 + 1 + 1) (.slice (some ⟨w1.heap.size + 1 + 1, 0, none⟩) 1 1) S) (tks F [⟨w1.heap.size + 1, 0, va, vc, top⟩]))) := mle_step fun k hk hs => by
    simp at hs
    refine ⟨blkT_no.2 ⟨flS_no.2 ⟨hs.1, by omega, ?_, hs.2⟩, ?_⟩, B14.block k hk⟩
    · simp [Value.ownBlock]; omega
    · intro t ht
      simp [Ft.tk] at ht
      subst ht
      show k ≠ w1.heap.size + 1
      omega
  refine ⟨hB.trans (B14.mono (by omega)), hR.below B14, ?_, c1, by omega, h4, by omega, ⟨rfl, .inr ⟨w1.heap.size + 1 + 1, 1, #[.pointer (some ⟨w1.heap.size + 1, 0, none⟩), .slice va n vc], rfl, by omega, c3, Nat.le_refl _, by decide, rfl, ?_⟩⟩, ?_, ?_, ?_, ?_⟩
  · obtain ⟨cs, hh⟩ := hty
    exact ⟨cs, (B14.block _ hnb).trans hh⟩
  · show [_, _] = [_, _]
    rw [hn]
  · intro t ht
    rw [List.mem_singleton] at ht
    subst ht
    exact ⟨by show w.heap.size ≤ w1.heap.size + 1; omega, by show w1.heap.size + 1 ≠ w.heap.size; omega, ⟨_, _, c2, .inl rfl⟩, z5.1.at⟩
  · simp [tks, Apt]
  · intro t ht
    rw [List.mem_singleton] at ht
    subst ht
    refine ⟨hok, ?_⟩
    show SpL _ (.slice va top.length vc) top
    rw [hn]
    exact hv.on hm
  · exact .hole (by simp [tks, Ft.tk])
/-- A frame of so many slots. -/
def frm (X : Nat → Value) : Array Value := #[X 0, X 1, X 2, X 3, X 4, X 5, X 6, X 7, X 8, X 9, X 10, X 11, X 12, X 13, X 14, X 15, X 16, X 17, X 18, X 19, X 20, X 21, X 22, X 23, X 24, X 25, X 26, X 27, X 28, X 29, X 30, X 31, X 32, X 33, X 34, X 35, X 36, X 37, X 38, X 39, X 40, X 41, X 42, X 43, X 44, X 45, X 46, X 47, X 48, X 49, X 50, X 51, X 52, X 53, X 54, X 55, X 56, X 57, X 58, X 59, X 60, X 61, X 62, X 63, X 64, X 65, X 66, X 67, X 68, X 69, X 70, X 71, X 72, X 73, X 74, X 75, X 76, X 77, X 78, X 79, X 80, X 81, X 82, X 83, X 84, X 85, X 86, X 87, X 88, X 89, X 90, X 91, X 92, X 93, X 94, X 95, X 96, X 97, X 98, X 99, X 100, X 101, X 102, X 103, X 104, X 105]
set_option maxRecDepth 100000 in
theorem frm_of (A : Array Value) (h : A.size = 106) : A = frm (fun i => A.getD i undef) := by
  have e : frm (fun i => A.getD i undef) = ((List.range 106).map (fun i => A.getD i undef)).toArray := rfl
  rw [e]
  apply Array.ext
  · simp [h]
  · intro i h1 h2
    simp [Array.getD, h1]
theorem frame_at {A : Array Value} {ds : List Deferred} (h : A.size = 106) : ({ tmps := A, defers := ds } : Act) = { tmps := frm (fun i => A.getD i undef), defers := ds } := by rw [← frm_of A h]
/-- Marks of loops that have ended. -/
abbrev mks (ks : List Nat) : List Deferred := ks.map fun k => { target := .collected k, args := #[] }
structure Mks (w W : World) (ks : List Nat) : Prop where
  nd : ks.Nodup
  at_ : ∀ k ∈ ks, w.heap.size < k ∧ W.heap[k]? = some (.deferred (some []))
theorem leaves_marks {P : Program} {fn : Func} {tmps : Array Value} {R : Ending → World → Prop} {w : World} : ∀ (ks : List Nat) (W : World), Mks w W ks → (∀ W' : World, (∀ q v, W.cell? q = some v → W'.cell? q = some v) → Below w.heap.size W W' → LeavesInM Fence.wide 0 P fn tmps R [] .returning W') → Below w.heap.size w W → LeavesInM Fence.wide 0 P fn tmps R (mks ks) .returning W
  | [], W, _, h, hl => h W (fun _ _ h => h) (Below.refl _ _)
  | k :: ks, W, hm, h, hl => by
    obtain ⟨hk1, hk2⟩ := hm.at_ k (List.mem_cons_self ..)
    obtain ⟨hn1, hn2⟩ := List.nodup_cons.1 hm.nd
    have hb : Below w.heap.size W (W.putObj k (.deferred none)) := below_put hl.size (Nat.le_of_lt hk1) _
    refine ⟨by simp, .inl ⟨_, _, rfl, run_takeDeferred hk2, ?_⟩⟩
    refine leaves_marks ks _ ⟨hn2, fun j hj => ?_⟩ (fun W' hc hb' => h W' (fun q v hq => hc q v (mle_put hk2 rfl _ q v hq)) (hb.trans hb')) (hl.trans hb)
    obtain ⟨j1, j2⟩ := hm.at_ j (List.mem_cons_of_mem _ hj)
    exact ⟨j1, (World.putObj_heap_other (fun e => hn1 (by rw [← e]; exact hj))).trans j2⟩
end Go.Proofs.Ytgmeecfdkcbggaa
namespace Go.Proofs.Ytgmeecfdkcbggaa
open Go.RowKit Go.Shelf
/-- What waits for the kid of a number. -/
def bt (g : Nat) (G : List Pe) (q : Nat) : Ft := match G[q]? with
  | some e => ⟨g, q * 9 + 1, e.a, e.c, e.L.map Sp.pr⟩
  | none => ⟨g, q * 9 + 1, none, 0, []⟩
/-- From the last one down. -/
def bts (g : Nat) (G : List Pe) (i : Nat) : List Ft := (((List.range G.length).drop i).reverse).map (bt g G)
theorem bts_end (g : Nat) (G : List Pe) : bts g G G.length = [] := by unfold bts; simp
theorem bts_next {g : Nat} {G : List Pe} {i : Nat} (h : i < G.length) : bts g G i = bts g G (i + 1) ++ [bt g G i] := by
  unfold bts
  have e : (List.range G.length).drop i = i :: (List.range G.length).drop (i + 1) := by
    rw [List.drop_eq_getElem_cons (by simpa using h)]
    simp
  rw [e, List.reverse_cons, List.map_append]
  rfl
theorem bts_len (g : Nat) (G : List Pe) (i : Nat) : (bts g G i).length = G.length - i := by unfold bts; simp
theorem bt_at {g : Nat} {G : List Pe} {i : Nat} {e : Pe} (h : G[i]? = some e) : bt g G i = ⟨g, i * 9 + 1, e.a, e.c, e.L.map Sp.pr⟩ := by unfold bt; rw [h]
theorem bts_mem {g : Nat} {G : List Pe} {i : Nat} {t : Ft} (h : t ∈ bts g G i) : ∃ q e, G[q]? = some e ∧ t = ⟨g, q * 9 + 1, e.a, e.c, e.L.map Sp.pr⟩ := by
  unfold bts at h
  obtain ⟨q, hq, rfl⟩ := List.mem_map.1 h
  have h1 := List.mem_of_mem_drop (List.mem_reverse.1 hq)
  rw [List.mem_range] at h1
  exact ⟨q, G[q], List.getElem?_eq_getElem h1, bt_at (List.getElem?_eq_getElem h1)⟩
theorem bts_all {g : Nat} {G : List Pe} {q : Nat} {e : Pe} (h : G[q]? = some e) : (⟨g, q * 9 + 1, e.a, e.c, e.L.map Sp.pr⟩ : Ft) ∈ bts g G 0 := by
  unfold bts
  rw [List.drop_zero, ← bt_at h]
  refine List.mem_map.2 ⟨q, ?_, rfl⟩
  rw [List.mem_reverse, List.mem_range]
  exact (List.getElem?_eq_some_iff.1 h).1
theorem bts_apt (F : Nd → Nat → Nd) (g : Nat) (G : List Pe) (i : Nat) : Apt (tks F (bts g G i)) := by
  unfold Apt tks bts
  rw [List.map_map, List.pairwise_map, List.pairwise_reverse]
  have h1 : ((List.range G.length).drop i).Pairwise (fun a b => a < b) := List.Pairwise.sublist (List.drop_sublist _ _) List.pairwise_lt_range
  refine h1.imp ?_
  intro a b hab
  have ep : ∀ q, (Ft.tk F (bt g G q)).p = q * 9 + 1 := fun q => by
    unfold bt
    cases G[q]? <;> rfl
  show _ ∨ (Ft.tk F (bt g G b)).p + 8 ≤ (Ft.tk F (bt g G a)).p ∨ (Ft.tk F (bt g G a)).p + 8 ≤ (Ft.tk F (bt g G b)).p
  rw [ep, ep]
  omega
theorem wt_bts {_g : Nat} {G : List Pe} : ∀ {l : Fls} {N : List ByteArray}, (pls G).map plP = N.map (fun nm => (nm, nxt l nm)) → (G.map fun e => tot (e.L.map Sp.pr)).sum = (N.map fun nm => tot (nxt l nm)).sum := by
  intro l N h
  have h1 := congrArg (List.map fun p : ByteArray × Fls => tot p.2) h
  rw [List.map_map, List.map_map] at h1
  have h2 : ((pls G).map ((fun p : ByteArray × Fls => tot p.2) ∘ plP)) = G.map fun e => tot (e.L.map Sp.pr) := by
    unfold pls
    rw [List.map_map]
    rfl
  rw [h2] at h1
  rw [h1]
  rfl
/-- What stands between two of them. -/
structure BJ (w wC A : World) (wb tb : Nat) (T : List Ft) (st : Loop) : Prop where
  low : Below w.heap.size w A
  siz : wC.heap.size + 2 ≤ A.heap.size
  blk : ∀ k, k < wC.heap.size → k ≠ wb → k ≠ tb → A.heap[k]? = wC.heap[k]?
  wbx : ∃ vw, Boxed A wb 72 vw ∧ A.ownsRow w.heap.size 71 2 vw T.length (flT T) ∧ (vw.ownBlock = some tb ∨ ∃ s, vw.ownBlock = some s ∧ wC.heap.size + 2 ≤ s)
  dk : A.heap[wC.heap.size]? = some (.deferred (some []))
  lk : A.heap[wC.heap.size + 1]? = some (.loop st)
theorem BJ.keep {w wC A B : World} {wb tb : Nat} {T : List Ft} {st : Loop} (h : BJ w wC A wb tb T st) (hb : Below A.heap.size A B) : BJ w wC B wb tb T st := by
  obtain ⟨vw, h1, h2, h3⟩ := h.wbx
  have hs := h.siz
  exact ⟨h.low.trans (hb.mono h.low.size), Nat.le_trans hs hb.size, fun k hk a b => (hb.block k (by omega)).trans (h.blk k hk a b), ⟨vw, boxed_bel h1 hb, ownsRow_bel h2 hb, h3⟩, (hb.block _ (by omega)).trans h.dk, (hb.block _ (by omega)).trans h.lk⟩
theorem BJ.put {w wC A : World} {wb tb : Nat} {T : List Ft} {st : Loop} (h : BJ w wC A wb tb T st) (hl : w.heap.size ≤ wC.heap.size) (st' : Loop) : BJ w wC (A.putObj (wC.heap.size + 1) (.loop st')) wb tb T st' := by
  obtain ⟨vw, h1, h2, h3⟩ := h.wbx
  refine ⟨h.low.trans (below_put h.low.size (by omega) _), by rw [World.putObj_size]; exact h.siz, fun k hk a b => (World.putObj_heap_other (by omega)).trans (h.blk k hk a b), ⟨vw, boxed_putL h1 h.lk _, ownsRow_putObj h2 _ h.lk rfl, h3⟩, (World.putObj_heap_other (by omega)).trans h.dk, World.putObj_heap_same (by have := h.siz; omega)⟩
theorem BJ.push {w wC A B : World} {wb tb : Nat} {T : List Ft} {t : Ft} {st : Loop} {tmp : Obj} {vw v' : Value} (h : BJ w wC A wb tb T st) (hwl : w.heap.size ≤ wb) (hbx : Boxed A wb 72 vw) (hr : A.ownsRow w.heap.size 71 2 vw T.length (flT T)) (ho : vw.ownBlock = some tb ∨ ∃ s, vw.ownBlock = some s ∧ wC.heap.size + 2 ≤ s)
    (hown : B.ownsRow w.heap.size 71 2 v' (T.length + 1) (flT T ++ flT [t])) (hg : (A.alloc tmp).grownBy B vw.ownBlock) (hv : v'.ownBlock = vw.ownBlock ∨ v'.ownBlock = some (A.alloc tmp).heap.size) : BJ w wC (B.setCell ⟨wb, 0, none⟩ v') wb tb (T ++ [t]) st := by
  have hs := h.siz
  rw [World.size_alloc] at hv
  have hsz : A.heap.size + 1 ≤ B.heap.size := by have := hg.size; rwa [World.size_alloc] at this
  have hwb : some wb ≠ vw.ownBlock := hbx.not_row (by decide) hr
  have hbB : Boxed B wb 72 vw := by
    have h1 := hbx.lt
    exact (hg.block wb (by rw [World.size_alloc]; omega) hwb).trans ((Below.heap_alloc _ _ _ h1).trans hbx)
  have hvr : some wb ≠ v'.ownBlock := hbB.not_row (by decide) hown
  have blk : ∀ k, k < A.heap.size → some k ≠ vw.ownBlock → k ≠ wb → (B.setCell ⟨wb, 0, none⟩ v').heap[k]? = A.heap[k]? := fun k hk h1 h2 => by
    rw [Below.heap_setCell _ _ _ _ (by exact h2), hg.block k (by rw [World.size_alloc]; omega) h1, Below.heap_alloc _ _ _ hk]
  have hlt : ∀ q, vw.ownBlock = some q → w.heap.size ≤ q := fun q hq => (hr.lt q hq).1
  have hown2 : ∀ k, k < wC.heap.size + 2 → k ≠ tb → some k ≠ vw.ownBlock := fun k hk h1 e => by
    rcases ho with q | ⟨s, q, q2⟩
    · rw [q] at e; simp at e; exact h1 e
    · rw [q] at e; simp at e; omega
  have hndk : ∀ (k : Nat) (o : Obj), A.heap[k]? = some o → o.isCells = false → some k ≠ vw.ownBlock := fun k o hk hoc e => by
    rcases hr.2 with ⟨e1, _⟩ | ⟨g, cap, cur, e1, _, hgg, _⟩
    · rw [e1] at e; cases e
    · rw [e1] at e
      simp [Value.ownBlock] at e
      rw [← e, hk] at hgg
      cases hgg
      simp [Obj.isCells] at hoc
  have hnwb : ∀ (k : Nat) (o : Obj), A.heap[k]? = some o → o.isCells = false → k ≠ wb := fun k o hk hoc e => by
    have h1 := hbx
    unfold Boxed at h1
    rw [← e, hk] at h1
    cases h1
    simp [Obj.isCells] at hoc
  refine ⟨?_, by rw [World.size_setCell]; omega, fun k hk a b => ?_, ⟨v', hbB.set _, ?_, ?_⟩, ?_, ?_⟩
  · refine h.low.trans ?_
    have h1 : Below w.heap.size A B := ((Below.refl _ A).alloc h.low.size _).grown hg (by rw [World.size_alloc]; have := h.low.size; omega) (fun q hq => hlt q hq)
    exact h1.setCell (p := ⟨wb, 0, none⟩) hwl _
  · exact (blk k (by omega) (hown2 k (by omega) b) a).trans (h.blk k hk a b)
  · rw [List.length_append, flT_app]
    exact owns_keep hown fun g hgo => Below.heap_setCell _ _ _ _ (fun e => hvr (by rw [hgo]; exact congrArg some (Eq.symm e)))
  · rcases hv with q | q
    · rw [q]; exact ho
    · exact .inr ⟨_, q, by omega⟩
  · exact (blk _ (by omega) (hndk _ _ h.dk rfl) (hnwb _ _ h.dk rfl)).trans h.dk
  · exact (blk _ (by omega) (hndk _ _ h.lk rfl) (hnwb _ _ h.lk rfl)).trans h.lk
end Go.Proofs.Ytgmeecfdkcbggaa
namespace Go.Proofs.Ytgmeecfdkcbggaa
open Go.RowKit Go.Shelf
theorem opIn_of {l n : Nat} {P : Program} {ops : Array Oper} {Q : Exit → Act → World → Prop} {i : Nat} {o : Oper} {K : Act → World → Prop} {a : Act} {w : World} (ho : ops[i]? = some o) (hgd : o.guard = none) (hnd : ∀ c, o.op ≠ .defer c) (hrow : ∀ r args w', (execOp a.eval o).run P w ≠ .ok (.row r args) w')
    (h : o.wp P a w K Q) : wpOpIn (Fence.wide.inRound l) n P ops Q i K a w := by
  unfold wpOpIn
  rw [ho]
  have hw : Region.wanted o (yielded ops a.tmps) = true := by simp [Region.wanted, hgd]
  simp only [hw, if_true]
  refine ⟨fun f _ => trivial, ?_⟩
  unfold Oper.wp at h
  rw [Fence.inRound_round, Oper.semAt_some _ _ _ hnd]
  generalize (execOp a.eval o).run P w = r at *
  cases r with
  | ok x w' =>
    cases x <;> simp only [Oper.upon, Oper.uponIn] at h ⊢
    case value => exact h
    case skip => exact h
    case defer => exact h
    case enter f args => exact ⟨fun e => by simp [Fence.inRound, Fence.wide] at e, CallsIn.inRound l (callsIn_wide.2 h)⟩
    case row => exact absurd rfl (hrow _ _ _)
  | halt x w' => cases x <;> simp only [Oper.upon, Oper.uponIn] at h ⊢ <;> exact h
theorem opIn_append_src {l n' : Nat} {P : Program} (w : World) {ops : Array Oper} {Q : Exit → Act → World → Prop} {j : Nat} {o : Oper} {K : Act → World → Prop} {a : Act} (hoj : ops[j]? = some o) (hgd : o.guard = none) (s x : Operand) (t : TypeId)
    (ho : o.op = .call { callee := .builtin .append, args := #[s, x], argTypes := #[t, t] })
    (base : Nat) (e : TypeId) (i : TypeInfo) (z : Value) (size bytes : Nat) (ht : P.underlying t = some (.slice e)) (hi : P.info? e = some i) (hz : i.zero = some z)
    (hsize : i.size = size) (hby : i.bytes = bytes) (hzs : z.cells.size = size) (hsz : 0 < size)
    (v : Value) (n : Nat) (xs : List Value) (hs : a.eval s = v) (hown : w.ownsRow base e size v n xs)
    (ao : Option Addr) (m c : Nat) (news : List Value) (hx : a.eval x = .slice ao m c) (hl : news.length = m * size) (hsrc : (ao = none ∧ m = 0) ∨ ∃ ad, ao = some ad ∧ ∀ j u, news[j]? = some u → w.cell? (ad.add j) = some u) (h1 : ∀ u ∈ news, u.oneCell' = true)
    (h63 : n + m ≤ maxLen) (hbytes : (n + m) * bytes ≤ 140737488355328) (hbase : base ≤ w.heap.size)
    (h : ∀ v' w', w'.ownsRow base e size v' (n + m) (xs ++ news) → w.grownBy w' v.ownBlock → (v'.ownBlock = v.ownBlock ∨ v'.ownBlock = some w.heap.size) → K (a.put o.dst v') w') : wpOpIn (Fence.wide.inRound l) n' P ops Q j K a w := by
  obtain ⟨v', w', hr, h2, h3, h4⟩ := run_append_src (P := P) w base t o.type e i z size bytes ht hi hz hsize hby hzs hsz v n xs hown ao m c news hl hsrc h1 h63 hbytes hbase
  refine opIn_of hoj hgd (fun c => by rw [ho]; simp) ?_ (wp_append_src w s x t ho base e i z size bytes ht hi hz hsize hby hzs hsz v n xs hs hown ao m c news hx hl hsrc h1 h63 hbytes hbase h)
  intro r args w'
  unfold execOp
  simp only [ho, resolve, invoke, builtin, Sem.run_bind, Sem.run_pure, Result.andThen_ok, List.map_toArray, List.map_cons, List.map_nil, hs, hx, hr]
  simp
theorem nd_newA (w : World) (x : Nd) (h : Hd) (t : TypeId) : ∀ j u, (ndL x h)[j]? = some u → (w.alloc (.cells (ndL x h).toArray t)).cell? ⟨w.heap.size, j, none⟩ = some u := by
  intro j u hj
  refine (World.cell?_alloc_at _ _ _ _ rfl).trans ?_
  simpa using hj
theorem Try.infoNd : (Try.prog.info? 31).map (fun i => (i.zero, i.size, i.bytes)) = some (some (.agg #[.int .i64 0, .int .i64 0, .int .i64 0, .int .i64 0, .bool false, .slice none 0 0, .string ⟨#[]⟩, .slice none 0 0]), 8, 104) := by kernel_rfl
end Go.Proofs.Ytgmeecfdkcbggaa
