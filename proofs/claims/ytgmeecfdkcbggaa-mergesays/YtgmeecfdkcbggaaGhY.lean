/-
  THE DOCUMENT's Flat: the walk.
-/
import Derived.Test.YtgmeecfdkcbggaaGfY
import Derived.Test.YtgmeecfdkcbggaaGjY
import Derived.Test.YtgmeecfdkcbggaaGdX
namespace Go.Proofs.Ytgmeecfdkcbggaa
open Go.RowKit
theorem rlook_one {w : World} {S : Nat → Bool} (hS0 : ∀ k, S k = true → k < w.heap.size) {a : Option Addr} {cap : Nat} {xs : List Nd} {an : Option Addr} {capn : Nat} {names : List ByteArray} (hx : NsV (offS w.cell? S) a xs) (hs : Strs w.cell? an names) (hok : LaysOk xs) (hln : names.length ≤ 1000) :
    Calls Try.prog 10 #[.slice a xs.length cap, .slice an names.length capn] w fun e w' => (∃ h, e = .returned (.tuple #[ndV (lkX (stackP xs names)) h, .int .i64 (lkL (stackP xs names)), .bool (lkB (stackP xs names))]) ∧ NdV (offS w'.cell? S) (lkX (stackP xs names)) h) ∧ Below w.heap.size w w' := by
  refine Calls.mono (rlook_any (cap := cap) (capn := capn) hS0 hx hs hok.len hln hok.small) fun e w' ⟨h, hB⟩ => ⟨?_, hB⟩
  cases hst : stackP xs names with
  | nil => rw [hst] at h; exact ⟨zH, h, nZ0 _⟩
  | cons q r => rw [hst] at h; exact h
theorem two_mz (W A B : World) (hA : A = W.alloc (.cells #[.slice none 0 0, .slice none 0 0] 43)) (hB : B = A.alloc (.cells #[.int .i64 0, .int .i64 0, .int .i64 0, .int .i64 0, .bool false, .slice none 0 0, .string ⟨#[]⟩, .slice none 0 0] 31)) :
    B.cell? ⟨W.heap.size, 0, none⟩ = some (.slice none 0 0) ∧ B.cell? ⟨W.heap.size, 1, none⟩ = some (.slice none 0 0) ∧ NBw B (W.heap.size + 1) zN zH ∧ Below W.heap.size W B ∧ B.heap.size = W.heap.size + 1 + 1 := by
  have hz : A.heap.size = W.heap.size + 1 := by rw [hA, World.size_alloc]
  have h1 := two_new W (.slice none 0 0) (.slice none 0 0) 43
  rw [← hA] at h1
  have hb : Below A.heap.size A B := by rw [hB]; exact (Below.refl _ _).alloc (Nat.le_refl _) _
  refine ⟨mle_below hb _ _ h1.1, mle_below hb _ _ h1.2, ?_, ?_, by rw [hB, World.size_alloc, hz]⟩
  · rw [hB, ← hz]; exact NBw.zero A
  · rw [hB, hA]; exact ((Below.refl _ W).alloc (Nat.le_refl _) _).alloc (by rw [World.size_alloc]; omega) _
theorem NBw.kids7 {W : World} {nb : Nat} {k m u g : Int} {o : Bool} {at_ : List Kv} {d : ByteArray} {ks ks' : Kds} {h : Hd} (hb : NBw W nb (.mk k m u g o at_ d ks) h) (a : Option Addr) (c : Nat) : NBw (W.setCell ⟨nb, 7, none⟩ (.slice a ks'.length c)) nb (.mk k m u g o at_ d ks') ⟨h.aa, h.ca, a, c⟩ := by
  obtain ⟨⟨e0, e1, e2, e3, e4, e5, e6, e7⟩, hf⟩ := hb
  have ot : ∀ j, j ≠ 7 → (W.setCell ⟨nb, 7, none⟩ (.slice a ks'.length c)).cell? ⟨nb, j, none⟩ = W.cell? ⟨nb, j, none⟩ := fun j hj => World.cell?_setCell_other _ _ _ _ (fun e => hj (Addr.mk.inj e).2.1.symm)
  exact ⟨⟨(ot 0 (by decide)).trans e0, (ot 1 (by decide)).trans e1, (ot 2 (by decide)).trans e2, (ot 3 (by decide)).trans e3, (ot 4 (by decide)).trans e4, (ot 5 (by decide)).trans e5, (ot 6 (by decide)).trans e6, World.cell?_setCell_same _ _ _ e7⟩, fun j => (World.frozen?_setCell _ _ _ _).trans (hf j)⟩
/-- What stands while kids are made. -/
structure FI (W w6 wr : World) (nb : Nat) (S : Nat → Bool) (k m u g : Int) (at_ : List Kv) (d : ByteArray) (aa : Option Addr) (ca : Nat) (v : Value) (L : Khs) : Prop where
  low : Below W.heap.size W wr
  siz : w6.heap.size ≤ wr.heap.size
  blk : ∀ q, q < w6.heap.size → q ≠ nb → wr.heap[q]? = w6.heap[q]?
  row : wr.ownsRow w6.heap.size 48 9 v L.length (kfl L)
  box : ∃ ak ck, v = .slice ak L.length ck ∧ NBw wr nb (.mk k m u g false at_ d (bare L)) ⟨aa, ca, ak, ck⟩
  nds : ∀ p ∈ L, NdV (offS wr.cell? (fun q => (q == nb || some q == v.ownBlock) || S q)) p.2.1 p.2.2
theorem FI.keep {W w6 wr w' : World} {nb : Nat} {S : Nat → Bool} {k m u g : Int} {at_ : List Kv} {d : ByteArray} {aa : Option Addr} {ca : Nat} {v : Value} {L : Khs} (h : FI W w6 wr nb S k m u g at_ d aa ca v L) (hb : Below wr.heap.size wr w') : FI W w6 w' nb S k m u g at_ d aa ca v L := by
  obtain ⟨ak, ck, e, hbx⟩ := h.box
  exact ⟨h.low.trans (hb.mono h.low.size), Nat.le_trans h.siz hb.size, fun q hq hn => (hb.block q (Nat.lt_of_lt_of_le hq h.siz)).trans (h.blk q hq hn), ownsRow_bel h.row hb, ⟨ak, ck, e, hbx.below hb⟩, fun p hp => (h.nds p hp).on (mle_S hb)⟩
theorem FI.push {W w6 V W2 : World} {nb xb : Nat} {S : Nat → Bool} {k m u g : Int} {at_ : List Kv} {d : ByteArray} {aa : Option Addr} {ca : Nat} {v v' : Value} {L : Khs} {nm : ByteArray} {R : Nd} {hr : Hd} {o : Obj} (h : FI W w6 V nb S k m u g at_ d aa ca v L) (hnb : nb < w6.heap.size) (hWn : W.heap.size ≤ nb) (hn : NdV (offS V.cell? (fun q => (true && q == xb) || ((q == nb || some q == v.ownBlock) || S q))) R hr) (hap : ApK w6.heap.size v L.length (kfl L) (kfl [(nm, R, hr)]) (V.alloc o) v' W2) : FI W w6 (W2.setCell ⟨nb, 7, none⟩ v') nb S k m u g at_ d aa ca v' (L ++ [(nm, R, hr)]) := by
  have hs := h.siz
  have hg := hap.gro
  have hsz : V.heap.size + 1 ≤ W2.heap.size := by have := hg.size; rwa [World.size_alloc] at this
  have hvo : some nb ≠ v.ownBlock := fun e => by have := (h.row.lt nb e.symm).1; omega
  have hvo' : some nb ≠ v'.ownBlock := fun e => by have := (hap.own.lt nb e.symm).1; omega
  have bk : ∀ q, q < V.heap.size → q ≠ nb → some q ≠ v.ownBlock → (W2.setCell ⟨nb, 7, none⟩ v').heap[q]? = V.heap[q]? := fun q hq h1 h2 =>
    (Below.heap_setCell _ _ _ _ h1).trans ((hg.block q (by rw [World.size_alloc]; omega) h2).trans (Below.heap_alloc _ _ _ hq))
  have M : MLe (offS V.cell? (fun q => (q == nb || some q == v.ownBlock) || S q)) (offS (W2.setCell ⟨nb, 7, none⟩ v').cell? (fun q => (q == nb || some q == v'.ownBlock) || S q)) := mle_step fun q hq hh => by
    simp at hh
    refine ⟨?_, bk q hq hh.1.1 hh.1.2⟩
    simp
    refine ⟨⟨hh.1.1, fun e => ?_⟩, hh.2⟩
    rcases hap.blk with e2 | e2
    · rw [e2] at e; exact hh.1.2 e
    · rw [e2, World.size_alloc] at e; simp at e; omega
  obtain ⟨ak, ck, e, hbx⟩ := h.box
  obtain ⟨a2, c2, e2, _, _, _⟩ := owns_cells hap.own
  have hlow2 : Below W.heap.size W W2 := (h.low.trans ((Below.refl _ V).alloc h.low.size o)).grown hg (by rw [World.size_alloc]; have := h.low.size; omega) (fun q hq => by have := (h.row.lt q hq).1; omega)
  have hnb2 : NBw W2 nb (.mk k m u g false at_ d (bare L)) ⟨aa, ca, ak, ck⟩ := by
    have hh : W2.heap[nb]? = V.heap[nb]? := (hg.block nb (by rw [World.size_alloc]; omega) hvo).trans (Below.heap_alloc _ _ _ (by omega))
    obtain ⟨⟨e0, e1, e2, e3, e4, e5, e6, e7⟩, hf⟩ := hbx
    have ce : ∀ j, W2.cell? ⟨nb, j, none⟩ = V.cell? ⟨nb, j, none⟩ := fun j => World.cell?_of_block (w := V) hh
    exact ⟨⟨(ce 0).trans e0, (ce 1).trans e1, (ce 2).trans e2, (ce 3).trans e3, (ce 4).trans e4, (ce 5).trans e5, (ce 6).trans e6, (ce 7).trans e7⟩, fun j => (World.frozen?_of_block (w := V) hh).trans (hf j)⟩
  have hlen : (bare (L ++ [(nm, R, hr)])).length = L.length + 1 := by simp [bare]
  refine ⟨hlow2.setCell (p := ⟨nb, 7, none⟩) hWn _, by rw [World.size_setCell]; omega, fun q hq hn' => ?_, ?_, ⟨a2, c2, ?_, ?_⟩, fun p hp => ?_⟩
  · exact (bk q (by omega) hn' (fun e => by have := (h.row.lt q e.symm).1; omega)).trans (h.blk q hq hn')
  · rw [List.length_append, kfl_append]
    exact owns_keep hap.own fun q hq => Below.heap_setCell _ _ _ _ (fun e => hvo' (by rw [hq]; exact congrArg some (Eq.symm e)))
  · rw [e2, List.length_append]; rfl
  · rw [e2, ← hlen]
    exact hnb2.kids7 a2 c2
  · rcases List.mem_append.1 hp with hp | hp
    · exact (h.nds p hp).on M
    · rw [List.mem_singleton] at hp
      rw [hp]
      exact (hn.on (mle_less fun q hq => by simp at hq ⊢; exact hq.2)).on M
theorem str_src {c : Mem} {an : Option Addr} {names : List ByteArray} (h : Strs c an names) : (an = none ∧ names.length = 0) ∨ ∃ ad, an = some ad ∧ ∀ j u, (strL names)[j]? = some u → c (ad.add j) = some u := by
  rcases h with e | ⟨b, off, e, h⟩
  · cases an with
    | none => exact .inl ⟨rfl, by rw [e]; rfl⟩
    | some ad => exact .inr ⟨ad, rfl, fun j u hj => by rw [e] at hj; simp [strL] at hj⟩
  · refine .inr ⟨_, e, fun j u hj => ?_⟩
    unfold strL at hj
    rw [List.getElem?_map] at hj
    obtain ⟨s, hs, rfl⟩ := Option.map_eq_some_iff.1 hj
    rw [addr_add]
    exact h j s hs
theorem FI.end_ {W w6 wr w' : World} {nb : Nat} {S0 : Nat → Bool} {k m u g : Int} {at_ : List Kv} {d : ByteArray} {aa : Option Addr} {ca : Nat} {v : Value} {L : Khs} {ak : Option Addr} {ck : Nat} (h : FI W w6 wr nb (fun k => (k == W.heap.size || k == W.heap.size + 1) || S0 k) k m u g at_ d aa ca v L) (hv : v = .slice ak L.length ck) (hS0 : ∀ q, S0 q = true → q < W.heap.size) (hW : W.heap.size + 1 + 1 ≤ nb) (hnb : nb < w6.heap.size) (hK : Kvm (offS w6.cell? (fun q => q == nb || (fun k => (k == W.heap.size || k == W.heap.size + 1) || S0 k) q)) aa at_) (hca : at_.length ≤ ca ∧ ca ≤ 9223372036854775807) (hb : But (W.heap.size + 1) wr w') : NdV (offS w'.cell? S0) (.mk k m u g false at_ d (bare L)) ⟨aa, ca, ak, ck⟩ := by
  obtain ⟨_, _, e1, c1, c2, hcase⟩ := owns_cells h.row
  have e2 := hv.symm.trans e1
  simp only [Value.slice.injEq, true_and] at e2
  obtain ⟨rfl, rfl⟩ := e2
  have hlen : (bare L).length = L.length := by unfold bare; rw [List.length_map]
  refine ndV_iff.2 ⟨?_, hca, ⟨by rw [hlen]; exact c1, c2⟩, ksH_ksV ⟨?_, fun p hp => ?_⟩⟩
  · refine hK.on (mle_step fun q hq hs => ?_)
    simp at hs
    exact ⟨hs.2.2, (hb.block q (Nat.lt_of_lt_of_le hq h.siz) hs.2.1.2).trans (h.blk q hq hs.1)⟩
  · rcases hcase with ⟨_, h0, _⟩ | ⟨g, e, hg0, hg1, hc, _⟩
    · exact .inl (List.eq_nil_of_length_eq_zero h0)
    · refine .inr ⟨g, 0, e, fun j u hj => ?_⟩
      rw [Nat.zero_add, offS_ne]
      · exact (World.cell?_of_block (w := wr) (hb.block g hg1 (by omega))).trans (hc j u hj)
      · show S0 g = false
        cases hh : S0 g with
        | false => rfl
        | true => have := hS0 g hh; omega
  · refine (h.nds p hp).on (mle_step fun q hq hs => ?_)
    simp at hs
    exact ⟨hs.2.2, hb.block q hq hs.2.1.2⟩
set_option maxRecDepth 100000 in
set_option maxHeartbeats 2000000 in
theorem rflat_nil {xs : List Nd} {a : Option Addr} {cap : Nat} (hok : LaysOk xs) {W : World} {S : Nat → Bool} {an : Option Addr} {capn : Nat} {names : List ByteArray} (hst : stackP xs names = []) (hnl : names.length ≤ 1000) (hS0 : ∀ k, S k = true → k < W.heap.size) (hx : NsV (offS W.cell? S) a xs) (hs : Strs W.cell? an names) :
    Calls Try.prog 18 #[.slice a xs.length cap, .slice an names.length capn, .agg #[.slice none 0 0, .slice none 0 0], .bool false] W fun e W' => (∃ h, e = .returned (.tuple #[ndV (flat0 (stackP xs names)) h, .bool (lkB (stackP xs names))]) ∧ NdV (offS W'.cell? S) (flat0 (stackP xs names)) h) ∧ Below W.heap.size W W' := by
  obtain ⟨c0, c1, NB, hB, hz2⟩ := two_mz W _ _ rfl rfl
  have HLK : Hid (Calls Try.prog 10 #[.slice a xs.length cap, .slice an names.length capn] ((W.alloc (.cells #[.slice none 0 0, .slice none 0 0] 43)).alloc (.cells #[.int .i64 0, .int .i64 0, .int .i64 0, .int .i64 0, .bool false, .slice none 0 0, .string ⟨#[]⟩, .slice none 0 0] 31)) fun e w' => (∃ h : Hd, e = .returned (.tuple #[.agg #[.int .i64 0, .int .i64 0, .int .i64 0, .int .i64 0, .bool false, .slice h.aa 0 h.ca, .string ⟨#[]⟩, .slice h.ak 0 h.ck], .int .i64 0, .bool false])) ∧ Below ((W.alloc (.cells #[.slice none 0 0, .slice none 0 0] 43)).alloc (.cells #[.int .i64 0, .int .i64 0, .int .i64 0, .int .i64 0, .bool false, .slice none 0 0, .string ⟨#[]⟩, .slice none 0 0] 31)).heap.size ((W.alloc (.cells #[.slice none 0 0, .slice none 0 0] 43)).alloc (.cells #[.int .i64 0, .int .i64 0, .int .i64 0, .int .i64 0, .bool false, .slice none 0 0, .string ⟨#[]⟩, .slice none 0 0] 31)) w') := by
    have e := rlook_one (w := ((W.alloc (.cells #[.slice none 0 0, .slice none 0 0] 43)).alloc (.cells #[.int .i64 0, .int .i64 0, .int .i64 0, .int .i64 0, .bool false, .slice none 0 0, .string ⟨#[]⟩, .slice none 0 0] 31))) (S := (fun k => (k == W.heap.size || k == W.heap.size + 1) || S k)) (cap := cap) (capn := capn) (names := names) (fun k hk => by
      rw [hz2]
      simp at hk
      rcases hk with (e | e) | e
      · omega
      · omega
      · have := hS0 k e; omega) (hx.on (mle_step fun k hk hs => ⟨by simp [hs]; omega, hB.block k hk⟩)) (hs.on (mle_below hB)) hok (by omega)
    rw [hst] at e
    exact Calls.mono e fun e W' ⟨⟨h, h1, _⟩, hb⟩ => ⟨⟨h, h1⟩, hb⟩
  rw [hst]
  clear hst hx hs hok hz2
  go_enter Try.func18, Try.ntmps18
  go_wp2_with fail
  with_reducible refine Calls.mono HLK.out ?_
  rintro e w3 ⟨⟨h3, rfl⟩, hq⟩
  have hq2 := alloc_bel2 w3 (.cells #[.int .i64 0, .int .i64 0, .int .i64 0, .int .i64 0, .bool false, .slice h3.aa 0 h3.ca, .string ⟨#[]⟩, .slice h3.ak 0 h3.ck] 31)
  have hq3 := hq.trans (hq2.mono hq.size)
  replace hB := hB.trans (hq3.mono hB.size)
  replace NB := NB.below hq3
  clear hq hq2 hq3 HLK c0 c1
  go_upto_region 2 with fail
  generalize w3.alloc (.cells #[.int .i64 0, .int .i64 0, .int .i64 0, .int .i64 0, .bool false, .slice h3.aa 0 h3.ca, .string ⟨#[]⟩, .slice h3.ak 0 h3.ck] 31) = w4 at hB NB ⊢
  have R3 := NBw.store NB zN zH
  have hB3 : Below W.heap.size W (stB w4 (W.heap.size + 1) zN zH) := hB.trans (stB_but.below (by omega) hB.size)
  obtain ⟨⟨f0, f1, f2, f3, f4, f5, f6, f7⟩, ff⟩ := id NB
  have z0 := ff 0
  have z1 := ff 1
  have z2 := ff 2
  have z3 := ff 3
  have z4 := ff 4
  have z5 := ff 5
  have z6 := ff 6
  have z7 := ff 7
  go_wp2
  obtain ⟨W6, HW6⟩ : ∃ W6, Hid (stB w4 (W.heap.size + 1) zN zH = W6) := ⟨_, rfl⟩
  rw [HW6.out] at R3 hB3
  have hw6 := HW6.out
  simp only [stB, zN, zH] at hw6
  simp only [List.length_nil] at hw6
  rw [hw6]
  obtain ⟨r0, r1, r2, r3, r4, r5, r6, r7⟩ := R3.1
  refine bodyPost_ret (v := .tuple #[ndV zN zH, .bool false]) (by simp [results, Try.results18, go_sem, ndV, zN, zH, r0, r1, r2, r3, r4, r5, r6, r7]) rfl ?_
  exact ⟨⟨zH, rfl, nZ0 _⟩, hB3⟩
set_option maxRecDepth 100000 in
set_option maxHeartbeats 4000000 in
theorem rflat_any {xs : List Nd} {a : Option Addr} {cap : Nat} (hok : LaysOk xs) : ∀ (N : Nat) (W : World) (S : Nat → Bool) (an : Option Addr) (capn : Nat) (names : List ByteArray), tot (stackP xs names) ≤ N → names.length + N ≤ 900 → (∀ k, S k = true → k < W.heap.size) → NsV (offS W.cell? S) a xs → Strs W.cell? an names → (names.length ≤ capn ∧ capn ≤ 9223372036854775807) →
    Calls Try.prog 18 #[.slice a xs.length cap, .slice an names.length capn, .agg #[.slice none 0 0, .slice none 0 0], .bool false] W fun e W' => (∃ h, e = .returned (.tuple #[ndV (flat0 (stackP xs names)) h, .bool (lkB (stackP xs names))]) ∧ NdV (offS W'.cell? S) (flat0 (stackP xs names)) h) ∧ Below W.heap.size W W' := by
  intro N
  induction N with
  | zero =>
    intro W S an capn names hN hnl hS0 hx hs hcn
    have hnil : stackP xs names = [] := by
      cases h : stackP xs names with
      | nil => rfl
      | cons q r => rw [h] at hN; have := cnt_posF q.1; simp [tot] at hN; omega
    exact rflat_nil hok hnil (by omega) hS0 hx hs
  | succ N ih =>
    intro W S an capn names hN hnl hS0 hx hs hcn
    by_cases hnil : stackP xs names = []
    · exact rflat_nil hok hnil (by omega) hS0 hx hs
    have HIH : Hid _ := ih
    have HX : Hid (NsV (offS W.cell? S) a xs) := hx
    have HS : Hid (Strs W.cell? an names) := hs
    have HS0 : Hid (∀ k, S k = true → k < W.heap.size) := hS0
    have HNC : Hid (names.length ≤ capn ∧ capn ≤ 9223372036854775807) := hcn
    have HOK : Hid (LaysOk xs) := hok
    have HN : Hid (tot (stackP xs names) ≤ N + 1) := hN
    obtain ⟨c0, c1, NB, hB, hz2⟩ := two_mz W _ _ rfl rfl
    have HSF : Hid (∀ k, (fun k => (k == W.heap.size || k == W.heap.size + 1) || S k) k = true → k < ((W.alloc (.cells #[.slice none 0 0, .slice none 0 0] 43)).alloc (.cells #[.int .i64 0, .int .i64 0, .int .i64 0, .int .i64 0, .bool false, .slice none 0 0, .string ⟨#[]⟩, .slice none 0 0] 31)).heap.size) := fun k hk => by
      rw [hz2]
      simp at hk
      rcases hk with (e | e) | e
      · omega
      · omega
      · have := hS0 k e; omega
    have HSX : Hid (NsV (offS ((W.alloc (.cells #[.slice none 0 0, .slice none 0 0] 43)).alloc (.cells #[.int .i64 0, .int .i64 0, .int .i64 0, .int .i64 0, .bool false, .slice none 0 0, .string ⟨#[]⟩, .slice none 0 0] 31)).cell? (fun k => (k == W.heap.size || k == W.heap.size + 1) || S k)) a xs) := hx.on (mle_step fun k hk hs => ⟨by simp [hs]; omega, hB.block k hk⟩)
    have HSS : Hid (Strs ((W.alloc (.cells #[.slice none 0 0, .slice none 0 0] 43)).alloc (.cells #[.int .i64 0, .int .i64 0, .int .i64 0, .int .i64 0, .bool false, .slice none 0 0, .string ⟨#[]⟩, .slice none 0 0] 31)).cell? an names) := hs.on (mle_below hB)
    obtain ⟨st, HST⟩ : ∃ st, Hid (stackP xs names = st) := ⟨_, rfl⟩
    have HLK : Hid (Calls Try.prog 10 #[.slice a xs.length cap, .slice an names.length capn] ((W.alloc (.cells #[.slice none 0 0, .slice none 0 0] 43)).alloc (.cells #[.int .i64 0, .int .i64 0, .int .i64 0, .int .i64 0, .bool false, .slice none 0 0, .string ⟨#[]⟩, .slice none 0 0] 31)) fun e w' => (∃ h, e = .returned (.tuple #[ndV (lkX st) h, .int .i64 (lkL st), .bool (lkB st)]) ∧ NdV (offS w'.cell? (fun k => (k == W.heap.size || k == W.heap.size + 1) || S k)) (lkX st) h) ∧ Below ((W.alloc (.cells #[.slice none 0 0, .slice none 0 0] 43)).alloc (.cells #[.int .i64 0, .int .i64 0, .int .i64 0, .int .i64 0, .bool false, .slice none 0 0, .string ⟨#[]⟩, .slice none 0 0] 31)).heap.size ((W.alloc (.cells #[.slice none 0 0, .slice none 0 0] 43)).alloc (.cells #[.int .i64 0, .int .i64 0, .int .i64 0, .int .i64 0, .bool false, .slice none 0 0, .string ⟨#[]⟩, .slice none 0 0] 31)) w') := by
      have e := rlook_one (cap := cap) (capn := capn) HSF.out HSX.out HSS.out hok (by omega)
      rw [HST.out] at e
      exact e
    have HNL : Hid (stackP xs names ≠ []) := hnil
    clear hok hx hs hS0 hcn ih hz2 hN hnil
    rw [HST.out] at HN ⊢
    go_enter Try.func18, Try.ntmps18
    cases hst : st with
    | nil => exact absurd (HST.out.trans hst) HNL.out
    | cons q0 r0 =>
      subst hst
      obtain ⟨x0, ly0⟩ := q0
      obtain ⟨k, m, u, g, o, at_, d, ks⟩ := x0
      have HLK : Hid (Calls Try.prog 10 #[.slice a xs.length cap, .slice an names.length capn] ((W.alloc (.cells #[.slice none 0 0, .slice none 0 0] 43)).alloc (.cells #[.int .i64 0, .int .i64 0, .int .i64 0, .int .i64 0, .bool false, .slice none 0 0, .string ⟨#[]⟩, .slice none 0 0] 31)) fun e w' => (∃ h : Hd, e = .returned (.tuple #[.agg #[.int .i64 k, .int .i64 m, .int .i64 u, .int .i64 g, .bool o, .slice h.aa at_.length h.ca, .string d, .slice h.ak ks.length h.ck], .int .i64 ly0, .bool true]) ∧ NdV (offS w'.cell? (fun k => (k == W.heap.size || k == W.heap.size + 1) || S k)) (.mk k m u g o at_ d ks) h) ∧ Below ((W.alloc (.cells #[.slice none 0 0, .slice none 0 0] 43)).alloc (.cells #[.int .i64 0, .int .i64 0, .int .i64 0, .int .i64 0, .bool false, .slice none 0 0, .string ⟨#[]⟩, .slice none 0 0] 31)).heap.size ((W.alloc (.cells #[.slice none 0 0, .slice none 0 0] 43)).alloc (.cells #[.int .i64 0, .int .i64 0, .int .i64 0, .int .i64 0, .bool false, .slice none 0 0, .string ⟨#[]⟩, .slice none 0 0] 31)) w') := HLK.out
      go_wp2_with fail
      with_reducible refine Calls.mono HLK.out ?_
      rintro e w3 ⟨⟨h3, rfl, n3⟩, hq⟩
      have hw3 : W.heap.size + 1 + 1 ≤ w3.heap.size := by have h1 := hq.size; rw [World.size_alloc, World.size_alloc] at h1; exact h1
      have NX := NBw.new w3 k m u g o at_ d ks h3
      have hq2 := alloc_bel2 w3 (.cells #[.int .i64 k, .int .i64 m, .int .i64 u, .int .i64 g, .bool o, .slice h3.aa at_.length h3.ca, .string d, .slice h3.ak ks.length h3.ck] 31)
      have hq3 := hq.trans (hq2.mono hq.size)
      replace hB := hB.trans (hq3.mono hB.size)
      replace c0 := mle_below hq3 _ _ c0
      replace c1 := mle_below hq3 _ _ c1
      replace NB := NB.below hq3
      have HK3 : Hid (Kvm (offS (w3.alloc (.cells #[.int .i64 k, .int .i64 m, .int .i64 u, .int .i64 g, .bool o, .slice h3.aa at_.length h3.ca, .string d, .slice h3.ak ks.length h3.ck] 31)).cell? (fun k => k == w3.heap.size || (fun k => (k == W.heap.size || k == W.heap.size + 1) || S k) k)) h3.aa at_) := ((ndV_iff.1 n3).1).on (mle_step fun k hk hs => ⟨by simp at hs ⊢; exact ⟨by omega, hs⟩, hq2.block k hk⟩)
      have hca3 := (ndV_iff.1 n3).2.1
      clear hq hq2 hq3 HLK n3 HSF HSX HSS
      go_upto_region 4 with fail
      generalize w3.alloc (.cells #[.int .i64 k, .int .i64 m, .int .i64 u, .int .i64 g, .bool o, .slice h3.aa at_.length h3.ca, .string d, .slice h3.ak ks.length h3.ck] 31) = w4 at hB c0 c1 NB NX HK3 ⊢
      have hnb0 : W.heap.size + 1 + 1 ≤ w3.heap.size := hw3
      generalize w3.heap.size = nb at NX HK3 hnb0 ⊢
      have hWnb : W.heap.size + 1 + 1 ≤ nb := hnb0
      have hnb4 : nb < w4.heap.size := NX.1.lt
      have HLS : Hid (Calls Try.prog 16 #[.slice a xs.length cap, .slice an names.length capn] w4 fun e w' => (∃ a' c', e = .returned (.slice a' (listP (((.mk k m u g o at_ d ks : Nd), ly0) :: r0)).length c') ∧ Strs (offS w'.cell? (fun k => k == nb)) a' (listP (((.mk k m u g o at_ d ks : Nd), ly0) :: r0))) ∧ Below w4.heap.size w4 w') := by
        have e := rlist_any (w := w4) (S := S) (cap := cap) (capn := capn) (HX.out.on (mle_step fun k hk hs => ⟨hs, hB.block k hk⟩)) (HS.out.on (mle_below hB)) HOK.out (by omega) HNC.out
        rw [HST.out] at e
        exact Calls.mono e fun e W' he => ⟨by obtain ⟨⟨a', c', e1, _, _, e2⟩, _⟩ := he; exact ⟨a', c', e1, e2 _ (fun k hk => by simp at hk; omega)⟩, he.2⟩
      obtain ⟨LS, HLSE⟩ : ∃ l, Hid (listP (((.mk k m u g o at_ d ks : Nd), ly0) :: r0) = l) := ⟨_, rfl⟩
      rw [HLSE.out] at HLS
      go_wp2_with fail
      with_reducible refine Calls.mono HLS.out ?_
      rintro e w5 ⟨⟨la, lc, rfl, sl⟩, hq⟩
      replace hB := hB.trans (hq.mono hB.size)
      replace c0 := mle_below hq _ _ c0
      replace c1 := mle_below hq _ _ c1
      replace NB := NB.below hq
      replace NX := NX.below hq
      have hnb5 : nb < w5.heap.size := Nat.lt_of_lt_of_le hnb4 hq.size
      have HK5 : Hid (Kvm (offS w5.cell? (fun k => k == nb || (fun k => (k == W.heap.size || k == W.heap.size + 1) || S k) k)) h3.aa at_) := Kvm.on HK3.out (mle_S hq)
      clear hq HLS HK3
      obtain ⟨y0, y1, y2, y3, y4, y5, y6, y7⟩ := id NX.1
      have z0 := NX.2 0
      have z4 := NX.2 4
      have z7 := NX.2 7
      -- the node without Opaque and Kids
      have b6 : But nb w5 ((w5.setCell ⟨nb, 4, none⟩ (.bool false)).setCell ⟨nb, 7, none⟩ (.slice none 0 0)) := ((But.refl nb w5).setCell _ _ _).setCell _ _ _
      have NX6 : NBw ((w5.setCell ⟨nb, 4, none⟩ (.bool false)).setCell ⟨nb, 7, none⟩ (.slice none 0 0)) nb (.mk k m u g false at_ d []) ⟨h3.aa, h3.ca, none, 0⟩ := by
        have ot : ∀ (A : World) (p q : Nat) (x : Value), p ≠ q → (A.setCell ⟨nb, p, none⟩ x).cell? ⟨nb, q, none⟩ = A.cell? ⟨nb, q, none⟩ := fun A p q x hpq => World.cell?_setCell_other _ _ _ _ (fun e => hpq (Addr.mk.inj e).2.1)
        refine ⟨⟨?_, ?_, ?_, ?_, ?_, ?_, ?_, ?_⟩, fun j => ?_⟩
        · exact (ot _ 7 0 _ (by decide)).trans ((ot _ 4 0 _ (by decide)).trans y0)
        · exact (ot _ 7 1 _ (by decide)).trans ((ot _ 4 1 _ (by decide)).trans y1)
        · exact (ot _ 7 2 _ (by decide)).trans ((ot _ 4 2 _ (by decide)).trans y2)
        · exact (ot _ 7 3 _ (by decide)).trans ((ot _ 4 3 _ (by decide)).trans y3)
        · exact (ot _ 7 4 _ (by decide)).trans (World.cell?_setCell_same _ _ _ y4)
        · exact (ot _ 7 5 _ (by decide)).trans ((ot _ 4 5 _ (by decide)).trans y5)
        · exact (ot _ 7 6 _ (by decide)).trans ((ot _ 4 6 _ (by decide)).trans y6)
        · exact World.cell?_setCell_same _ _ _ ((ot _ 4 7 _ (by decide)).trans y7)
        · exact (World.frozen?_setCell _ _ _ _).trans ((World.frozen?_setCell _ _ _ _).trans (NX.2 j))
      have hB6 : Below W.heap.size W ((w5.setCell ⟨nb, 4, none⟩ (.bool false)).setCell ⟨nb, 7, none⟩ (.slice none 0 0)) := hB.trans (b6.below (by omega) hB.size)
      go_upto_region 9 with fail
      clear y0 y1 y2 y3 y4 y5 y6 y7 z0 z4 z7
      generalize hw6 : (w5.setCell ⟨nb, 4, none⟩ (.bool false)).setCell ⟨nb, 7, none⟩ (.slice none 0 0) = w6 at b6 NX6 hB6 ⊢
      have hz6 : w6.heap.size = w5.heap.size := by rw [← hw6, World.size_setCell, World.size_setCell]
      clear hw6
      have sl6 : Strs (offS w6.cell? (fun k => k == nb)) la LS := sl.on (mle_step fun k hk hs => ⟨hs, b6.block k hk (by simpa using hs)⟩)
      have c06 : w6.cell? ⟨W.heap.size, 0, none⟩ = some (.slice none 0 0) := (World.cell?_of_block (w := w5) (b6.block W.heap.size (by omega) (by omega))).trans c0
      have c16 : w6.cell? ⟨W.heap.size, 1, none⟩ = some (.slice none 0 0) := (World.cell?_of_block (w := w5) (b6.block W.heap.size (by omega) (by omega))).trans c1
      have HK6 : Hid (Kvm (offS w6.cell? (fun k => k == nb || (fun k => (k == W.heap.size || k == W.heap.size + 1) || S k) k)) h3.aa at_) := Kvm.on HK5.out (mle_step fun k hk hs => ⟨hs, b6.block k hk (fun e => by rw [e] at hs; simp at hs)⟩)
      have h86 : w6.heap[W.heap.size + 1]? = w5.heap[W.heap.size + 1]? := b6.block _ (by omega) (by omega)
      have NB6 : NBw w6 (W.heap.size + 1) zN zH := by
        obtain ⟨⟨e0, e1, e2, e3, e4, e5, e6, e7⟩, hf⟩ := NB
        have ce : ∀ j, w6.cell? ⟨W.heap.size + 1, j, none⟩ = w5.cell? ⟨W.heap.size + 1, j, none⟩ := fun j => World.cell?_of_block (w := w5) h86
        exact ⟨⟨(ce 0).trans e0, (ce 1).trans e1, (ce 2).trans e2, (ce 3).trans e3, (ce 4).trans e4, (ce 5).trans e5, (ce 6).trans e6, (ce 7).trans e7⟩, fun j => (World.frozen?_of_block (w := w5) h86).trans (hf j)⟩
      have FI0 : FI W w6 w6 nb (fun k => (k == W.heap.size || k == W.heap.size + 1) || S k) k m u g at_ d h3.aa h3.ca (.slice none 0 0) [] := ⟨hB6, Nat.le_refl _, fun _ _ _ => rfl, World.ownsRow_nil _ _ _ _, ⟨none, 0, rfl, NX6⟩, fun p hp => by cases hp⟩
      have hLS : LS.length ≤ 1000 := by
        rw [← HLSE.out]
        have h1 := listP_len (((.mk k m u g o at_ d ks : Nd), ly0) :: r0)
        have h2 := HN.out
        omega
      have hnb6 : nb < w6.heap.size := by omega
      clear b6 NX6 sl c0 c1 HK5 NB NX h86
      go_wp2
      go_loopw [14] (fun i wr => ∃ (j : Nat) (v : Value) (L : Khs), j ≤ LS.length ∧ i = .int .i64 j ∧ Hid (bare L = (LS.take j).map fun nm => (nm, flat0 (nxt (((.mk k m u g o at_ d ks : Nd), ly0) :: r0) nm))) ∧ Hid (FI W w6 wr nb (fun k => (k == W.heap.size || k == W.heap.size + 1) || S k) k m u g at_ d h3.aa h3.ca v L)) (fun i _ => LS.length - (intOf i).toNat)
      case atStart => exact ⟨0, _, [], Nat.zero_le _, rfl, rfl, FI0⟩
      case round =>
        clear FI0
        obtain ⟨j, v, L, hj, rfl, HL, HF⟩ := hrel
        by_cases hjl : j < LS.length
        · have d1 : decide ((j : Int) < (LS.length : Int)) = true := decide_eq_true (by omega)
          obtain ⟨nm, hnm⟩ : ∃ nm, LS[j]? = some nm := ⟨_, List.getElem?_eq_getElem hjl⟩
          obtain ⟨lb, lo, rfl, hls⟩ : ∃ b off, la = some ⟨b, off, none⟩ ∧ ∀ i s, LS[i]? = some s → offS w6.cell? (fun k => k == nb) ⟨b, off + i, none⟩ = some (.string s) := sl6.resolve_left (fun e => by rw [e] at hnm; simp at hnm)
          have hl0 := hls j nm hnm
          have hlbn : lb ≠ nb := by have h1 := offS_off hl0; simpa using h1
          have hl6 : w6.cell? ⟨lb, lo + j, none⟩ = some (.string nm) := offS_le _ _ _ _ hl0
          have hlb6 : lb < w6.heap.size := World.block_lt_of_cell? _ _ hl6
          obtain ⟨R, HR⟩ : ∃ R, Hid (flat0 (nxt (((.mk k m u g o at_ d ks : Nd), ly0) :: r0) nm) = R) := ⟨_, rfl⟩
          obtain ⟨bb, HBB⟩ : ∃ b, Hid (lkB (nxt (((.mk k m u g o at_ d ks : Nd), ly0) :: r0) nm) = b) := ⟨_, rfl⟩
          obtain ⟨rk, rm, ru, rg, ro, ra, rd, rs⟩ := R
          have hW6 : W.heap.size ≤ w6.heap.size := hB6.size
          have hwr : ∀ q o, q < w6.heap.size → q ≠ nb → wr.cell? ⟨q, o, none⟩ = w6.cell? ⟨q, o, none⟩ := fun q o h1 h2 => World.cell?_of_block (w := w6) (HF.out.blk q h1 h2)
          have hvo : ∀ q, some q = v.ownBlock → w6.heap.size ≤ q ∧ q < wr.heap.size := fun q e => HF.out.row.lt q e.symm
          have HS3 : Hid (∀ q, ((q == nb || some q == v.ownBlock) || (fun k => (k == W.heap.size || k == W.heap.size + 1) || S k) q) = true → q < wr.heap.size) := fun q hq => by
            have h1 := HF.out.siz
            simp at hq
            rcases hq with (e | e) | ((e | e) | e)
            · omega
            · exact (hvo q e).2
            · omega
            · omega
            · have := HS0.out q e; omega
          have HTK : Hid ((LS.take (j + 1)).map (fun nm => (nm, flat0 (nxt (((.mk k m u g o at_ d ks : Nd), ly0) :: r0) nm))) = bare L ++ [(nm, Nd.mk rk rm ru rg ro ra rd rs)]) := by
            show _ = _
            rw [List.take_add_one, hnm, List.map_append, HL.out, ← HR.out]
            rfl
          have HCC : Hid (∀ (w' : World) (S' : Nat → Bool) (da : Option Addr) (dc : Nat), Below wr.drew.heap.size wr.drew w' → (∀ k, S' k = true → k < w'.heap.size) → (∀ k, k < wr.drew.heap.size → ((k == nb || some k == v.ownBlock) || (fun k => (k == W.heap.size || k == W.heap.size + 1) || S k) k) = false → S' k = false) → Strs w'.cell? da (names ++ [nm]) → names.length + 1 ≤ dc → dc ≤ 9223372036854775807 → Calls Try.prog 18 #[.slice a xs.length cap, .slice da (names.length + 1) dc, .agg #[.slice none 0 0, .slice none 0 0], .bool false] w' fun e W' => (∃ hr : Hd, e = .returned (.tuple #[.agg #[.int .i64 rk, .int .i64 rm, .int .i64 ru, .int .i64 rg, .bool ro, .slice hr.aa ra.length hr.ca, .string rd, .slice hr.ak rs.length hr.ck], .bool bb]) ∧ NdV (offS W'.cell? S') (Nd.mk rk rm ru rg ro ra rd rs) hr) ∧ Below w'.heap.size w' W') := fun w' S' da dc hb hS' hsub hstr hd1 hd2 => by
            have hbW : Below W.heap.size W w' := (HF.out.low.drew).trans (hb.mono HF.out.low.size)
            have hlen : (names ++ [nm]).length = names.length + 1 := by simp
            have htt : tot (stackP xs (names ++ [nm])) ≤ N := by
              rw [stackP_snoc, HST.out]
              have h1 := tot_nxt1 (((.mk k m u g o at_ d ks : Nd), ly0) :: r0) nm
              have h2 := HN.out
              rw [List.length_cons] at h1
              omega
            have e := HIH.out w' S' da dc (names ++ [nm]) htt (by rw [hlen]; omega) hS' (HX.out.on (mle_step fun k hk hs => ⟨hsub k (Nat.lt_of_lt_of_le hk HF.out.low.size) (by
              simp [hs]
              refine ⟨⟨by omega, fun e => ?_⟩, by omega, by omega⟩
              have := (hvo k e).1
              omega), hbW.block k hk⟩)) hstr (by rw [hlen]; exact ⟨hd1, hd2⟩)
            rw [stackP_snoc, HST.out, hlen, HR.out, HBB.out] at e
            exact e
          have hLl : L.length ≤ 1000 := by
            have h1 := congrArg List.length HL.out
            unfold bare at h1
            rw [List.length_map, List.length_map, List.length_take] at h1
            omega
          have hvn : some nb ≠ v.ownBlock := fun e => by have := (hvo nb e).1; omega
          have HNS : Hid _ := str_src (HS.out.on (mle_below HF.out.low))
          have hm0 : wr.cell? ⟨W.heap.size, 0, none⟩ = some (.slice none 0 0) := (hwr _ _ (by omega) (by omega)).trans c06
          have hm1 : wr.cell? ⟨W.heap.size, 1, none⟩ = some (.slice none 0 0) := (hwr _ _ (by omega) (by omega)).trans c16
          have hlw : wr.cell? ⟨lb, lo + j, none⟩ = some (.string nm) := (hwr _ _ hlb6 hlbn).trans hl6
          have HM0 : Hid _ := hm0
          have HM1 : Hid _ := hm1
          have HLW : Hid _ := hlw
          clear hm0 hm1 hlw hls hl0 hl6 hnm
          go_upto_region 12 with fail
          refine rf12 (names := names) (nm := nm) (v0 := .slice a xs.length cap) (an := an) (capn := capn) (mb := W.heap.size) (lb := lb) (lo := lo) (ln := LS.length) (lc := lc) (j := j) (rk := rk) (rm := rm) (ru := ru) (rg := rg) (ro := ro) (ra := ra) (rd := rd) (rs := rs) (b := bb) (S3 := fun q => (q == nb || some q == v.ownBlock) || (fun k => (k == W.heap.size || k == W.heap.size + 1) || S k) q) (V := wr.drew) rfl (frame_at3 rfl) ?_ ?_ ?_ ?_ ?_ ?_ HNS.out (by omega) hLS hjl HLW.out HM0.out HM1.out HS3.out HCC.out ?_
          · rfl
          · rfl
          · rfl
          · rfl
          · rfl
          · rfl
          intro X W' xb hr nbx ndr hxb hbl e15 e0 e1 e3 e6 e13 e14 g2 g4 g5 g7 g8 g9 g10 g11 g12 g17 g18 g19 g20 g21 g22 g23 g24 g25 g26 g27 g28 g29 g30 g31 g32 g33 g34 g35 g36 g37 g38 g39 g40 g41 g42 g43 g44 g45 g46 g47 g48 g64 g65 g66 g67 g68 g69 g70 g71 g72 g73 g74 g75
          have hb' : Below wr.heap.size wr W' := (Below.refl _ wr).drew.trans hbl
          have HF' : Hid (FI W w6 W' nb (fun k => (k == W.heap.size || k == W.heap.size + 1) || S k) k m u g at_ d h3.aa h3.ca v L) := HF.out.keep hb'
          have HNBX : Hid (NBox W' xb (Nd.mk rk rm ru rg ro ra rd rs) hr) := nbx.1
          have HNDR : Hid _ := ndr
          have hlw2 := mle_below hb' _ _ HLW.out
          have HLW2 : Hid _ := hlw2
          obtain ⟨ak, ck, hvk, nb7⟩ := HF'.out.box
          have H7 : Hid (W'.cell? ⟨nb, 7, none⟩ = some v) := by
            obtain ⟨e0, e1, e2, e3, e4, e5, e6, e7⟩ := nb7.1
            have hle : (bare L).length = L.length := by unfold bare; rw [List.length_map]
            show _ = _
            rw [hvk, ← hle]
            exact e7
          have HF7 : Hid _ := nb7.2 7
          clear nbx ndr hbl hlw2 nb7 hvk HCC HNS HM0 HM1
          simp only [frm3, e0, e1, e3, e6, e13, e14, e15, g2, g4, g5, g7, g8, g9, g10, g11, g12, g17, g18, g19, g20, g21, g22, g23, g24, g25, g26, g27, g28, g29, g30, g31, g32, g33, g34, g35, g36, g37, g38, g39, g40, g41, g42, g43, g44, g45, g46, g47, g48, g64, g65, g66, g67, g68, g69, g70, g71, g72, g73, g74, g75]
          simp only [Array.getD_eq_getD_getElem?, List.getElem?_toArray, List.getElem?_cons_succ, List.getElem?_cons_zero, Option.getD_some]
          clear e0 e1 e3 e6 e13 e14 e15 g2 g4 g5 g7 g8 g9 g10 g11 g12 g17 g18 g19 g20 g21 g22 g23 g24 g25 g26 g27 g28 g29 g30 g31 g32 g33 g34 g35 g36 g37 g38 g39 g40 g41 g42 g43 g44 g45 g46 g47 g48 g64 g65 g66 g67 g68 g69 g70 g71 g72 g73 g74 g75
          go_upto_region 13 with fail
          refine rf13 (nm := nm) (vk := v) (nb := nb) (xb := xb) (lb := lb) (lo := lo) (ln := LS.length) (lc := lc) (j := j) (base := w6.heap.size) (n := L.length) (fl := kfl L) (hr := hr) (rk := rk) (rm := rm) (ru := ru) (rg := rg) (ro := ro) (ra := ra) (rd := rd) (rs := rs) (V := W'.drew) rfl (frame_at3 rfl) ?_ ?_ ?_ ?_ hLS hjl HLW2.out H7.out HF7.out HNBX.out HF'.out.row hLl HF'.out.siz hvn ?_
          · rfl
          · rfl
          · rfl
          · rfl
          intro X2 v' W2 hap e10 e13 e14 e15 g0 g1 g2 g3 g4 g5 g6 g7 g8 g9 g11 g12 g16 g17 g18 g19 g20 g21 g22 g23 g24 g25 g26 g27 g28 g29 g30 g31 g32 g33 g34 g35 g36 g37 g38 g39 g40 g41 g42 g43 g44 g45 g46 g47 g48 g49 g50 g51 g52 g53 g54 g55 g56 g57 g58 g59 g60 g61 g62 g63 g75
          have HFN : Hid (FI W w6 (W2.setCell ⟨nb, 7, none⟩ v') nb (fun k => (k == W.heap.size || k == W.heap.size + 1) || S k) k m u g at_ d h3.aa h3.ca v' (L ++ [(nm, Nd.mk rk rm ru rg ro ra rd rs, hr)])) := FI.push (HF'.out.keep (Below.refl _ W').drew) hnb6 (by omega) HNDR.out hap
          have HLN : Hid (bare (L ++ [(nm, Nd.mk rk rm ru rg ro ra rd rs, hr)]) = (LS.take (j + 1)).map fun nm => (nm, flat0 (nxt (((.mk k m u g o at_ d ks : Nd), ly0) :: r0) nm))) := by
            show _ = _
            rw [HTK.out]
            unfold bare
            rw [List.map_append]
            rfl
          clear hap
          simp only [frm3, e10, e13, e14, e15, g0, g1, g2, g3, g4, g5, g6, g7, g8, g9, g11, g12, g16, g17, g18, g19, g20, g21, g22, g23, g24, g25, g26, g27, g28, g29, g30, g31, g32, g33, g34, g35, g36, g37, g38, g39, g40, g41, g42, g43, g44, g45, g46, g47, g48, g49, g50, g51, g52, g53, g54, g55, g56, g57, g58, g59, g60, g61, g62, g63, g75]
          simp only [Array.getD_eq_getD_getElem?, List.getElem?_toArray, List.getElem?_cons_succ, List.getElem?_cons_zero, Option.getD_some]
          clear e10 e13 e14 e15 g0 g1 g2 g3 g4 g5 g6 g7 g8 g9 g11 g12 g16 g17 g18 g19 g20 g21 g22 g23 g24 g25 g26 g27 g28 g29 g30 g31 g32 g33 g34 g35 g36 g37 g38 g39 g40 g41 g42 g43 g44 g45 g46 g47 g48 g49 g50 g51 g52 g53 g54 g55 g56 g57 g58 g59 g60 g61 g62 g63 g75
          go_wp2
          go_roundw
          case rel => exact ⟨j + 1, v', _, by omega, by go_num, HLN.out, HFN.out⟩
          case measure => (simp [intOf]; try omega)
        · obtain rfl : j = LS.length := by omega
          have d1 : decide ((LS.length : Int) < (LS.length : Int)) = false := decide_eq_false (by omega)
          obtain ⟨ak, ck, hvk, nbx⟩ := HF.out.box
          have h8 : wr.heap[W.heap.size + 1]? = w6.heap[W.heap.size + 1]? := HF.out.blk _ (by omega) (by omega)
          have NBr : NBw wr (W.heap.size + 1) zN zH := by
            obtain ⟨⟨e0, e1, e2, e3, e4, e5, e6, e7⟩, hf⟩ := NB6
            have ce : ∀ j, wr.cell? ⟨W.heap.size + 1, j, none⟩ = w6.cell? ⟨W.heap.size + 1, j, none⟩ := fun j => World.cell?_of_block (w := w6) h8
            exact ⟨⟨(ce 0).trans e0, (ce 1).trans e1, (ce 2).trans e2, (ce 3).trans e3, (ce 4).trans e4, (ce 5).trans e5, (ce 6).trans e6, (ce 7).trans e7⟩, fun j => (World.frozen?_of_block (w := w6) h8).trans (hf j)⟩
          have R7 := NBw.store NBr (Nd.mk k m u g false at_ d (bare L)) ⟨h3.aa, h3.ca, ak, ck⟩
          have b7 : But (W.heap.size + 1) wr (stB wr (W.heap.size + 1) (Nd.mk k m u g false at_ d (bare L)) ⟨h3.aa, h3.ca, ak, ck⟩) := stB_but
          have hN7 := FI.end_ HF.out hvk HS0.out hWnb hnb6 HK6.out hca3 b7
          have hB7 : Below W.heap.size W (stB wr (W.heap.size + 1) (Nd.mk k m u g false at_ d (bare L)) ⟨h3.aa, h3.ca, ak, ck⟩) := HF.out.low.trans (b7.below (by omega) HF.out.low.size)
          have HFX : Hid (flat0 (((.mk k m u g o at_ d ks : Nd), ly0) :: r0) = (Nd.mk k m u g false at_ d (bare L))) := by
            show _ = _
            have h1 := HL.out
            rw [List.take_length] at h1
            rw [flat0_cons, HLSE.out, h1]
            rfl
          obtain ⟨f0, f1, f2, f3, f4, f5, f6, f7⟩ := nbx.1
          obtain ⟨⟨q0, q1, q2, q3, q4, q5, q6, q7⟩, ff⟩ := id NBr
          have z0 := ff 0
          have z1 := ff 1
          have z2 := ff 2
          have z3 := ff 3
          have z4 := ff 4
          have z5 := ff 5
          have z6 := ff 6
          have z7 := ff 7
          have HN7 : Hid _ := hN7
          have HB7 : Hid _ := hB7
          have HR7 : Hid _ := R7
          obtain ⟨W6, HW6⟩ : ∃ W6, Hid (stB wr (W.heap.size + 1) (Nd.mk k m u g false at_ d (bare L)) ⟨h3.aa, h3.ca, ak, ck⟩ = W6) := ⟨_, rfl⟩
          rw [HW6.out] at HN7 HB7 HR7
          clear hN7 hB7 R7 b7 ff NBr NB6 nbx h8 c06 c16 sl6
          go_wp2
          have hw6 := HW6.out
          simp only [stB] at hw6
          rw [hw6]
          obtain ⟨r0', r1, r2, r3, r4, r5, r6, r7⟩ := HR7.out.1
          refine bodyPost_ret (v := .tuple #[ndV (Nd.mk k m u g false at_ d (bare L)) ⟨h3.aa, h3.ca, ak, ck⟩, .bool true]) (by simp [results, Try.results18, go_sem, ndV, r0', r1, r2, r3, r4, r5, r6, r7]) rfl ?_
          exact ⟨⟨_, by rw [HFX.out]; rfl, by rw [HFX.out]; exact HN7.out⟩, HB7.out⟩
end Go.Proofs.Ytgmeecfdkcbggaa
