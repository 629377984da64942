/-
  Up: the walk.
-/
import Derived.Test.YtlbabnffiibnpaaGreatUnX
import Derived.Test.YtlbabnffiibnpaaGreatZnX
namespace Go.Proofs.YtlbabnffiibnpaaGreat
open Go.RowKit
theorem ndE_err {W W' : World} {S : Nat → Bool} {f : Int} {R : Except Int Nd} (hR : R = .error f) (hf : f ≠ 0) (hb : Below W.heap.size W W') : NdE W W' S (.returned (.tuple #[ndV zN zH, .iface 44 (.int .i64 f)])) R := by
  subst hR
  refine ⟨⟨zH, ?_, nZ _⟩, hb⟩
  show _ = Ending.returned (.tuple #[ndV zN zH, errV f])
  rw [errV_of rfl hf]
theorem row_any {w : World} {base : Nat} {t : TypeId} {z n : Nat} {v : Value} {xs : List Value} (h : w.ownsRow base t z v n xs) : ∃ a cap, v = .slice a n cap ∧ n ≤ cap ∧ cap ≤ 9223372036854775807 := by
  rcases h.2 with ⟨rfl, h0⟩ | ⟨g, cap, cur, rfl, hb, hg, h1, h2, h3, h4⟩
  · rw [h0]; exact ⟨none, 0, rfl, Nat.le_refl _, by omega⟩
  · exact ⟨_, cap, rfl, h1, by simpa [maxLen] using h2⟩
theorem row_int {w : World} {base : Nat} {v : Value} {L : List Fl} (h : w.ownsRow base 3 1 v L.length (flI L)) {t : Nat} {f : Fl} (ht : L[t]? = some f) : ∃ g cap, v = .slice (some ⟨g, 0, none⟩) L.length cap ∧ w.cell? ⟨g, t, none⟩ = some (.int .i64 f.ly) := by
  rcases h.2 with ⟨rfl, h0⟩ | ⟨g, cap, cur, rfl, hb, hg, h1, h2, h3, h4⟩
  · rw [List.length_eq_zero_iff.1 h0] at ht; simp at ht
  · exact ⟨g, cap, rfl, ownsRow_cell hg h4 (flI_get L t f ht)⟩
theorem bare_with (x : Nd) : bareN (x.with []) = bareN x := by obtain ⟨k, m, u, g, o, at_, d, ks⟩ := x; rfl
theorem prs_brL {H : Nat → Nd × Nat} {names : List ByteArray} {L : List Fl} {k : Nat} (hk : k < names.length) (hL : L.length = names.length + 1) (hH : ∀ (j : Nat) f, L[j]? = some f → f.x = (H j).1.with []) : prsF ((L.drop (k + 1)).map Fl.x) (names.drop k) = brL H names k (names.length - k) := by
  refine List.ext_getElem? fun i => ?_
  unfold prsF brL
  rw [List.getElem?_map, List.getElem?_map]
  by_cases hi : i < names.length - k
  · have e1 : ((L.drop (k + 1)).map Fl.x)[i]? = some ((H (k + 1 + i)).1.with []) := by
      rw [List.getElem?_map, List.getElem?_drop]
      have e : L[k + 1 + i]? = some L[k + 1 + i] := List.getElem?_eq_getElem (by omega)
      rw [e, ← hH _ _ e]
      rfl
    have e2 : (names.drop k)[i]? = some names[k + i] := by rw [List.getElem?_drop]; exact List.getElem?_eq_getElem (by omega)
    rw [(List.getElem?_zip_eq_some (z := ((H (k + 1 + i)).1.with [], names[k + i]))).2 ⟨e1, e2⟩, List.getElem?_eq_getElem (by simpa using hi)]
    simp only [Option.map_some, List.getElem_range', bare_with, Option.some.injEq, Prod.mk.injEq]
    rw [Nat.one_mul, show k + 1 + i - 1 = k + i by omega]
    exact ⟨rfl, by simp [show k + i < names.length by omega]⟩
  · rw [List.getElem?_eq_none (by simp; omega), List.getElem?_eq_none (by simpa using hi)]; rfl
theorem ns_drop {w : World} {base : Nat} {v : Value} {L : List Fl} {S S' : Nat → Bool} (h : w.ownsRow base 34 8 v L.length (flN L)) (hn : ∀ f ∈ L, NdV (offS w.cell? S') f.x f.h) (hS : ∀ k, S' k = false → S k = false) (hg : ∀ g, v.ownBlock = some g → S g = false) {t : Nat} (ht : t < L.length) : ∃ g cap, v = .slice (some ⟨g, 0, none⟩) L.length cap ∧ L.length ≤ cap ∧ cap ≤ 9223372036854775807 ∧ NsV (offS w.cell? S) (some ⟨g, t * 8, none⟩) ((L.drop t).map Fl.x) := by
  rcases h.2 with ⟨rfl, h0⟩ | ⟨g, cap, cur, rfl, hb, hgg, h1, h2, h3, h4⟩
  · omega
  · refine ⟨g, cap, rfl, h1, by simpa [maxLen] using h2, .inr ⟨g, t * 8, rfl, fun i => (L.getD (t + i) ⟨zN, zH, 0⟩).h, fun i x hi => ?_⟩⟩
    rw [List.getElem?_map, List.getElem?_drop] at hi
    obtain ⟨f, hf, rfl⟩ := Option.map_eq_some_iff.1 hi
    have e : (L.getD (t + i) ⟨zN, zH, 0⟩) = f := by rw [List.getD_eq_getElem?_getD, hf]; rfl
    dsimp only
    rw [e]
    refine ⟨nat_iff.2 fun q u hq => ?_, (hn f (List.mem_of_getElem? hf)).on (mle_less hS)⟩
    rw [offS_ne (hg g rfl), show t * 8 + i * 8 + q = (t + i) * 8 + q by omega]
    exact ownsRow_cell hgg h4 (flN_get L (t + i) f hf q u hq)
theorem Strs.drop {c : Mem} {b off : Nat} {l : List ByteArray} (h : ∀ i s, l[i]? = some s → c ⟨b, off + i, none⟩ = some (.string s)) (n : Nat) : Strs c (some ⟨b, off + n, none⟩) (l.drop n) := by
  refine .inr ⟨b, off + n, rfl, fun i s hi => ?_⟩
  rw [List.getElem?_drop] at hi
  have := h _ _ hi
  rwa [← Nat.add_assoc] at this
theorem at1_mv {out : Bool} {us gs : List Rg} {x y : Nd} (h : mvF out us gs x = some y) (ha : At1 x) : At1 y := by
  obtain ⟨k, m, u, g, o, at_, d, ks⟩ := x
  rw [mvF] at h
  split at h
  · cases h; rw [At1] at ha ⊢; exact ha
  · cases h
theorem at1_bare {x : Nd} (h : Lim x) : At1 (bareN x) := by
  obtain ⟨k, m, u, g, o, at_, d, ks⟩ := x
  rw [Lim] at h
  show At1 (.mk k m u g false at_ d [])
  rw [At1]
  exact ⟨h.1, by rw [At1L]; trivial⟩
theorem brF_at1 {us gs : List Rg} : ∀ {A L : List (Nd × ByteArray)}, brF us gs A = .ok L → (∀ p ∈ A, At1 p.1) → (∀ p ∈ L, At1 p.1) ∧ L.length = A.length
  | [], L, h, _ => by cases h; exact ⟨fun p hp => (by cases hp), rfl⟩
  | (x, m) :: r, L, h, ha => by
    rw [brF] at h
    cases hm : mvF true us gs x with
    | none => rw [hm] at h; cases h
    | some y =>
      rw [hm] at h
      dsimp only at h
      by_cases hn : nameB m = false
      · rw [if_pos hn] at h; cases h
      rw [if_neg hn] at h
      cases hb : brF us gs r with
      | error f => rw [hb] at h; cases h
      | ok K =>
        rw [hb] at h
        cases h
        obtain ⟨h1, h2⟩ := brF_at1 hb (fun p hp => ha p (List.mem_cons_of_mem _ hp))
        refine ⟨fun p hp => ?_, by simp [h2]⟩
        rcases List.mem_cons.1 hp with rfl | hp
        · exact at1_mv hm (ha (x, m) (List.mem_cons_self ..))
        · exact h1 p hp
theorem chain_lim : ∀ L : List (Nd × ByteArray), (∀ p ∈ L, At1 p.1 ∧ p.1.kids = []) → At1 (chainF L) ∧ cnt (chainF L) ≤ L.length + 1
  | [], _ => ⟨by show At1 zN; unfold zN; rw [At1]; exact ⟨Nat.zero_le _, by rw [At1L]; trivial⟩, by show cnt zN ≤ _; unfold zN; rw [cnt, cntL]; omega⟩
  | [p], h => by
    obtain ⟨h1, h2⟩ := h p (List.mem_cons_self ..)
    refine ⟨h1, ?_⟩
    show cnt p.1 ≤ _
    rw [cnt_nd, h2, cntL]; simp
  | p :: q :: r, h => by
    obtain ⟨h1, h2⟩ := h p (List.mem_cons_self ..)
    obtain ⟨i1, i2⟩ := chain_lim (q :: r) (fun x hx => h x (List.mem_cons_of_mem _ hx))
    constructor
    · show At1 (p.1.with [(q.2, chainF (q :: r))])
      rw [at1_with]
      refine ⟨?_, by rw [At1L]; exact ⟨i1, by rw [At1L]; trivial⟩⟩
      have e := with_self p.1
      rw [h2] at e
      rw [e]; exact h1
    · show cnt (p.1.with [(q.2, chainF (q :: r))]) ≤ _
      rw [cnt_with, cntL, cntL]
      simp at i2 ⊢
      omega
theorem S1_low {W : World} {S : Nat → Bool} (hS0 : ∀ k, S k = true → k < W.heap.size) {w' : World} (h : W.heap.size + 1 + 1 ≤ w'.heap.size) : ∀ q, (fun k => k == W.heap.size || k == W.heap.size + 1 || S k) q = true → q < w'.heap.size := fun q hq => by
  simp at hq
  rcases hq with (e | e) | e
  · omega
  · omega
  · have := hS0 q e; omega
theorem ndL_0 (x : Nd) (h : Hd) : (ndL x h)[0]? = some (.int .i64 x.kind) := by obtain ⟨k, m, u, g, o, at_, d, ks⟩ := x; rfl
theorem brF_pos {us gs : List Rg} {f : Int} : ∀ {A : List (Nd × ByteArray)}, brF us gs A = .error f → f ≠ 0
  | [], h => by cases h
  | (x, m) :: r, h => by
    rw [brF] at h
    cases hm : mvF true us gs x with
    | none => rw [hm] at h; cases h; decide
    | some y =>
      rw [hm] at h
      dsimp only at h
      by_cases hn : nameB m = false
      · rw [if_pos hn] at h; cases h; decide
      rw [if_neg hn] at h
      cases hb : brF us gs r with
      | error f' => rw [hb] at h; cases h; exact brF_pos hb
      | ok K => rw [hb] at h; cases h
theorem brF_kids {us gs : List Rg} : ∀ {A L : List (Nd × ByteArray)}, brF us gs A = .ok L → (∀ p ∈ A, p.1.kids = []) → ∀ p ∈ L, p.1.kids = []
  | [], L, h, _ => by cases h; intro p hp; cases hp
  | (x, m) :: r, L, h, ha => by
    rw [brF] at h
    cases hm : mvF true us gs x with
    | none => rw [hm] at h; cases h
    | some y =>
      rw [hm] at h
      dsimp only at h
      by_cases hn : nameB m = false
      · rw [if_pos hn] at h; cases h
      rw [if_neg hn] at h
      cases hb : brF us gs r with
      | error f => rw [hb] at h; cases h
      | ok K =>
        rw [hb] at h
        cases h
        have h1 := brF_kids hb (fun p hp => ha p (List.mem_cons_of_mem _ hp))
        intro p hp
        rcases List.mem_cons.1 hp with rfl | hp
        · exact (mv_keep hm).2.trans (ha (x, m) (List.mem_cons_self ..))
        · exact h1 p hp
theorem lim_with0 {x : Nd} (h : Lim x) : Lim (x.with []) := by
  obtain ⟨k, m, u, g, o, at_, d, ks⟩ := x
  rw [Lim] at h
  show Lim (.mk k m u g o at_ d [])
  rw [Lim]
  exact ⟨h.1, by simp, by rw [LimL]; trivial⟩
theorem idT_with {x : Nd} (h : IdT x) : IdT (x.with []) := by obtain ⟨k, m, u, g, o, at_, d, ks⟩ := x; exact h
/-- The branch's node and its error. -/
def brN : Except Int (List (Nd × ByteArray)) → Nd
  | .error _ => zN
  | .ok L => chainF L
def brU (names : List ByteArray) (k : Nat) (U : Nd) : Except Int (List (Nd × ByteArray)) → Except Int Nd
  | .error f => .error f
  | .ok Lc => chgF (some (chainF Lc)) (names.take (k + 1)) U
def brV : Except Int (List (Nd × ByteArray)) → Value
  | .error f => .iface 44 (.int .i64 f)
  | .ok _ => .nilIface
theorem brE_one {W W' : World} {S : Nat → Bool} {e : Ending} {R : Except Int (List (Nd × ByteArray))} (h : BrE W W' S e R) : (∃ h', e = .returned (.tuple #[ndV (brN R) h', brV R]) ∧ NdV (offS W'.cell? S) (brN R) h') ∧ Below W.heap.size W W' := by
  cases R with
  | error f => exact ⟨⟨zH, h.1, nZ _⟩, h.2⟩
  | ok L => exact h
set_option maxRecDepth 100000 in
set_option maxHeartbeats 4000000 in
theorem up_any {W : World} {S : Nat → Bool} (hS0 : ∀ k, S k = true → k < W.heap.size) {a : Option Addr} {cap : Nat} {xs : List Nd} {an : Option Addr} {capn : Nat} {names : List ByteArray} (hx : NsV (offS W.cell? S) a xs) (hs : Strs (offS W.cell? S) an names) (hlx : xs.length ≤ 1000) (hln : names.length ≤ 500) (hcn : names.length ≤ capn ∧ capn ≤ 9223372036854775807) (hsm : SmallP (layP xs)) (hlim : LimP (layP xs)) (hip : IdP (layP xs)) {M : MapsV} (hM : MapsOk W M) {U : Nd} (hU : ∀ x, xs[0]? = some x → x = U) (hcu : cnt U ≤ 400) (hau : At1 U) :
    Calls Tryz.prog 6 #[.slice a xs.length cap, M.v, .slice an names.length capn] W fun e W' => NdE W W' S e (UpR M.us M.gs xs names U) := by
  obtain ⟨ua, ga, uc, gc, us, gs⟩ := M
  obtain ⟨c0, c1, RB, hBA, hzA⟩ := two_up W _ _ ua ga us.length gs.length uc gc rfl rfl
  have hm1 : MLe (offS W.cell? S) (offS ((W.alloc (.cells #[.slice ua us.length uc, .slice ga gs.length gc] 25)).alloc (.cells #[.int .i64 0, .int .i64 0, .int .i64 0, .int .i64 0, .bool false, .slice none 0 0, .string ⟨#[]⟩, .slice none 0 0] 34)).cell? (fun k => k == W.heap.size || k == W.heap.size + 1 || S k)) := mle_step fun k hk hs => ⟨by simp [hs]; omega, hBA.block k hk⟩
  have HL1 : Hid _ := along_any (w := ((W.alloc (.cells #[.slice ua us.length uc, .slice ga gs.length gc] 25)).alloc (.cells #[.int .i64 0, .int .i64 0, .int .i64 0, .int .i64 0, .bool false, .slice none 0 0, .string ⟨#[]⟩, .slice none 0 0] 34))) (cap := cap) (capn := capn) (S := (fun k => k == W.heap.size || k == W.heap.size + 1 || S k)) (fun q hq => by
    rw [hzA]
    simp at hq
    rcases hq with (e | e) | e
    · omega
    · omega
    · have := hS0 q e; omega) (hx.on hm1) (hs.on hm1) hlx (by omega) hsm hlim
  have HX : Hid (NsV (offS W.cell? S) a xs) := hx
  have HS : Hid (Strs (offS W.cell? S) an names) := hs
  have HLM : Hid (LimP (layP xs)) := hlim
  have HIP : Hid (IdP (layP xs)) := hip
  have HM : Hid (MapsOk W ⟨ua, ga, uc, gc, us, gs⟩) := hM
  have HU : Hid _ := hU
  have HAU : Hid (At1 U) := hau
  have HSM : Hid (SmallP (layP xs)) := hsm
  show Calls Tryz.prog 6 #[.slice a xs.length cap, .agg #[.slice ua us.length uc, .slice ga gs.length gc], .slice an names.length capn] W fun e W' => NdE W W' S e (UpR us gs xs names U)
  obtain ⟨N, HN⟩ : ∃ N, Hid (names.length = N) := ⟨_, rfl⟩
  clear hm1 hx hs hlim hip hM hU hau hsm
  have HLN : Hid (names.length ≤ 500) := hln
  go_enter Tryz.func6, Tryz.ntmps6
  go_wp2_with fail
  refine Calls.mono HL1.out ?_
  rintro e w2 ⟨⟨vn, vf, L, rfl, hR, hQ, hE⟩, hB2⟩
  obtain ⟨pa, pc, rfl, hpc1, hpc2⟩ := row_any hR.rn
  obtain ⟨fa, fc, rfl, hfc1, hfc2⟩ := row_any hR.rf
  have hB02 := hBA.trans (hB2.mono hBA.size)
  have RB2 := RB.below hB2
  have c02 := mle_below hB2 _ _ c0
  have c12 := mle_below hB2 _ _ c1
  have HQ : Hid (∀ (j : Nat) f, L[j]? = some f → ∃ q r, stackP xs (names.take j) = q :: r ∧ f.x = q.1.with [] ∧ f.ly = q.2) := hQ
  have hLl : L.length ≤ 1000 := by rcases hE with e | e <;> omega
  clear HL1 RB hBA c0 c1 hQ
  rw [HN.out] at hcn hE hln ⊢
  cases hst : stackP xs names with
  | nil =>
    have HR : Hid (UpR us gs xs names U = .error 5) := if_pos hst
    have hle : L.length ≤ N := by
      rcases hE with e | e
      · exfalso
        obtain ⟨f, hf⟩ : ∃ f, L[N]? = some f := ⟨_, List.getElem?_eq_getElem (by omega)⟩
        obtain ⟨q, r, hq, _⟩ := HQ.out N f hf
        rw [List.take_of_length_le (by rw [HN.out]; omega), hst] at hq
        cases hq
      · exact e.1
    have hb : decide ((L.length : Int) ≤ (N : Int)) = true := decide_eq_true (by omega)
    clear hst HQ hR hE
    go_upto_region 3 with fail
    have R3 := NBw.store RB2 zN zH
    have hB3 : Below W.heap.size W (stB w2 (W.heap.size + 1) zN zH) := hB02.trans (stB_but.below (by omega) hB02.size)
    have z0 := RB2.2 0
    have z1 := RB2.2 1
    have z2 := RB2.2 2
    have z3 := RB2.2 3
    have z4 := RB2.2 4
    have z5 := RB2.2 5
    have z6 := RB2.2 6
    have z7 := RB2.2 7
    obtain ⟨f0, f1, f2, f3, f4, f5, f6, f7⟩ := RB2.1
    go_wp2
    obtain ⟨W6, HW6⟩ : ∃ W6, Hid (stB w2 (W.heap.size + 1) zN zH = W6) := ⟨_, rfl⟩
    rw [HW6.out] at R3 hB3
    have hw6 := HW6.out
    simp only [stB, zN, zH] at hw6
    simp only [List.length_nil] at hw6
    rw [hw6]
    obtain ⟨r0, r1, r2, r3, r4, r5, r6, r7⟩ := R3.1
    refine bodyPost_ret (v := .tuple #[ndV zN zH, .iface 44 (.int .i64 5)]) (by simp [results, Tryz.results6, go_sem, ndV, zN, zH, r0, r1, r2, r3, r4, r5, r6, r7]) rfl (ndE_err HR.out (by decide) hB3)
  | cons q0 r0 =>
    have hne : stackP xs names ≠ [] := by rw [hst]; simp
    have HR : Hid (UpR us gs xs names U = upN us gs xs names U names.length) := if_neg hne
    obtain ⟨H, hH⟩ := sees_of hne
    have HH : Hid (Sees xs names H) := hH
    obtain ⟨hH0, hH1⟩ := sees_zero hH
    have hU0 := HU.out _ hH1
    have hLe : L.length = N + 1 := by
      rcases hE with e | ⟨e1, e2⟩
      · exact e
      · obtain ⟨r, hr⟩ := hH L.length (by rw [HN.out]; exact e1)
        rw [hr] at e2
        cases e2
    have HLH : Hid (∀ (j : Nat) f, L[j]? = some f → f.x = (H j).1.with [] ∧ f.ly = (H j).2) := fun j f hf => by
      obtain ⟨q, r, hq, e1, e2⟩ := HQ.out j f hf
      have hj := (List.getElem?_eq_some_iff.1 hf).1
      obtain ⟨r', hr'⟩ := hH j (by rw [HN.out]; omega)
      rw [hr'] at hq
      cases hq
      exact ⟨e1, e2⟩
    obtain ⟨ab, ao, rfl, hfx, hfa⟩ : ∃ b off, a = some ⟨b, off, none⟩ ∧ ∃ f : Nat → Hd, ∀ i x, xs[i]? = some x → NAt (offS W.cell? S) b (off + i * 8) x (f i) ∧ NdV (offS W.cell? S) x (f i) := by
      rcases HX.out with e | e
      · rw [e] at hH1; cases hH1
      · exact e
    obtain ⟨hua, hun⟩ := hfa 0 _ hH1
    rw [hU0] at hua hun
    rw [Nat.zero_mul, Nat.add_zero] at hua
    generalize hfx 0 = hv0 at hua hun
    have hxl : (0 : Int) < (xs.length : Int) := by have := (List.getElem?_eq_some_iff.1 hH1).1; omega
    have HXL : Hid (0 < xs.length) := by have := (List.getElem?_eq_some_iff.1 hH1).1; exact this
    have HUL : Hid (Lim U) := by rw [← hU0]; exact HLM.out ((H 0).1, 0) (List.mem_zipIdx_iff_getElem?.2 hH1)
    have HUM : Hid (cnt U ≤ 1000) := by show _ ≤ _; omega
    have HH0 : Hid ((H 0).2 = 0 ∧ (H 0).1 = U) := ⟨hH0, hU0⟩
    have HUA : Hid (NAt (offS W.cell? S) ab ao U hv0) := hua
    have HUN : Hid (NdV (offS W.cell? S) U hv0) := hun
    have HLe : Hid (L.length = N + 1) := hLe
    have HAR : Hid (AlR (fun k => k == W.heap.size || k == W.heap.size + 1 || S k) ((W.alloc (.cells #[.slice ua us.length uc, .slice ga gs.length gc] 25)).alloc (.cells #[.int .i64 0, .int .i64 0, .int .i64 0, .int .i64 0, .bool false, .slice none 0 0, .string ⟨#[]⟩, .slice none 0 0] 34)).heap.size w2 (.slice pa (N + 1) pc) (.slice fa (N + 1) fc) L L) := by rw [← hLe]; exact hR
    rw [hLe] at hpc1 hfc1 ⊢
    rw [hzA] at HAR
    have hb : decide (((N + 1 : Nat) : Int) ≤ (N : Int)) = false := decide_eq_false (by omega)
    clear hst hne hE hR HQ hH hH0 hH1 hU0 hfa hua hun HU hLe hzA
    go_upto_region 4 with fail
    go_wp2
    go_loop [10] (fun i => ∃ t : Nat, t ≤ N + 1 ∧ i = .int .i64 t ∧ Hid (∀ s, s < t → (H s).2 = 0)) (fun i => N + 1 - (intOf i).toNat)
    case atStart => exact ⟨0, Nat.zero_le _, rfl, fun s hs => by omega⟩
    case round =>
      obtain ⟨t, ht, rfl, HZ⟩ := hrel
      by_cases htl : t < N + 1
      · obtain ⟨f, hf⟩ : ∃ f, L[t]? = some f := ⟨_, List.getElem?_eq_getElem (by rw [HLe.out]; exact htl)⟩
        have hly := (HLH.out t f hf).2
        obtain ⟨fg, fcc, fe, fcell⟩ := row_int (by have := HAR.out.rf; rw [← HLe.out] at this; exact this) hf
        simp only [Value.slice.injEq, HLe.out, true_and] at fe
        obtain ⟨rfl, rfl⟩ := fe
        rw [hly] at fcell
        have hb1 : decide ((t : Int) < ((N + 1 : Nat) : Int)) = true := decide_eq_true (by omega)
        by_cases hz : (H t).2 = 0
        · rw [hz] at fcell
          have HZ2 : Hid (∀ s, s < t + 1 → (H s).2 = 0) := fun s hs => by
            rcases Nat.lt_succ_iff_lt_or_eq.1 hs with e | e
            · exact HZ.out s e
            · rw [e]; exact hz
          clear hly hf
          go_wp2
          go_round
          case rel => exact ⟨t + 1, by omega, by go_num, HZ2.out⟩
          case measure => (simp [intOf]; try omega)
        · have hz2 : (((H t).2 : Int) == 0) = false := by rw [beq_eq_false_iff_ne]; omega
          have htn : (t : Int) ≠ ((N + 1 : Nat) : Int) := by omega
          have htb : ((t : Int) == ((N + 1 : Nat) : Int)) = false := by rw [beq_eq_false_iff_ne]; exact htn
          go_upto_region 9 with fail
          have ht0 : 0 < t := by
            rcases Nat.eq_zero_or_pos t with e | e
            · rw [e] at hz; exact absurd HH0.out.1 hz
            · exact e
          obtain ⟨k1, rfl⟩ : ∃ k1, t = k1 + 1 := ⟨t - 1, by omega⟩
          have hkN : k1 < N := by omega
          have hsz2 : W.heap.size + 1 + 1 ≤ w2.heap.size := by have := RB2.1.lt; omega
          obtain ⟨pg, pcc, pe, hpcc1, hpcc2, hns⟩ := ns_drop (S := (fun k => k == W.heap.size || k == W.heap.size + 1 || S k)) (t := k1 + 1) (by have := HAR.out.rn; rw [← HLe.out] at this; exact this) HAR.out.nd (fun k hk => (Bool.or_eq_false_iff.1 hk).2) (fun g hg => by
            have e := (HAR.out.rn.lt g (by rw [HLe.out] at hg; exact hg)).1
            have e2 : S g = false := by
              cases hh : S g with
              | false => rfl
              | true => have := hS0 g hh; omega
            simp [e2]; omega) (by rw [HLe.out]; omega)
          simp only [Value.slice.injEq, HLe.out, true_and] at pe
          obtain ⟨rfl, rfl⟩ := pe
          obtain ⟨sb, so, rfl, hsa⟩ : ∃ b off, an = some ⟨b, off, none⟩ ∧ ∀ i s, names[i]? = some s → offS W.cell? S ⟨b, off + i, none⟩ = some (.string s) := by
            rcases HS.out with e | e
            · have := HN.out; rw [e] at this; simp at this; omega
            · exact e
          have hnd1 : ((L.drop (k1 + 1)).map Fl.x).length = N - k1 := by rw [List.length_map, List.length_drop, HLe.out]; omega
          have hnd2 : (names.drop k1).length = N - k1 := by rw [List.length_drop, HN.out]
          have HPR : Hid (prsF ((L.drop (k1 + 1)).map Fl.x) (names.drop k1) = brL H names k1 (N - k1)) := by
            show _ = _
            rw [← HN.out]
            exact prs_brL (by rw [HN.out]; exact hkN) (by rw [HN.out]; exact HLe.out) (fun j f hf => (HLH.out j f hf).1)
          obtain ⟨BR, HBR⟩ : ∃ BR, Hid (brF us gs (brL H names k1 (N - k1)) = BR) := ⟨_, rfl⟩
          have HUPN : Hid (UpR us gs xs names U = brU names k1 U BR) := by
            show _ = _
            have e := up_eq (us := us) (gs := gs) HH.out (k := k1) (by rw [HN.out]; exact hkN) (fun j hj => HZ.out j (by omega)) hz (N - k1 - 1) (by rw [HN.out]; omega)
            rw [show k1 + (N - k1 - 1) + 1 = N by omega, show N - k1 - 1 + 1 = N - k1 by omega, HBR.out, HH0.out.2] at e
            rw [HR.out, HN.out]
            refine e.trans ?_
            cases BR <;> rfl
          have HOKN : Hid (∀ y ∈ (L.drop (k1 + 1)).map Fl.x, y.kids = [] ∧ Lim y ∧ IdT y) := fun y hy => by
            obtain ⟨f', hf', rfl⟩ := List.mem_map.1 hy
            obtain ⟨j, hj⟩ := List.mem_iff_getElem?.1 (List.mem_of_mem_drop hf')
            have hjl := (List.getElem?_eq_some_iff.1 hj).1
            obtain ⟨r, hr⟩ := HH.out j (by rw [HN.out]; have := HLe.out; omega)
            have hm : H j ∈ stackP xs (names.take j) := by rw [hr]; exact List.mem_cons_self ..
            rw [(HLH.out j f' hj).1]
            exact ⟨with_kids _ _, lim_with0 (stackP_lim HLM.out _ _ hm), idT_with (idT_of (stackP_id HIP.out _ _ hm))⟩
          have HCH : Hid (∀ Lc, BR = .ok Lc → At1 (chainF Lc) ∧ cnt (chainF Lc) ≤ 501) := fun Lc e => by
            have e0 : brF us gs (brL H names k1 (N - k1)) = .ok Lc := HBR.out.trans e
            have hb : ∀ p ∈ brL H names k1 (N - k1), At1 p.1 := fun p hp => by
              obtain ⟨j, hj, rfl⟩ := List.mem_map.1 hp
              rw [List.mem_range'_1] at hj
              obtain ⟨r, hr⟩ := HH.out j (by rw [HN.out]; omega)
              exact at1_bare (stackP_lim HLM.out (names.take j) _ (by rw [hr]; exact List.mem_cons_self ..))
            obtain ⟨q1, q2⟩ := brF_at1 e0 hb
            have q3 : ∀ p ∈ Lc, p.1.kids = [] := brF_kids e0 (fun p hp => by
              obtain ⟨j, hj, rfl⟩ := List.mem_map.1 hp
              exact bare_kids _)
            obtain ⟨q4, q5⟩ := chain_lim Lc (fun p hp => ⟨q1 p hp, q3 p hp⟩)
            refine ⟨q4, ?_⟩
            rw [q2] at q5
            simp [brL] at q5
            omega
          obtain ⟨Z, HZN⟩ : ∃ Z, Hid (brN BR = Z) := ⟨_, rfl⟩
          obtain ⟨EV, HEV⟩ : ∃ E, Hid (brV BR = E) := ⟨_, rfl⟩
          obtain ⟨zk, zm, zu, zg, zo, za, zd, zs⟩ := Z
          have HBRW : Hid (∀ (w' : World) (S' : Nat → Bool), (∀ q, S' q = true → q < w'.heap.size) → NsV (offS w'.cell? S') (some ⟨pg, (k1 + 1) * 8, none⟩) ((L.drop (k1 + 1)).map Fl.x) → Strs (offS w'.cell? S') (some ⟨sb, so + k1, none⟩) (names.drop k1) → Below W.heap.size W w' → Calls Tryz.prog 15 #[.agg #[.slice ua us.length uc, .slice ga gs.length gc], .slice (some ⟨pg, (k1 + 1) * 8, none⟩) (N - k1) (pc - (k1 + 1)), .slice (some ⟨sb, so + k1, none⟩) (N - k1) (capn - k1)] w' fun e W' => (∃ h', e = .returned (.tuple #[.agg #[.int .i64 zk, .int .i64 zm, .int .i64 zu, .int .i64 zg, .bool zo, .slice h'.aa za.length h'.ca, .string zd, .slice h'.ak zs.length h'.ck], EV]) ∧ NdV (offS W'.cell? S') (.mk zk zm zu zg zo za zd zs) h') ∧ Below w'.heap.size w' W') := by
            intro w' S' hS' h1 h2 hb
            have e := branch_any (cn := pc - (k1 + 1)) (cs := capn - k1) hS' h1 h2 (fun e => by rw [e] at hnd1; simp at hnd1; omega) (by rw [hnd1]; omega) (by rw [hnd1, hnd2]; omega) HOKN.out (HM.out.below hb)
            rw [hnd1, hnd2] at e
            refine Calls.mono e fun e W' he => ?_
            have he2 := brE_one he
            rw [HPR.out, HBR.out, HZN.out, HEV.out] at he2
            exact he2
          have HNS : Hid (NsV (offS w2.cell? (fun k => k == W.heap.size || k == W.heap.size + 1 || S k)) (some ⟨pg, (k1 + 1) * 8, none⟩) ((L.drop (k1 + 1)).map Fl.x)) := hns
          have hmU : MLe (offS W.cell? S) (offS w2.cell? (fun k => k == W.heap.size || k == W.heap.size + 1 || S k)) := mle_step fun k hk hs => ⟨by simp [hs]; omega, hB02.block k hk⟩
          have HSD : Hid (Strs (offS w2.cell? (fun k => k == W.heap.size || k == W.heap.size + 1 || S k)) (some ⟨sb, so + k1, none⟩) (names.drop k1)) := Strs.drop (fun i s hi => hmU _ _ (hsa i s hi)) k1
          have T4 : w2.cell? ⟨W.heap.size, 0, none⟩ = some (.slice ua us.length uc) ∧ w2.cell? ⟨W.heap.size, 1, none⟩ = some (.slice ga gs.length gc) := ⟨c02, c12⟩
          have T5 : w2.drew.cell? ⟨W.heap.size, 0, none⟩ = some (.slice ua us.length uc) ∧ w2.drew.cell? ⟨W.heap.size, 1, none⟩ = some (.slice ga gs.length gc) := T4
          have T5a : (w2.alloc (.cells #[.int .i64 0, .int .i64 0, .int .i64 0, .int .i64 0, .bool false, .slice none 0 0, .string ⟨#[]⟩, .slice none 0 0] 34)).drew.cell? ⟨W.heap.size, 0, none⟩ = some (.slice ua us.length uc) ∧ (w2.alloc (.cells #[.int .i64 0, .int .i64 0, .int .i64 0, .int .i64 0, .bool false, .slice none 0 0, .string ⟨#[]⟩, .slice none 0 0] 34)).drew.cell? ⟨W.heap.size, 1, none⟩ = some (.slice ga gs.length gc) := ⟨mle_below (alloc_bel w2 _) _ _ c02, mle_below (alloc_bel w2 _) _ _ c12⟩
          have HC1 : Hid (Calls Tryz.prog 15 #[.agg #[.slice ua us.length uc, .slice ga gs.length gc], .slice (some ⟨pg, (k1 + 1) * 8, none⟩) (N - k1) (pc - (k1 + 1)), .slice (some ⟨sb, so + k1, none⟩) (N - k1) (capn - k1)] w2.drew (fun e W' => (∃ h', e = .returned (.tuple #[.agg #[.int .i64 zk, .int .i64 zm, .int .i64 zu, .int .i64 zg, .bool zo, .slice h'.aa za.length h'.ca, .string zd, .slice h'.ak zs.length h'.ck], EV]) ∧ NdV (offS W'.cell? (fun k => k == W.heap.size || k == W.heap.size + 1 || S k)) (.mk zk zm zu zg zo za zd zs) h') ∧ Below w2.drew.heap.size w2.drew W')) := HBRW.out w2.drew (fun k => k == W.heap.size || k == W.heap.size + 1 || S k) (S1_low hS0 hsz2) HNS.out HSD.out hB02.drew
          have hlowA : Below W.heap.size W (w2.alloc (.cells #[.int .i64 0, .int .i64 0, .int .i64 0, .int .i64 0, .bool false, .slice none 0 0, .string ⟨#[]⟩, .slice none 0 0] 34)).drew := (hB02.trans ((alloc_bel w2 (.cells #[.int .i64 0, .int .i64 0, .int .i64 0, .int .i64 0, .bool false, .slice none 0 0, .string ⟨#[]⟩, .slice none 0 0] 34)).mono hB02.size)).drew
          have hmA : MLe (offS w2.cell? (fun k => k == W.heap.size || k == W.heap.size + 1 || S k)) (offS (w2.alloc (.cells #[.int .i64 0, .int .i64 0, .int .i64 0, .int .i64 0, .bool false, .slice none 0 0, .string ⟨#[]⟩, .slice none 0 0] 34)).drew.cell? (fun k => k == w2.heap.size || (fun k => k == W.heap.size || k == W.heap.size + 1 || S k) k)) := mle_step fun q hq hs => ⟨Bool.or_eq_false_iff.2 ⟨by simp; omega, hs⟩, (alloc_bel w2 (.cells #[.int .i64 0, .int .i64 0, .int .i64 0, .int .i64 0, .bool false, .slice none 0 0, .string ⟨#[]⟩, .slice none 0 0] 34)).drew.block q hq⟩
          have hszA : (w2.alloc (.cells #[.int .i64 0, .int .i64 0, .int .i64 0, .int .i64 0, .bool false, .slice none 0 0, .string ⟨#[]⟩, .slice none 0 0] 34)).drew.heap.size = w2.heap.size + 1 := World.size_alloc _ _
          have HC2 : Hid (Calls Tryz.prog 15 #[.agg #[.slice ua us.length uc, .slice ga gs.length gc], .slice (some ⟨pg, (k1 + 1) * 8, none⟩) (N - k1) (pc - (k1 + 1)), .slice (some ⟨sb, so + k1, none⟩) (N - k1) (capn - k1)] (w2.alloc (.cells #[.int .i64 0, .int .i64 0, .int .i64 0, .int .i64 0, .bool false, .slice none 0 0, .string ⟨#[]⟩, .slice none 0 0] 34)).drew (fun e W' => (∃ h', e = .returned (.tuple #[.agg #[.int .i64 zk, .int .i64 zm, .int .i64 zu, .int .i64 zg, .bool zo, .slice h'.aa za.length h'.ca, .string zd, .slice h'.ak zs.length h'.ck], EV]) ∧ NdV (offS W'.cell? (fun k => k == w2.heap.size || (fun k => k == W.heap.size || k == W.heap.size + 1 || S k) k)) (.mk zk zm zu zg zo za zd zs) h') ∧ Below (w2.alloc (.cells #[.int .i64 0, .int .i64 0, .int .i64 0, .int .i64 0, .bool false, .slice none 0 0, .string ⟨#[]⟩, .slice none 0 0] 34)).drew.heap.size (w2.alloc (.cells #[.int .i64 0, .int .i64 0, .int .i64 0, .int .i64 0, .bool false, .slice none 0 0, .string ⟨#[]⟩, .slice none 0 0] 34)).drew W')) := HBRW.out (w2.alloc (.cells #[.int .i64 0, .int .i64 0, .int .i64 0, .int .i64 0, .bool false, .slice none 0 0, .string ⟨#[]⟩, .slice none 0 0] 34)).drew (fun k => k == w2.heap.size || (fun k => k == W.heap.size || k == W.heap.size + 1 || S k) k) (fun q hq => by
            rw [Bool.or_eq_true] at hq
            rcases hq with e | e
            · simp at e; omega
            · have := S1_low hS0 hsz2 q e; omega) (HNS.out.on hmA) (HSD.out.on hmA) hlowA
          have ZQA : NBw (w2.alloc (.cells #[.int .i64 0, .int .i64 0, .int .i64 0, .int .i64 0, .bool false, .slice none 0 0, .string ⟨#[]⟩, .slice none 0 0] 34)).drew w2.heap.size zN zH := NBw.zero w2
          have HK1 : Hid (∀ (w5 : World) (h' : Hd), Below w2.drew.heap.size w2.drew w5 → NdV (offS w5.cell? (fun k => k == W.heap.size || k == W.heap.size + 1 || S k)) (.mk zk zm zu zg zo za zd zs) h' → (w5.cell? ⟨W.heap.size, 0, none⟩ = some (.slice ua us.length uc) ∧ w5.cell? ⟨W.heap.size, 1, none⟩ = some (.slice ga gs.length gc)) ∧ ((w5.alloc (.cells #[.int .i64 0, .int .i64 0, .int .i64 0, .int .i64 0, .bool false, .slice none 0 0, .string ⟨#[]⟩, .slice none 0 0] 34)).cell? ⟨W.heap.size, 0, none⟩ = some (.slice ua us.length uc) ∧ (w5.alloc (.cells #[.int .i64 0, .int .i64 0, .int .i64 0, .int .i64 0, .bool false, .slice none 0 0, .string ⟨#[]⟩, .slice none 0 0] 34)).cell? ⟨W.heap.size, 1, none⟩ = some (.slice ga gs.length gc)) ∧ ((w5.alloc (.cells #[.int .i64 zk, .int .i64 zm, .int .i64 zu, .int .i64 zg, .bool zo, .slice h'.aa za.length h'.ca, .string zd, .slice h'.ak zs.length h'.ck] 34)).cell? ⟨W.heap.size, 0, none⟩ = some (.slice ua us.length uc) ∧ (w5.alloc (.cells #[.int .i64 zk, .int .i64 zm, .int .i64 zu, .int .i64 zg, .bool zo, .slice h'.aa za.length h'.ca, .string zd, .slice h'.ak zs.length h'.ck] 34)).cell? ⟨W.heap.size, 1, none⟩ = some (.slice ga gs.length gc)) ∧ NBw (w5.alloc (.cells #[.int .i64 zk, .int .i64 zm, .int .i64 zu, .int .i64 zg, .bool zo, .slice h'.aa za.length h'.ca, .string zd, .slice h'.ak zs.length h'.ck] 34)) w5.heap.size (.mk zk zm zu zg zo za zd zs) h' ∧ Below W.heap.size W (w5.alloc (.cells #[.int .i64 zk, .int .i64 zm, .int .i64 zu, .int .i64 zg, .bool zo, .slice h'.aa za.length h'.ca, .string zd, .slice h'.ak zs.length h'.ck] 34)) ∧ NBw (w5.alloc (.cells #[.int .i64 zk, .int .i64 zm, .int .i64 zu, .int .i64 zg, .bool zo, .slice h'.aa za.length h'.ca, .string zd, .slice h'.ak zs.length h'.ck] 34)) (W.heap.size + 1) zN zH ∧ NdV (offS (w5.alloc (.cells #[.int .i64 zk, .int .i64 zm, .int .i64 zu, .int .i64 zg, .bool zo, .slice h'.aa za.length h'.ca, .string zd, .slice h'.ak zs.length h'.ck] 34)).cell? (fun k => k == W.heap.size || k == W.heap.size + 1 || S k)) (.mk zk zm zu zg zo za zd zs) h' ∧ W.heap.size + 1 < w5.heap.size) := by
            intro w5 h' b5 hn5
            have b45 : Below w2.heap.size w2 w5 := ((Below.refl _ w2).drew).trans b5
            have hl2 : ∀ w', Below w5.heap.size w5 w' → w'.cell? ⟨W.heap.size, 0, none⟩ = some (.slice ua us.length uc) ∧ w'.cell? ⟨W.heap.size, 1, none⟩ = some (.slice ga gs.length gc) := fun w' hb => ⟨mle_below hb _ _ (mle_below b45 _ _ c02), mle_below hb _ _ (mle_below b45 _ _ c12)⟩
            have ba := b45.trans ((alloc_bel w5 (.cells #[.int .i64 zk, .int .i64 zm, .int .i64 zu, .int .i64 zg, .bool zo, .slice h'.aa za.length h'.ca, .string zd, .slice h'.ak zs.length h'.ck] 34)).mono b45.size)
            exact ⟨hl2 w5 (Below.refl _ _), hl2 _ (alloc_bel w5 _), hl2 _ (alloc_bel w5 _), NBw.new w5 zk zm zu zg zo za zd zs h', hB02.trans (ba.mono hB02.size), RB2.below ba, hn5.on (mle_S (alloc_bel w5 (.cells #[.int .i64 zk, .int .i64 zm, .int .i64 zu, .int .i64 zg, .bool zo, .slice h'.aa za.length h'.ca, .string zd, .slice h'.ak zs.length h'.ck] 34))), Nat.lt_of_lt_of_le (by omega) b45.size⟩
          have HK2 : Hid (∀ (w5 : World) (h' : Hd), Below (w2.alloc (.cells #[.int .i64 0, .int .i64 0, .int .i64 0, .int .i64 0, .bool false, .slice none 0 0, .string ⟨#[]⟩, .slice none 0 0] 34)).drew.heap.size (w2.alloc (.cells #[.int .i64 0, .int .i64 0, .int .i64 0, .int .i64 0, .bool false, .slice none 0 0, .string ⟨#[]⟩, .slice none 0 0] 34)).drew w5 → NdV (offS w5.cell? (fun k => k == w2.heap.size || (fun k => k == W.heap.size || k == W.heap.size + 1 || S k) k)) (.mk zk zm zu zg zo za zd zs) h' → (w5.cell? ⟨W.heap.size, 0, none⟩ = some (.slice ua us.length uc) ∧ w5.cell? ⟨W.heap.size, 1, none⟩ = some (.slice ga gs.length gc)) ∧ (((((((((w5.setCell ⟨w2.heap.size, 0, none⟩ (.int .i64 zk)).setCell ⟨w2.heap.size, 1, none⟩ (.int .i64 zm)).setCell ⟨w2.heap.size, 2, none⟩ (.int .i64 zu)).setCell ⟨w2.heap.size, 3, none⟩ (.int .i64 zg)).setCell ⟨w2.heap.size, 4, none⟩ (.bool zo)).setCell ⟨w2.heap.size, 5, none⟩ (.slice h'.aa za.length h'.ca)).setCell ⟨w2.heap.size, 6, none⟩ (.string zd)).setCell ⟨w2.heap.size, 7, none⟩ (.slice h'.ak zs.length h'.ck)).cell? ⟨W.heap.size, 0, none⟩ = some (.slice ua us.length uc) ∧ ((((((((w5.setCell ⟨w2.heap.size, 0, none⟩ (.int .i64 zk)).setCell ⟨w2.heap.size, 1, none⟩ (.int .i64 zm)).setCell ⟨w2.heap.size, 2, none⟩ (.int .i64 zu)).setCell ⟨w2.heap.size, 3, none⟩ (.int .i64 zg)).setCell ⟨w2.heap.size, 4, none⟩ (.bool zo)).setCell ⟨w2.heap.size, 5, none⟩ (.slice h'.aa za.length h'.ca)).setCell ⟨w2.heap.size, 6, none⟩ (.string zd)).setCell ⟨w2.heap.size, 7, none⟩ (.slice h'.ak zs.length h'.ck)).cell? ⟨W.heap.size, 1, none⟩ = some (.slice ga gs.length gc)) ∧ NBw w5 w2.heap.size zN zH ∧ NBw (stB w5 w2.heap.size (.mk zk zm zu zg zo za zd zs) h') w2.heap.size (.mk zk zm zu zg zo za zd zs) h' ∧ Below W.heap.size W (stB w5 w2.heap.size (.mk zk zm zu zg zo za zd zs) h') ∧ NBw (stB w5 w2.heap.size (.mk zk zm zu zg zo za zd zs) h') (W.heap.size + 1) zN zH ∧ NdV (offS (stB w5 w2.heap.size (.mk zk zm zu zg zo za zd zs) h').cell? (fun k => k == W.heap.size || k == W.heap.size + 1 || S k)) (.mk zk zm zu zg zo za zd zs) h') := by
            intro w5 h' b5 hn5
            have b4 := (alloc_bel w2 (.cells #[.int .i64 0, .int .i64 0, .int .i64 0, .int .i64 0, .bool false, .slice none 0 0, .string ⟨#[]⟩, .slice none 0 0] 34)).drew
            have b45 : Below w2.heap.size w2 w5 := b4.trans (b5.mono b4.size)
            have hQ5 := ZQA.below b5
            have bY : But w2.heap.size w5 (stB w5 w2.heap.size (.mk zk zm zu zg zo za zd zs) h') := stB_but
            have b46 : Below w2.heap.size w2 (stB w5 w2.heap.size (.mk zk zm zu zg zo za zd zs) h') := b45.trans (bY.below (Nat.le_refl _) b45.size)
            exact ⟨⟨mle_below b45 _ _ c02, mle_below b45 _ _ c12⟩, ⟨mle_below b46 _ _ c02, mle_below b46 _ _ c12⟩, hQ5, hQ5.store (.mk zk zm zu zg zo za zd zs) h', hB02.trans (b46.mono hB02.size), RB2.below b46, hn5.on (mle_step fun q hq hs => by
              rw [Bool.or_eq_false_iff] at hs
              exact ⟨hs.2, bY.block q hq (by simpa using hs.1)⟩)⟩
          have HSZP : Hid (W.heap.size + 1 < w2.heap.size) := by show _ < _; omega
          have g1 : (0 : Int) ≤ (k1 : Int) + 1 := by omega
          have g2 : (k1 : Int) + 1 ≤ (N : Int) + 1 := by omega
          have g3 : (k1 : Int) ≤ (N : Int) := by omega
          have g4 : (N : Int) + 1 ≤ (pc : Int) := by omega
          have g5 : (N : Int) ≤ (capn : Int) := by omega
          have g6 : ¬ pc = k1 + 1 := by omega
          have g7 : ¬ capn = k1 := by omega
          have g8 : ((k1 : Int) + 1).toNat = k1 + 1 := by omega
          have g9 : IntKind.i64.wrap (k1 : Int) = (k1 : Int) := wrap_small (by omega) (by omega)
          clear T4 HBRW HNS HSD hlowA hmA hszA ZQA HM HS HPR HOKN HLH HAR HZ fcell hf hly hns hnd1 hnd2 HX
          rw [show ((k1 + 1 : Nat) : Int) = (k1 : Int) + 1 by omega]
          clear hb1 hz2 htn htb hb
          go_region_held3 (fun w' => w'.cell? ⟨W.heap.size, 0, none⟩ = some (.slice ua us.length uc) ∧ w'.cell? ⟨W.heap.size, 1, none⟩ = some (.slice ga gs.length gc)) (first | with_reducible exact T5 | with_reducible exact T10 | with_reducible exact T11 | with_reducible exact T12 | with_reducible exact T5a) (first | (go_at_call 15; (with_reducible refine Calls.mono HC1.out ?_); rintro e w5 ⟨⟨h', rfl, hn5⟩, b5⟩; obtain ⟨T10, T11, T12, YB8, hB8, RB8, hn8, hlt8⟩ := HK1.out w5 h' b5 hn5) | (go_at_call 15; (with_reducible refine Calls.mono HC2.out ?_); rintro e w5 ⟨⟨h', rfl, hn5⟩, b5⟩; obtain ⟨T10, T12, hQ5, YB8, hB8, RB8, hn8⟩ := HK2.out w5 h' b5 hn5; obtain ⟨⟨z0, z1, z2, z3, z4, z5, z6, z7⟩, z8⟩ := id hQ5; clear hQ5))
          · have HNZ : Hid (NdV (offS (w5.alloc (.cells #[.int .i64 zk, .int .i64 zm, .int .i64 zu, .int .i64 zg, .bool zo, .slice h'.aa za.length h'.ca, .string zd, .slice h'.ak zs.length h'.ck] 34)).cell? (fun k => k == W.heap.size || k == W.heap.size + 1 || S k)) (.mk zk zm zu zg zo za zd zs) h') := hn8
            clear T5 T5a T10 T11 T12 HC1 HC2 HK1 HK2 hn5 b5 hn8 hmU RB2 hB02 c02 c12
            generalize w5.alloc (.cells #[.int .i64 zk, .int .i64 zm, .int .i64 zu, .int .i64 zg, .bool zo, .slice h'.aa za.length h'.ca, .string zd, .slice h'.ak zs.length h'.ck] 34) = w8 at HNZ YB8 hB8 RB8 ⊢
            generalize w5.heap.size = b11 at YB8 hlt8 ⊢
            have hmU8 : MLe (offS W.cell? S) (offS w8.cell? (fun k => k == W.heap.size || k == W.heap.size + 1 || S k)) := mle_step fun k hk hs => ⟨by simp [hs]; omega, hB8.block k hk⟩
            cases BR with
            | error f =>
              have hEV : EV = .iface 44 (.int .i64 f) := HEV.out.symm
              subst hEV
              have HEE : Hid (UpR us gs xs names U = .error f) := HUPN.out
              have HF0 : Hid (f ≠ 0) := brF_pos HBR.out
              clear HUPN HBR HZN HEV HCH HNZ YB8 hmU8 HUA HUN HH
              have R3 := NBw.store RB8 zN zH
              have hB3 : Below W.heap.size W (stB w8 (W.heap.size + 1) zN zH) := hB8.trans (stB_but.below (by omega) hB8.size)
              have z0 := RB8.2 0
              have z1 := RB8.2 1
              have z2 := RB8.2 2
              have z3 := RB8.2 3
              have z4 := RB8.2 4
              have z5 := RB8.2 5
              have z6 := RB8.2 6
              have z7 := RB8.2 7
              obtain ⟨f0, f1, f2, f3, f4, f5, f6, f7⟩ := RB8.1
              go_wp2
              obtain ⟨W6, HW6⟩ : ∃ W6, Hid (stB w8 (W.heap.size + 1) zN zH = W6) := ⟨_, rfl⟩
              rw [HW6.out] at R3 hB3
              have hw6 := HW6.out
              simp only [stB, zN, zH] at hw6
              simp only [List.length_nil] at hw6
              rw [hw6]
              obtain ⟨r0, r1, r2, r3, r4, r5, r6, r7⟩ := R3.1
              refine bodyPost_ret (v := .tuple #[ndV zN zH, .iface 44 (.int .i64 f)]) (by simp [results, Tryz.results6, go_sem, ndV, zN, zH, r0, r1, r2, r3, r4, r5, r6, r7]) rfl (ndE_err HEE.out HF0.out hB3)
            | ok Lc =>
              have hEV : EV = .nilIface := HEV.out.symm
              subst hEV
              have HZC : Hid (chainF Lc = (.mk zk zm zu zg zo za zd zs)) := HZN.out
              obtain ⟨hca, hcc⟩ := HCH.out Lc rfl
              rw [HZC.out] at hca hcc
              have HUPK : Hid (UpR us gs xs names U = chgF (some (.mk zk zm zu zg zo za zd zs)) (names.take (k1 + 1)) U) := by rw [HUPN.out, ← HZC.out]; rfl
              obtain ⟨R2, HR2⟩ : ∃ R2, Hid (chgF (some (.mk zk zm zu zg zo za zd zs)) (names.take (k1 + 1)) U = R2) := ⟨_, rfl⟩
              obtain ⟨X, HXN⟩ : ∃ X, Hid (xNd R2 = X) := ⟨_, rfl⟩
              obtain ⟨EV2, HEV2⟩ : ∃ E, Hid (errV (xErr R2) = E) := ⟨_, rfl⟩
              obtain ⟨ek, em, eu, eg, eo, ea, ed, es⟩ := X
              have hsz8 : W.heap.size + 1 + 1 ≤ w8.heap.size := by have := RB8.1.lt; omega
              have hua8 := (HUA.out.on hmU8).on (offS_le _ _)
              have habW : ab < W.heap.size := World.block_lt_of_cell? _ _ (offS_le _ _ _ _ ((nat_iff.1 HUA.out) 0 _ (ndL_0 U hv0)))
              have HPT : Hid (Calls Tryz.prog 16 #[ndV U hv0, .slice (some ⟨sb, so, none⟩) (k1 + 1) capn, .agg #[.int .i64 zk, .int .i64 zm, .int .i64 zu, .int .i64 zg, .bool zo, .slice h'.aa za.length h'.ca, .string zd, .slice h'.ak zs.length h'.ck]] w8.drew (fun e W' => (∃ h2, e = .returned (.tuple #[.agg #[.int .i64 ek, .int .i64 em, .int .i64 eu, .int .i64 eg, .bool eo, .slice h2.aa ea.length h2.ca, .string ed, .slice h2.ak es.length h2.ck], EV2]) ∧ NdV (offS W'.cell? (fun k => k == W.heap.size || k == W.heap.size + 1 || S k)) (.mk ek em eu eg eo ea ed es) h2) ∧ Below w8.drew.heap.size w8.drew W')) := by
                have e := tputS_any (W := w8.drew) (S := (fun k => k == W.heap.size || k == W.heap.size + 1 || S k)) (x0 := U) (h := hv0) (S1_low hS0 (w' := w8.drew) hsz8) (HUN.out.on hmU8) (some ⟨sb, so, none⟩) capn (names.take (k1 + 1)) ((Strs.take (.inr ⟨sb, so, rfl, hsa⟩) _).on (hmU8.trans (offS_le _ _))) (by rw [List.length_take, HN.out]; omega) (by rw [List.length_take, HN.out]; omega) (by omega) (.mk zk zm zu zg zo za zd zs) h' HNZ.out (fun r hr => by
                  have c := chg_cnt hr
                  have c2 : cntO (some (.mk zk zm zu zg zo za zd zs)) = cnt (.mk zk zm zu zg zo za zd zs) := rfl
                  have c3 : cnt r ≤ 1000 := by omega
                  exact ⟨lim_at r (chg_at1 hr (fun y e => by cases e; exact hca) HAU.out) c3, c3⟩)
                rw [show (names.take (k1 + 1)).length = k1 + 1 by rw [List.length_take, HN.out]; omega, HR2.out] at e
                unfold NdE at e
                rw [HXN.out, HEV2.out] at e
                exact e
              clear HUPN HBR HZN HEV HCH HNZ hmU8 HUN HH HUA HZC hca hcc HAU
              obtain ⟨k, m, u, g, o, at_, d, ks⟩ := U
              have HPT : Hid (Calls Tryz.prog 16 #[.agg #[.int .i64 k, .int .i64 m, .int .i64 u, .int .i64 g, .bool o, .slice hv0.aa at_.length hv0.ca, .string d, .slice hv0.ak ks.length hv0.ck], .slice (some ⟨sb, so, none⟩) (k1 + 1) capn, .agg #[.int .i64 zk, .int .i64 zm, .int .i64 zu, .int .i64 zg, .bool zo, .slice h'.aa za.length h'.ca, .string zd, .slice h'.ak zs.length h'.ck]] w8.drew (fun e W' => (∃ h2, e = .returned (.tuple #[.agg #[.int .i64 ek, .int .i64 em, .int .i64 eu, .int .i64 eg, .bool eo, .slice h2.aa ea.length h2.ca, .string ed, .slice h2.ak es.length h2.ck], EV2]) ∧ NdV (offS W'.cell? (fun k => k == W.heap.size || k == W.heap.size + 1 || S k)) (.mk ek em eu eg eo ea ed es) h2) ∧ Below w8.drew.heap.size w8.drew W')) := HPT
              have g10 : (k1 : Int) + 1 ≤ (capn : Int) := by omega
              have hxl2 : 0 < xs.length := HXL.out
              have hxl : (0 : Int) < (xs.length : Int) := by omega
              have T4 : w8.cell? ⟨ab, ao, none⟩ = some (.int .i64 k) ∧ w8.cell? ⟨ab, ao + 1, none⟩ = some (.int .i64 m) ∧ w8.cell? ⟨ab, ao + 2, none⟩ = some (.int .i64 u) ∧ w8.cell? ⟨ab, ao + 3, none⟩ = some (.int .i64 g) ∧ w8.cell? ⟨ab, ao + 4, none⟩ = some (.bool o) ∧ w8.cell? ⟨ab, ao + 5, none⟩ = some (.slice hv0.aa at_.length hv0.ca) ∧ w8.cell? ⟨ab, ao + 6, none⟩ = some (.string d) ∧ w8.cell? ⟨ab, ao + 7, none⟩ = some (.slice hv0.ak ks.length hv0.ck) ∧ w8.cell? ⟨b11, 0, none⟩ = some (.int .i64 zk) ∧ w8.cell? ⟨b11, 1, none⟩ = some (.int .i64 zm) ∧ w8.cell? ⟨b11, 2, none⟩ = some (.int .i64 zu) ∧ w8.cell? ⟨b11, 3, none⟩ = some (.int .i64 zg) ∧ w8.cell? ⟨b11, 4, none⟩ = some (.bool zo) ∧ w8.cell? ⟨b11, 5, none⟩ = some (.slice h'.aa za.length h'.ca) ∧ w8.cell? ⟨b11, 6, none⟩ = some (.string zd) ∧ w8.cell? ⟨b11, 7, none⟩ = some (.slice h'.ak zs.length h'.ck) := by
                obtain ⟨e0, e1, e2, e3, e4, e5, e6, e7⟩ := hua8
                obtain ⟨d0, d1, d2, d3, d4, d5, d6, d7⟩ := YB8.1
                exact ⟨e0, e1, e2, e3, e4, e5, e6, e7, d0, d1, d2, d3, d4, d5, d6, d7⟩
              have hne1 : ab ≠ (W.heap.size + 1) := by omega
              have hne2 : b11 ≠ (W.heap.size + 1) := by omega
              have T5 : w8.drew.cell? ⟨ab, ao, none⟩ = some (.int .i64 k) ∧ w8.drew.cell? ⟨ab, ao + 1, none⟩ = some (.int .i64 m) ∧ w8.drew.cell? ⟨ab, ao + 2, none⟩ = some (.int .i64 u) ∧ w8.drew.cell? ⟨ab, ao + 3, none⟩ = some (.int .i64 g) ∧ w8.drew.cell? ⟨ab, ao + 4, none⟩ = some (.bool o) ∧ w8.drew.cell? ⟨ab, ao + 5, none⟩ = some (.slice hv0.aa at_.length hv0.ca) ∧ w8.drew.cell? ⟨ab, ao + 6, none⟩ = some (.string d) ∧ w8.drew.cell? ⟨ab, ao + 7, none⟩ = some (.slice hv0.ak ks.length hv0.ck) ∧ w8.drew.cell? ⟨b11, 0, none⟩ = some (.int .i64 zk) ∧ w8.drew.cell? ⟨b11, 1, none⟩ = some (.int .i64 zm) ∧ w8.drew.cell? ⟨b11, 2, none⟩ = some (.int .i64 zu) ∧ w8.drew.cell? ⟨b11, 3, none⟩ = some (.int .i64 zg) ∧ w8.drew.cell? ⟨b11, 4, none⟩ = some (.bool zo) ∧ w8.drew.cell? ⟨b11, 5, none⟩ = some (.slice h'.aa za.length h'.ca) ∧ w8.drew.cell? ⟨b11, 6, none⟩ = some (.string zd) ∧ w8.drew.cell? ⟨b11, 7, none⟩ = some (.slice h'.ak zs.length h'.ck) := T4
              have HK9 : Hid (∀ (w9 : World) (h2 : Hd), Below w8.drew.heap.size w8.drew w9 → NdV (offS w9.cell? (fun k => k == W.heap.size || k == W.heap.size + 1 || S k)) (.mk ek em eu eg eo ea ed es) h2 → (w9.cell? ⟨ab, ao, none⟩ = some (.int .i64 k) ∧ w9.cell? ⟨ab, ao + 1, none⟩ = some (.int .i64 m) ∧ w9.cell? ⟨ab, ao + 2, none⟩ = some (.int .i64 u) ∧ w9.cell? ⟨ab, ao + 3, none⟩ = some (.int .i64 g) ∧ w9.cell? ⟨ab, ao + 4, none⟩ = some (.bool o) ∧ w9.cell? ⟨ab, ao + 5, none⟩ = some (.slice hv0.aa at_.length hv0.ca) ∧ w9.cell? ⟨ab, ao + 6, none⟩ = some (.string d) ∧ w9.cell? ⟨ab, ao + 7, none⟩ = some (.slice hv0.ak ks.length hv0.ck) ∧ w9.cell? ⟨b11, 0, none⟩ = some (.int .i64 zk) ∧ w9.cell? ⟨b11, 1, none⟩ = some (.int .i64 zm) ∧ w9.cell? ⟨b11, 2, none⟩ = some (.int .i64 zu) ∧ w9.cell? ⟨b11, 3, none⟩ = some (.int .i64 zg) ∧ w9.cell? ⟨b11, 4, none⟩ = some (.bool zo) ∧ w9.cell? ⟨b11, 5, none⟩ = some (.slice h'.aa za.length h'.ca) ∧ w9.cell? ⟨b11, 6, none⟩ = some (.string zd) ∧ w9.cell? ⟨b11, 7, none⟩ = some (.slice h'.ak zs.length h'.ck)) ∧ (((((((((w9.setCell ⟨(W.heap.size + 1), 0, none⟩ (.int .i64 ek)).setCell ⟨(W.heap.size + 1), 1, none⟩ (.int .i64 em)).setCell ⟨(W.heap.size + 1), 2, none⟩ (.int .i64 eu)).setCell ⟨(W.heap.size + 1), 3, none⟩ (.int .i64 eg)).setCell ⟨(W.heap.size + 1), 4, none⟩ (.bool eo)).setCell ⟨(W.heap.size + 1), 5, none⟩ (.slice h2.aa ea.length h2.ca)).setCell ⟨(W.heap.size + 1), 6, none⟩ (.string ed)).setCell ⟨(W.heap.size + 1), 7, none⟩ (.slice h2.ak es.length h2.ck)).cell? ⟨ab, ao, none⟩ = some (.int .i64 k) ∧ ((((((((w9.setCell ⟨(W.heap.size + 1), 0, none⟩ (.int .i64 ek)).setCell ⟨(W.heap.size + 1), 1, none⟩ (.int .i64 em)).setCell ⟨(W.heap.size + 1), 2, none⟩ (.int .i64 eu)).setCell ⟨(W.heap.size + 1), 3, none⟩ (.int .i64 eg)).setCell ⟨(W.heap.size + 1), 4, none⟩ (.bool eo)).setCell ⟨(W.heap.size + 1), 5, none⟩ (.slice h2.aa ea.length h2.ca)).setCell ⟨(W.heap.size + 1), 6, none⟩ (.string ed)).setCell ⟨(W.heap.size + 1), 7, none⟩ (.slice h2.ak es.length h2.ck)).cell? ⟨ab, ao + 1, none⟩ = some (.int .i64 m) ∧ ((((((((w9.setCell ⟨(W.heap.size + 1), 0, none⟩ (.int .i64 ek)).setCell ⟨(W.heap.size + 1), 1, none⟩ (.int .i64 em)).setCell ⟨(W.heap.size + 1), 2, none⟩ (.int .i64 eu)).setCell ⟨(W.heap.size + 1), 3, none⟩ (.int .i64 eg)).setCell ⟨(W.heap.size + 1), 4, none⟩ (.bool eo)).setCell ⟨(W.heap.size + 1), 5, none⟩ (.slice h2.aa ea.length h2.ca)).setCell ⟨(W.heap.size + 1), 6, none⟩ (.string ed)).setCell ⟨(W.heap.size + 1), 7, none⟩ (.slice h2.ak es.length h2.ck)).cell? ⟨ab, ao + 2, none⟩ = some (.int .i64 u) ∧ ((((((((w9.setCell ⟨(W.heap.size + 1), 0, none⟩ (.int .i64 ek)).setCell ⟨(W.heap.size + 1), 1, none⟩ (.int .i64 em)).setCell ⟨(W.heap.size + 1), 2, none⟩ (.int .i64 eu)).setCell ⟨(W.heap.size + 1), 3, none⟩ (.int .i64 eg)).setCell ⟨(W.heap.size + 1), 4, none⟩ (.bool eo)).setCell ⟨(W.heap.size + 1), 5, none⟩ (.slice h2.aa ea.length h2.ca)).setCell ⟨(W.heap.size + 1), 6, none⟩ (.string ed)).setCell ⟨(W.heap.size + 1), 7, none⟩ (.slice h2.ak es.length h2.ck)).cell? ⟨ab, ao + 3, none⟩ = some (.int .i64 g) ∧ ((((((((w9.setCell ⟨(W.heap.size + 1), 0, none⟩ (.int .i64 ek)).setCell ⟨(W.heap.size + 1), 1, none⟩ (.int .i64 em)).setCell ⟨(W.heap.size + 1), 2, none⟩ (.int .i64 eu)).setCell ⟨(W.heap.size + 1), 3, none⟩ (.int .i64 eg)).setCell ⟨(W.heap.size + 1), 4, none⟩ (.bool eo)).setCell ⟨(W.heap.size + 1), 5, none⟩ (.slice h2.aa ea.length h2.ca)).setCell ⟨(W.heap.size + 1), 6, none⟩ (.string ed)).setCell ⟨(W.heap.size + 1), 7, none⟩ (.slice h2.ak es.length h2.ck)).cell? ⟨ab, ao + 4, none⟩ = some (.bool o) ∧ ((((((((w9.setCell ⟨(W.heap.size + 1), 0, none⟩ (.int .i64 ek)).setCell ⟨(W.heap.size + 1), 1, none⟩ (.int .i64 em)).setCell ⟨(W.heap.size + 1), 2, none⟩ (.int .i64 eu)).setCell ⟨(W.heap.size + 1), 3, none⟩ (.int .i64 eg)).setCell ⟨(W.heap.size + 1), 4, none⟩ (.bool eo)).setCell ⟨(W.heap.size + 1), 5, none⟩ (.slice h2.aa ea.length h2.ca)).setCell ⟨(W.heap.size + 1), 6, none⟩ (.string ed)).setCell ⟨(W.heap.size + 1), 7, none⟩ (.slice h2.ak es.length h2.ck)).cell? ⟨ab, ao + 5, none⟩ = some (.slice hv0.aa at_.length hv0.ca) ∧ ((((((((w9.setCell ⟨(W.heap.size + 1), 0, none⟩ (.int .i64 ek)).setCell ⟨(W.heap.size + 1), 1, none⟩ (.int .i64 em)).setCell ⟨(W.heap.size + 1), 2, none⟩ (.int .i64 eu)).setCell ⟨(W.heap.size + 1), 3, none⟩ (.int .i64 eg)).setCell ⟨(W.heap.size + 1), 4, none⟩ (.bool eo)).setCell ⟨(W.heap.size + 1), 5, none⟩ (.slice h2.aa ea.length h2.ca)).setCell ⟨(W.heap.size + 1), 6, none⟩ (.string ed)).setCell ⟨(W.heap.size + 1), 7, none⟩ (.slice h2.ak es.length h2.ck)).cell? ⟨ab, ao + 6, none⟩ = some (.string d) ∧ ((((((((w9.setCell ⟨(W.heap.size + 1), 0, none⟩ (.int .i64 ek)).setCell ⟨(W.heap.size + 1), 1, none⟩ (.int .i64 em)).setCell ⟨(W.heap.size + 1), 2, none⟩ (.int .i64 eu)).setCell ⟨(W.heap.size + 1), 3, none⟩ (.int .i64 eg)).setCell ⟨(W.heap.size + 1), 4, none⟩ (.bool eo)).setCell ⟨(W.heap.size + 1), 5, none⟩ (.slice h2.aa ea.length h2.ca)).setCell ⟨(W.heap.size + 1), 6, none⟩ (.string ed)).setCell ⟨(W.heap.size + 1), 7, none⟩ (.slice h2.ak es.length h2.ck)).cell? ⟨ab, ao + 7, none⟩ = some (.slice hv0.ak ks.length hv0.ck) ∧ ((((((((w9.setCell ⟨(W.heap.size + 1), 0, none⟩ (.int .i64 ek)).setCell ⟨(W.heap.size + 1), 1, none⟩ (.int .i64 em)).setCell ⟨(W.heap.size + 1), 2, none⟩ (.int .i64 eu)).setCell ⟨(W.heap.size + 1), 3, none⟩ (.int .i64 eg)).setCell ⟨(W.heap.size + 1), 4, none⟩ (.bool eo)).setCell ⟨(W.heap.size + 1), 5, none⟩ (.slice h2.aa ea.length h2.ca)).setCell ⟨(W.heap.size + 1), 6, none⟩ (.string ed)).setCell ⟨(W.heap.size + 1), 7, none⟩ (.slice h2.ak es.length h2.ck)).cell? ⟨b11, 0, none⟩ = some (.int .i64 zk) ∧ ((((((((w9.setCell ⟨(W.heap.size + 1), 0, none⟩ (.int .i64 ek)).setCell ⟨(W.heap.size + 1), 1, none⟩ (.int .i64 em)).setCell ⟨(W.heap.size + 1), 2, none⟩ (.int .i64 eu)).setCell ⟨(W.heap.size + 1), 3, none⟩ (.int .i64 eg)).setCell ⟨(W.heap.size + 1), 4, none⟩ (.bool eo)).setCell ⟨(W.heap.size + 1), 5, none⟩ (.slice h2.aa ea.length h2.ca)).setCell ⟨(W.heap.size + 1), 6, none⟩ (.string ed)).setCell ⟨(W.heap.size + 1), 7, none⟩ (.slice h2.ak es.length h2.ck)).cell? ⟨b11, 1, none⟩ = some (.int .i64 zm) ∧ ((((((((w9.setCell ⟨(W.heap.size + 1), 0, none⟩ (.int .i64 ek)).setCell ⟨(W.heap.size + 1), 1, none⟩ (.int .i64 em)).setCell ⟨(W.heap.size + 1), 2, none⟩ (.int .i64 eu)).setCell ⟨(W.heap.size + 1), 3, none⟩ (.int .i64 eg)).setCell ⟨(W.heap.size + 1), 4, none⟩ (.bool eo)).setCell ⟨(W.heap.size + 1), 5, none⟩ (.slice h2.aa ea.length h2.ca)).setCell ⟨(W.heap.size + 1), 6, none⟩ (.string ed)).setCell ⟨(W.heap.size + 1), 7, none⟩ (.slice h2.ak es.length h2.ck)).cell? ⟨b11, 2, none⟩ = some (.int .i64 zu) ∧ ((((((((w9.setCell ⟨(W.heap.size + 1), 0, none⟩ (.int .i64 ek)).setCell ⟨(W.heap.size + 1), 1, none⟩ (.int .i64 em)).setCell ⟨(W.heap.size + 1), 2, none⟩ (.int .i64 eu)).setCell ⟨(W.heap.size + 1), 3, none⟩ (.int .i64 eg)).setCell ⟨(W.heap.size + 1), 4, none⟩ (.bool eo)).setCell ⟨(W.heap.size + 1), 5, none⟩ (.slice h2.aa ea.length h2.ca)).setCell ⟨(W.heap.size + 1), 6, none⟩ (.string ed)).setCell ⟨(W.heap.size + 1), 7, none⟩ (.slice h2.ak es.length h2.ck)).cell? ⟨b11, 3, none⟩ = some (.int .i64 zg) ∧ ((((((((w9.setCell ⟨(W.heap.size + 1), 0, none⟩ (.int .i64 ek)).setCell ⟨(W.heap.size + 1), 1, none⟩ (.int .i64 em)).setCell ⟨(W.heap.size + 1), 2, none⟩ (.int .i64 eu)).setCell ⟨(W.heap.size + 1), 3, none⟩ (.int .i64 eg)).setCell ⟨(W.heap.size + 1), 4, none⟩ (.bool eo)).setCell ⟨(W.heap.size + 1), 5, none⟩ (.slice h2.aa ea.length h2.ca)).setCell ⟨(W.heap.size + 1), 6, none⟩ (.string ed)).setCell ⟨(W.heap.size + 1), 7, none⟩ (.slice h2.ak es.length h2.ck)).cell? ⟨b11, 4, none⟩ = some (.bool zo) ∧ ((((((((w9.setCell ⟨(W.heap.size + 1), 0, none⟩ (.int .i64 ek)).setCell ⟨(W.heap.size + 1), 1, none⟩ (.int .i64 em)).setCell ⟨(W.heap.size + 1), 2, none⟩ (.int .i64 eu)).setCell ⟨(W.heap.size + 1), 3, none⟩ (.int .i64 eg)).setCell ⟨(W.heap.size + 1), 4, none⟩ (.bool eo)).setCell ⟨(W.heap.size + 1), 5, none⟩ (.slice h2.aa ea.length h2.ca)).setCell ⟨(W.heap.size + 1), 6, none⟩ (.string ed)).setCell ⟨(W.heap.size + 1), 7, none⟩ (.slice h2.ak es.length h2.ck)).cell? ⟨b11, 5, none⟩ = some (.slice h'.aa za.length h'.ca) ∧ ((((((((w9.setCell ⟨(W.heap.size + 1), 0, none⟩ (.int .i64 ek)).setCell ⟨(W.heap.size + 1), 1, none⟩ (.int .i64 em)).setCell ⟨(W.heap.size + 1), 2, none⟩ (.int .i64 eu)).setCell ⟨(W.heap.size + 1), 3, none⟩ (.int .i64 eg)).setCell ⟨(W.heap.size + 1), 4, none⟩ (.bool eo)).setCell ⟨(W.heap.size + 1), 5, none⟩ (.slice h2.aa ea.length h2.ca)).setCell ⟨(W.heap.size + 1), 6, none⟩ (.string ed)).setCell ⟨(W.heap.size + 1), 7, none⟩ (.slice h2.ak es.length h2.ck)).cell? ⟨b11, 6, none⟩ = some (.string zd) ∧ ((((((((w9.setCell ⟨(W.heap.size + 1), 0, none⟩ (.int .i64 ek)).setCell ⟨(W.heap.size + 1), 1, none⟩ (.int .i64 em)).setCell ⟨(W.heap.size + 1), 2, none⟩ (.int .i64 eu)).setCell ⟨(W.heap.size + 1), 3, none⟩ (.int .i64 eg)).setCell ⟨(W.heap.size + 1), 4, none⟩ (.bool eo)).setCell ⟨(W.heap.size + 1), 5, none⟩ (.slice h2.aa ea.length h2.ca)).setCell ⟨(W.heap.size + 1), 6, none⟩ (.string ed)).setCell ⟨(W.heap.size + 1), 7, none⟩ (.slice h2.ak es.length h2.ck)).cell? ⟨b11, 7, none⟩ = some (.slice h'.ak zs.length h'.ck)) ∧ NBw w9 (W.heap.size + 1) zN zH ∧ NBw (stB w9 (W.heap.size + 1) (.mk ek em eu eg eo ea ed es) h2) (W.heap.size + 1) (.mk ek em eu eg eo ea ed es) h2 ∧ Below W.heap.size W (stB w9 (W.heap.size + 1) (.mk ek em eu eg eo ea ed es) h2) ∧ NdV (offS (stB w9 (W.heap.size + 1) (.mk ek em eu eg eo ea ed es) h2).cell? S) (.mk ek em eu eg eo ea ed es) h2) := by
                intro w9 h2 b9' hn9
                have b9 : Below w8.heap.size w8 w9 := ((Below.refl _ w8).drew).trans b9'
                have T10 : w9.cell? ⟨ab, ao, none⟩ = some (.int .i64 k) ∧ w9.cell? ⟨ab, ao + 1, none⟩ = some (.int .i64 m) ∧ w9.cell? ⟨ab, ao + 2, none⟩ = some (.int .i64 u) ∧ w9.cell? ⟨ab, ao + 3, none⟩ = some (.int .i64 g) ∧ w9.cell? ⟨ab, ao + 4, none⟩ = some (.bool o) ∧ w9.cell? ⟨ab, ao + 5, none⟩ = some (.slice hv0.aa at_.length hv0.ca) ∧ w9.cell? ⟨ab, ao + 6, none⟩ = some (.string d) ∧ w9.cell? ⟨ab, ao + 7, none⟩ = some (.slice hv0.ak ks.length hv0.ck) ∧ w9.cell? ⟨b11, 0, none⟩ = some (.int .i64 zk) ∧ w9.cell? ⟨b11, 1, none⟩ = some (.int .i64 zm) ∧ w9.cell? ⟨b11, 2, none⟩ = some (.int .i64 zu) ∧ w9.cell? ⟨b11, 3, none⟩ = some (.int .i64 zg) ∧ w9.cell? ⟨b11, 4, none⟩ = some (.bool zo) ∧ w9.cell? ⟨b11, 5, none⟩ = some (.slice h'.aa za.length h'.ca) ∧ w9.cell? ⟨b11, 6, none⟩ = some (.string zd) ∧ w9.cell? ⟨b11, 7, none⟩ = some (.slice h'.ak zs.length h'.ck) := ⟨mle_below b9 _ _ T4.1, mle_below b9 _ _ T4.2.1, mle_below b9 _ _ T4.2.2.1, mle_below b9 _ _ T4.2.2.2.1, mle_below b9 _ _ T4.2.2.2.2.1, mle_below b9 _ _ T4.2.2.2.2.2.1, mle_below b9 _ _ T4.2.2.2.2.2.2.1, mle_below b9 _ _ T4.2.2.2.2.2.2.2.1, mle_below b9 _ _ T4.2.2.2.2.2.2.2.2.1, mle_below b9 _ _ T4.2.2.2.2.2.2.2.2.2.1, mle_below b9 _ _ T4.2.2.2.2.2.2.2.2.2.2.1, mle_below b9 _ _ T4.2.2.2.2.2.2.2.2.2.2.2.1, mle_below b9 _ _ T4.2.2.2.2.2.2.2.2.2.2.2.2.1, mle_below b9 _ _ T4.2.2.2.2.2.2.2.2.2.2.2.2.2.1, mle_below b9 _ _ T4.2.2.2.2.2.2.2.2.2.2.2.2.2.2.1, mle_below b9 _ _ T4.2.2.2.2.2.2.2.2.2.2.2.2.2.2.2⟩
                have RB9 := RB8.below b9
                have hB9 := hB8.trans (b9.mono hB8.size)
                have bY : But (W.heap.size + 1) w9 (stB w9 (W.heap.size + 1) (.mk ek em eu eg eo ea ed es) h2) := stB_but
                exact ⟨T10, ⟨(set8_cell hne1 _ _ _ _ _ _ _ _).trans T10.1, (set8_cell hne1 _ _ _ _ _ _ _ _).trans T10.2.1, (set8_cell hne1 _ _ _ _ _ _ _ _).trans T10.2.2.1, (set8_cell hne1 _ _ _ _ _ _ _ _).trans T10.2.2.2.1, (set8_cell hne1 _ _ _ _ _ _ _ _).trans T10.2.2.2.2.1, (set8_cell hne1 _ _ _ _ _ _ _ _).trans T10.2.2.2.2.2.1, (set8_cell hne1 _ _ _ _ _ _ _ _).trans T10.2.2.2.2.2.2.1, (set8_cell hne1 _ _ _ _ _ _ _ _).trans T10.2.2.2.2.2.2.2.1, (set8_cell hne2 _ _ _ _ _ _ _ _).trans T10.2.2.2.2.2.2.2.2.1, (set8_cell hne2 _ _ _ _ _ _ _ _).trans T10.2.2.2.2.2.2.2.2.2.1, (set8_cell hne2 _ _ _ _ _ _ _ _).trans T10.2.2.2.2.2.2.2.2.2.2.1, (set8_cell hne2 _ _ _ _ _ _ _ _).trans T10.2.2.2.2.2.2.2.2.2.2.2.1, (set8_cell hne2 _ _ _ _ _ _ _ _).trans T10.2.2.2.2.2.2.2.2.2.2.2.2.1, (set8_cell hne2 _ _ _ _ _ _ _ _).trans T10.2.2.2.2.2.2.2.2.2.2.2.2.2.1, (set8_cell hne2 _ _ _ _ _ _ _ _).trans T10.2.2.2.2.2.2.2.2.2.2.2.2.2.2.1, (set8_cell hne2 _ _ _ _ _ _ _ _).trans T10.2.2.2.2.2.2.2.2.2.2.2.2.2.2.2⟩, RB9, RB9.store (.mk ek em eu eg eo ea ed es) h2, hB9.trans (bY.below (by omega) hB9.size), hn9.on (mle_step fun q hq hs => by
                  simp at hs
                  exact ⟨hs.2, bY.block q hq hs.1.2⟩)⟩
              clear T4 hua8 YB8
              go_upto_region 12 with fail
              go_region_held3 (fun w' => w'.cell? ⟨ab, ao, none⟩ = some (.int .i64 k) ∧ w'.cell? ⟨ab, ao + 1, none⟩ = some (.int .i64 m) ∧ w'.cell? ⟨ab, ao + 2, none⟩ = some (.int .i64 u) ∧ w'.cell? ⟨ab, ao + 3, none⟩ = some (.int .i64 g) ∧ w'.cell? ⟨ab, ao + 4, none⟩ = some (.bool o) ∧ w'.cell? ⟨ab, ao + 5, none⟩ = some (.slice hv0.aa at_.length hv0.ca) ∧ w'.cell? ⟨ab, ao + 6, none⟩ = some (.string d) ∧ w'.cell? ⟨ab, ao + 7, none⟩ = some (.slice hv0.ak ks.length hv0.ck) ∧ w'.cell? ⟨b11, 0, none⟩ = some (.int .i64 zk) ∧ w'.cell? ⟨b11, 1, none⟩ = some (.int .i64 zm) ∧ w'.cell? ⟨b11, 2, none⟩ = some (.int .i64 zu) ∧ w'.cell? ⟨b11, 3, none⟩ = some (.int .i64 zg) ∧ w'.cell? ⟨b11, 4, none⟩ = some (.bool zo) ∧ w'.cell? ⟨b11, 5, none⟩ = some (.slice h'.aa za.length h'.ca) ∧ w'.cell? ⟨b11, 6, none⟩ = some (.string zd) ∧ w'.cell? ⟨b11, 7, none⟩ = some (.slice h'.ak zs.length h'.ck)) (first | with_reducible exact T5 | with_reducible exact T10 | with_reducible exact T12) (first | (go_at_call 16; (with_reducible refine Calls.mono HPT.out ?_); rintro e w9 ⟨⟨h2, rfl, hn9⟩, b9⟩; obtain ⟨T10, T12, RB9, R9, hB9, hn10⟩ := HK9.out w9 h2 b9 hn9; obtain ⟨⟨z0, z1, z2, z3, z4, z5, z6, z7⟩, z8⟩ := id RB9))
              have HN9 : Hid _ := hn10
              clear T5 T10 T12 HPT HK9 hn9 b9 hn10 RB9 z0 z1 z2 z3 z4 z5 z6 z7 z8
              go_wp2
              obtain ⟨W9, HW9⟩ : ∃ W9, Hid (stB w9 (W.heap.size + 1) (.mk ek em eu eg eo ea ed es) h2 = W9) := ⟨_, rfl⟩
              rw [HW9.out] at R9 hB9 HN9
              have hw9 := HW9.out
              simp only [stB] at hw9
              rw [hw9]
              obtain ⟨r0, r1, r2, r3, r4, r5, r6, r7⟩ := R9.1
              refine bodyPost_ret (v := .tuple #[ndV (.mk ek em eu eg eo ea ed es) h2, EV2]) (by simp [results, Tryz.results6, go_sem, ndV, r0, r1, r2, r3, r4, r5, r6, r7]) rfl ?_
              rw [HUPK.out, HR2.out]
              refine ⟨⟨h2, by rw [HXN.out, HEV2.out], ?_⟩, hB9⟩
              rw [HXN.out]
              exact HN9.out
          · have HNZ : Hid (NdV (offS (stB w5 w2.heap.size (.mk zk zm zu zg zo za zd zs) h').cell? (fun k => k == W.heap.size || k == W.heap.size + 1 || S k)) (.mk zk zm zu zg zo za zd zs) h') := hn8
            have hlt8 : W.heap.size + 1 < w2.heap.size := HSZP.out
            clear T5 T5a T10 T12 HC1 HC2 HK1 HK2 hn5 b5 hn8 z0 z1 z2 z3 z4 z5 z6 z7 z8 hmU RB2 hB02 c02 c12 hB2
            have hB8 : Below W.heap.size W ((((((((w5.setCell ⟨w2.heap.size, 0, none⟩ (.int .i64 zk)).setCell ⟨w2.heap.size, 1, none⟩ (.int .i64 zm)).setCell ⟨w2.heap.size, 2, none⟩ (.int .i64 zu)).setCell ⟨w2.heap.size, 3, none⟩ (.int .i64 zg)).setCell ⟨w2.heap.size, 4, none⟩ (.bool zo)).setCell ⟨w2.heap.size, 5, none⟩ (.slice h'.aa za.length h'.ca)).setCell ⟨w2.heap.size, 6, none⟩ (.string zd)).setCell ⟨w2.heap.size, 7, none⟩ (.slice h'.ak zs.length h'.ck)) := hB8
            have RB8 : NBw ((((((((w5.setCell ⟨w2.heap.size, 0, none⟩ (.int .i64 zk)).setCell ⟨w2.heap.size, 1, none⟩ (.int .i64 zm)).setCell ⟨w2.heap.size, 2, none⟩ (.int .i64 zu)).setCell ⟨w2.heap.size, 3, none⟩ (.int .i64 zg)).setCell ⟨w2.heap.size, 4, none⟩ (.bool zo)).setCell ⟨w2.heap.size, 5, none⟩ (.slice h'.aa za.length h'.ca)).setCell ⟨w2.heap.size, 6, none⟩ (.string zd)).setCell ⟨w2.heap.size, 7, none⟩ (.slice h'.ak zs.length h'.ck)) (W.heap.size + 1) zN zH := RB8
            have YB8 : NBw ((((((((w5.setCell ⟨w2.heap.size, 0, none⟩ (.int .i64 zk)).setCell ⟨w2.heap.size, 1, none⟩ (.int .i64 zm)).setCell ⟨w2.heap.size, 2, none⟩ (.int .i64 zu)).setCell ⟨w2.heap.size, 3, none⟩ (.int .i64 zg)).setCell ⟨w2.heap.size, 4, none⟩ (.bool zo)).setCell ⟨w2.heap.size, 5, none⟩ (.slice h'.aa za.length h'.ca)).setCell ⟨w2.heap.size, 6, none⟩ (.string zd)).setCell ⟨w2.heap.size, 7, none⟩ (.slice h'.ak zs.length h'.ck)) w2.heap.size (.mk zk zm zu zg zo za zd zs) h' := YB8
            have HNZ : Hid (NdV (offS ((((((((w5.setCell ⟨w2.heap.size, 0, none⟩ (.int .i64 zk)).setCell ⟨w2.heap.size, 1, none⟩ (.int .i64 zm)).setCell ⟨w2.heap.size, 2, none⟩ (.int .i64 zu)).setCell ⟨w2.heap.size, 3, none⟩ (.int .i64 zg)).setCell ⟨w2.heap.size, 4, none⟩ (.bool zo)).setCell ⟨w2.heap.size, 5, none⟩ (.slice h'.aa za.length h'.ca)).setCell ⟨w2.heap.size, 6, none⟩ (.string zd)).setCell ⟨w2.heap.size, 7, none⟩ (.slice h'.ak zs.length h'.ck)).cell? (fun k => k == W.heap.size || k == W.heap.size + 1 || S k)) (.mk zk zm zu zg zo za zd zs) h') := HNZ
            generalize ((((((((w5.setCell ⟨w2.heap.size, 0, none⟩ (.int .i64 zk)).setCell ⟨w2.heap.size, 1, none⟩ (.int .i64 zm)).setCell ⟨w2.heap.size, 2, none⟩ (.int .i64 zu)).setCell ⟨w2.heap.size, 3, none⟩ (.int .i64 zg)).setCell ⟨w2.heap.size, 4, none⟩ (.bool zo)).setCell ⟨w2.heap.size, 5, none⟩ (.slice h'.aa za.length h'.ca)).setCell ⟨w2.heap.size, 6, none⟩ (.string zd)).setCell ⟨w2.heap.size, 7, none⟩ (.slice h'.ak zs.length h'.ck)) = w8 at HNZ YB8 hB8 RB8 ⊢
            have hsz2' := hsz2
            clear hsz2 hsz2' HSZP
            generalize w2.heap.size = b11 at YB8 hlt8 ⊢
            have hmU8 : MLe (offS W.cell? S) (offS w8.cell? (fun k => k == W.heap.size || k == W.heap.size + 1 || S k)) := mle_step fun k hk hs => ⟨by simp [hs]; omega, hB8.block k hk⟩
            cases BR with
            | error f =>
              have hEV : EV = .iface 44 (.int .i64 f) := HEV.out.symm
              subst hEV
              have HEE : Hid (UpR us gs xs names U = .error f) := HUPN.out
              have HF0 : Hid (f ≠ 0) := brF_pos HBR.out
              clear HUPN HBR HZN HEV HCH HNZ YB8 hmU8 HUA HUN HH
              have R3 := NBw.store RB8 zN zH
              have hB3 : Below W.heap.size W (stB w8 (W.heap.size + 1) zN zH) := hB8.trans (stB_but.below (by omega) hB8.size)
              have z0 := RB8.2 0
              have z1 := RB8.2 1
              have z2 := RB8.2 2
              have z3 := RB8.2 3
              have z4 := RB8.2 4
              have z5 := RB8.2 5
              have z6 := RB8.2 6
              have z7 := RB8.2 7
              obtain ⟨f0, f1, f2, f3, f4, f5, f6, f7⟩ := RB8.1
              go_wp2
              obtain ⟨W6, HW6⟩ : ∃ W6, Hid (stB w8 (W.heap.size + 1) zN zH = W6) := ⟨_, rfl⟩
              rw [HW6.out] at R3 hB3
              have hw6 := HW6.out
              simp only [stB, zN, zH] at hw6
              simp only [List.length_nil] at hw6
              rw [hw6]
              obtain ⟨r0, r1, r2, r3, r4, r5, r6, r7⟩ := R3.1
              refine bodyPost_ret (v := .tuple #[ndV zN zH, .iface 44 (.int .i64 f)]) (by simp [results, Tryz.results6, go_sem, ndV, zN, zH, r0, r1, r2, r3, r4, r5, r6, r7]) rfl (ndE_err HEE.out HF0.out hB3)
            | ok Lc =>
              have hEV : EV = .nilIface := HEV.out.symm
              subst hEV
              have HZC : Hid (chainF Lc = (.mk zk zm zu zg zo za zd zs)) := HZN.out
              obtain ⟨hca, hcc⟩ := HCH.out Lc rfl
              rw [HZC.out] at hca hcc
              have HUPK : Hid (UpR us gs xs names U = chgF (some (.mk zk zm zu zg zo za zd zs)) (names.take (k1 + 1)) U) := by rw [HUPN.out, ← HZC.out]; rfl
              obtain ⟨R2, HR2⟩ : ∃ R2, Hid (chgF (some (.mk zk zm zu zg zo za zd zs)) (names.take (k1 + 1)) U = R2) := ⟨_, rfl⟩
              obtain ⟨X, HXN⟩ : ∃ X, Hid (xNd R2 = X) := ⟨_, rfl⟩
              obtain ⟨EV2, HEV2⟩ : ∃ E, Hid (errV (xErr R2) = E) := ⟨_, rfl⟩
              obtain ⟨ek, em, eu, eg, eo, ea, ed, es⟩ := X
              have hsz8 : W.heap.size + 1 + 1 ≤ w8.heap.size := by have := RB8.1.lt; omega
              have hua8 := (HUA.out.on hmU8).on (offS_le _ _)
              have habW : ab < W.heap.size := World.block_lt_of_cell? _ _ (offS_le _ _ _ _ ((nat_iff.1 HUA.out) 0 _ (ndL_0 U hv0)))
              have HPT : Hid (Calls Tryz.prog 16 #[ndV U hv0, .slice (some ⟨sb, so, none⟩) (k1 + 1) capn, .agg #[.int .i64 zk, .int .i64 zm, .int .i64 zu, .int .i64 zg, .bool zo, .slice h'.aa za.length h'.ca, .string zd, .slice h'.ak zs.length h'.ck]] w8.drew (fun e W' => (∃ h2, e = .returned (.tuple #[.agg #[.int .i64 ek, .int .i64 em, .int .i64 eu, .int .i64 eg, .bool eo, .slice h2.aa ea.length h2.ca, .string ed, .slice h2.ak es.length h2.ck], EV2]) ∧ NdV (offS W'.cell? (fun k => k == W.heap.size || k == W.heap.size + 1 || S k)) (.mk ek em eu eg eo ea ed es) h2) ∧ Below w8.drew.heap.size w8.drew W')) := by
                have e := tputS_any (W := w8.drew) (S := (fun k => k == W.heap.size || k == W.heap.size + 1 || S k)) (x0 := U) (h := hv0) (S1_low hS0 (w' := w8.drew) hsz8) (HUN.out.on hmU8) (some ⟨sb, so, none⟩) capn (names.take (k1 + 1)) ((Strs.take (.inr ⟨sb, so, rfl, hsa⟩) _).on (hmU8.trans (offS_le _ _))) (by rw [List.length_take, HN.out]; omega) (by rw [List.length_take, HN.out]; omega) (by omega) (.mk zk zm zu zg zo za zd zs) h' HNZ.out (fun r hr => by
                  have c := chg_cnt hr
                  have c2 : cntO (some (.mk zk zm zu zg zo za zd zs)) = cnt (.mk zk zm zu zg zo za zd zs) := rfl
                  have c3 : cnt r ≤ 1000 := by omega
                  exact ⟨lim_at r (chg_at1 hr (fun y e => by cases e; exact hca) HAU.out) c3, c3⟩)
                rw [show (names.take (k1 + 1)).length = k1 + 1 by rw [List.length_take, HN.out]; omega, HR2.out] at e
                unfold NdE at e
                rw [HXN.out, HEV2.out] at e
                exact e
              clear HUPN HBR HZN HEV HCH HNZ hmU8 HUN HH HUA HZC hca hcc HAU
              obtain ⟨k, m, u, g, o, at_, d, ks⟩ := U
              have HPT : Hid (Calls Tryz.prog 16 #[.agg #[.int .i64 k, .int .i64 m, .int .i64 u, .int .i64 g, .bool o, .slice hv0.aa at_.length hv0.ca, .string d, .slice hv0.ak ks.length hv0.ck], .slice (some ⟨sb, so, none⟩) (k1 + 1) capn, .agg #[.int .i64 zk, .int .i64 zm, .int .i64 zu, .int .i64 zg, .bool zo, .slice h'.aa za.length h'.ca, .string zd, .slice h'.ak zs.length h'.ck]] w8.drew (fun e W' => (∃ h2, e = .returned (.tuple #[.agg #[.int .i64 ek, .int .i64 em, .int .i64 eu, .int .i64 eg, .bool eo, .slice h2.aa ea.length h2.ca, .string ed, .slice h2.ak es.length h2.ck], EV2]) ∧ NdV (offS W'.cell? (fun k => k == W.heap.size || k == W.heap.size + 1 || S k)) (.mk ek em eu eg eo ea ed es) h2) ∧ Below w8.drew.heap.size w8.drew W')) := HPT
              have g10 : (k1 : Int) + 1 ≤ (capn : Int) := by omega
              have hxl2 : 0 < xs.length := HXL.out
              have hxl : (0 : Int) < (xs.length : Int) := by omega
              have T4 : w8.cell? ⟨ab, ao, none⟩ = some (.int .i64 k) ∧ w8.cell? ⟨ab, ao + 1, none⟩ = some (.int .i64 m) ∧ w8.cell? ⟨ab, ao + 2, none⟩ = some (.int .i64 u) ∧ w8.cell? ⟨ab, ao + 3, none⟩ = some (.int .i64 g) ∧ w8.cell? ⟨ab, ao + 4, none⟩ = some (.bool o) ∧ w8.cell? ⟨ab, ao + 5, none⟩ = some (.slice hv0.aa at_.length hv0.ca) ∧ w8.cell? ⟨ab, ao + 6, none⟩ = some (.string d) ∧ w8.cell? ⟨ab, ao + 7, none⟩ = some (.slice hv0.ak ks.length hv0.ck) ∧ w8.cell? ⟨b11, 0, none⟩ = some (.int .i64 zk) ∧ w8.cell? ⟨b11, 1, none⟩ = some (.int .i64 zm) ∧ w8.cell? ⟨b11, 2, none⟩ = some (.int .i64 zu) ∧ w8.cell? ⟨b11, 3, none⟩ = some (.int .i64 zg) ∧ w8.cell? ⟨b11, 4, none⟩ = some (.bool zo) ∧ w8.cell? ⟨b11, 5, none⟩ = some (.slice h'.aa za.length h'.ca) ∧ w8.cell? ⟨b11, 6, none⟩ = some (.string zd) ∧ w8.cell? ⟨b11, 7, none⟩ = some (.slice h'.ak zs.length h'.ck) := by
                obtain ⟨e0, e1, e2, e3, e4, e5, e6, e7⟩ := hua8
                obtain ⟨d0, d1, d2, d3, d4, d5, d6, d7⟩ := YB8.1
                exact ⟨e0, e1, e2, e3, e4, e5, e6, e7, d0, d1, d2, d3, d4, d5, d6, d7⟩
              have hne1 : ab ≠ (W.heap.size + 1) := by omega
              have hne2 : b11 ≠ (W.heap.size + 1) := by omega
              have T5 : w8.drew.cell? ⟨ab, ao, none⟩ = some (.int .i64 k) ∧ w8.drew.cell? ⟨ab, ao + 1, none⟩ = some (.int .i64 m) ∧ w8.drew.cell? ⟨ab, ao + 2, none⟩ = some (.int .i64 u) ∧ w8.drew.cell? ⟨ab, ao + 3, none⟩ = some (.int .i64 g) ∧ w8.drew.cell? ⟨ab, ao + 4, none⟩ = some (.bool o) ∧ w8.drew.cell? ⟨ab, ao + 5, none⟩ = some (.slice hv0.aa at_.length hv0.ca) ∧ w8.drew.cell? ⟨ab, ao + 6, none⟩ = some (.string d) ∧ w8.drew.cell? ⟨ab, ao + 7, none⟩ = some (.slice hv0.ak ks.length hv0.ck) ∧ w8.drew.cell? ⟨b11, 0, none⟩ = some (.int .i64 zk) ∧ w8.drew.cell? ⟨b11, 1, none⟩ = some (.int .i64 zm) ∧ w8.drew.cell? ⟨b11, 2, none⟩ = some (.int .i64 zu) ∧ w8.drew.cell? ⟨b11, 3, none⟩ = some (.int .i64 zg) ∧ w8.drew.cell? ⟨b11, 4, none⟩ = some (.bool zo) ∧ w8.drew.cell? ⟨b11, 5, none⟩ = some (.slice h'.aa za.length h'.ca) ∧ w8.drew.cell? ⟨b11, 6, none⟩ = some (.string zd) ∧ w8.drew.cell? ⟨b11, 7, none⟩ = some (.slice h'.ak zs.length h'.ck) := T4
              have HK9 : Hid (∀ (w9 : World) (h2 : Hd), Below w8.drew.heap.size w8.drew w9 → NdV (offS w9.cell? (fun k => k == W.heap.size || k == W.heap.size + 1 || S k)) (.mk ek em eu eg eo ea ed es) h2 → (w9.cell? ⟨ab, ao, none⟩ = some (.int .i64 k) ∧ w9.cell? ⟨ab, ao + 1, none⟩ = some (.int .i64 m) ∧ w9.cell? ⟨ab, ao + 2, none⟩ = some (.int .i64 u) ∧ w9.cell? ⟨ab, ao + 3, none⟩ = some (.int .i64 g) ∧ w9.cell? ⟨ab, ao + 4, none⟩ = some (.bool o) ∧ w9.cell? ⟨ab, ao + 5, none⟩ = some (.slice hv0.aa at_.length hv0.ca) ∧ w9.cell? ⟨ab, ao + 6, none⟩ = some (.string d) ∧ w9.cell? ⟨ab, ao + 7, none⟩ = some (.slice hv0.ak ks.length hv0.ck) ∧ w9.cell? ⟨b11, 0, none⟩ = some (.int .i64 zk) ∧ w9.cell? ⟨b11, 1, none⟩ = some (.int .i64 zm) ∧ w9.cell? ⟨b11, 2, none⟩ = some (.int .i64 zu) ∧ w9.cell? ⟨b11, 3, none⟩ = some (.int .i64 zg) ∧ w9.cell? ⟨b11, 4, none⟩ = some (.bool zo) ∧ w9.cell? ⟨b11, 5, none⟩ = some (.slice h'.aa za.length h'.ca) ∧ w9.cell? ⟨b11, 6, none⟩ = some (.string zd) ∧ w9.cell? ⟨b11, 7, none⟩ = some (.slice h'.ak zs.length h'.ck)) ∧ (((((((((w9.setCell ⟨(W.heap.size + 1), 0, none⟩ (.int .i64 ek)).setCell ⟨(W.heap.size + 1), 1, none⟩ (.int .i64 em)).setCell ⟨(W.heap.size + 1), 2, none⟩ (.int .i64 eu)).setCell ⟨(W.heap.size + 1), 3, none⟩ (.int .i64 eg)).setCell ⟨(W.heap.size + 1), 4, none⟩ (.bool eo)).setCell ⟨(W.heap.size + 1), 5, none⟩ (.slice h2.aa ea.length h2.ca)).setCell ⟨(W.heap.size + 1), 6, none⟩ (.string ed)).setCell ⟨(W.heap.size + 1), 7, none⟩ (.slice h2.ak es.length h2.ck)).cell? ⟨ab, ao, none⟩ = some (.int .i64 k) ∧ ((((((((w9.setCell ⟨(W.heap.size + 1), 0, none⟩ (.int .i64 ek)).setCell ⟨(W.heap.size + 1), 1, none⟩ (.int .i64 em)).setCell ⟨(W.heap.size + 1), 2, none⟩ (.int .i64 eu)).setCell ⟨(W.heap.size + 1), 3, none⟩ (.int .i64 eg)).setCell ⟨(W.heap.size + 1), 4, none⟩ (.bool eo)).setCell ⟨(W.heap.size + 1), 5, none⟩ (.slice h2.aa ea.length h2.ca)).setCell ⟨(W.heap.size + 1), 6, none⟩ (.string ed)).setCell ⟨(W.heap.size + 1), 7, none⟩ (.slice h2.ak es.length h2.ck)).cell? ⟨ab, ao + 1, none⟩ = some (.int .i64 m) ∧ ((((((((w9.setCell ⟨(W.heap.size + 1), 0, none⟩ (.int .i64 ek)).setCell ⟨(W.heap.size + 1), 1, none⟩ (.int .i64 em)).setCell ⟨(W.heap.size + 1), 2, none⟩ (.int .i64 eu)).setCell ⟨(W.heap.size + 1), 3, none⟩ (.int .i64 eg)).setCell ⟨(W.heap.size + 1), 4, none⟩ (.bool eo)).setCell ⟨(W.heap.size + 1), 5, none⟩ (.slice h2.aa ea.length h2.ca)).setCell ⟨(W.heap.size + 1), 6, none⟩ (.string ed)).setCell ⟨(W.heap.size + 1), 7, none⟩ (.slice h2.ak es.length h2.ck)).cell? ⟨ab, ao + 2, none⟩ = some (.int .i64 u) ∧ ((((((((w9.setCell ⟨(W.heap.size + 1), 0, none⟩ (.int .i64 ek)).setCell ⟨(W.heap.size + 1), 1, none⟩ (.int .i64 em)).setCell ⟨(W.heap.size + 1), 2, none⟩ (.int .i64 eu)).setCell ⟨(W.heap.size + 1), 3, none⟩ (.int .i64 eg)).setCell ⟨(W.heap.size + 1), 4, none⟩ (.bool eo)).setCell ⟨(W.heap.size + 1), 5, none⟩ (.slice h2.aa ea.length h2.ca)).setCell ⟨(W.heap.size + 1), 6, none⟩ (.string ed)).setCell ⟨(W.heap.size + 1), 7, none⟩ (.slice h2.ak es.length h2.ck)).cell? ⟨ab, ao + 3, none⟩ = some (.int .i64 g) ∧ ((((((((w9.setCell ⟨(W.heap.size + 1), 0, none⟩ (.int .i64 ek)).setCell ⟨(W.heap.size + 1), 1, none⟩ (.int .i64 em)).setCell ⟨(W.heap.size + 1), 2, none⟩ (.int .i64 eu)).setCell ⟨(W.heap.size + 1), 3, none⟩ (.int .i64 eg)).setCell ⟨(W.heap.size + 1), 4, none⟩ (.bool eo)).setCell ⟨(W.heap.size + 1), 5, none⟩ (.slice h2.aa ea.length h2.ca)).setCell ⟨(W.heap.size + 1), 6, none⟩ (.string ed)).setCell ⟨(W.heap.size + 1), 7, none⟩ (.slice h2.ak es.length h2.ck)).cell? ⟨ab, ao + 4, none⟩ = some (.bool o) ∧ ((((((((w9.setCell ⟨(W.heap.size + 1), 0, none⟩ (.int .i64 ek)).setCell ⟨(W.heap.size + 1), 1, none⟩ (.int .i64 em)).setCell ⟨(W.heap.size + 1), 2, none⟩ (.int .i64 eu)).setCell ⟨(W.heap.size + 1), 3, none⟩ (.int .i64 eg)).setCell ⟨(W.heap.size + 1), 4, none⟩ (.bool eo)).setCell ⟨(W.heap.size + 1), 5, none⟩ (.slice h2.aa ea.length h2.ca)).setCell ⟨(W.heap.size + 1), 6, none⟩ (.string ed)).setCell ⟨(W.heap.size + 1), 7, none⟩ (.slice h2.ak es.length h2.ck)).cell? ⟨ab, ao + 5, none⟩ = some (.slice hv0.aa at_.length hv0.ca) ∧ ((((((((w9.setCell ⟨(W.heap.size + 1), 0, none⟩ (.int .i64 ek)).setCell ⟨(W.heap.size + 1), 1, none⟩ (.int .i64 em)).setCell ⟨(W.heap.size + 1), 2, none⟩ (.int .i64 eu)).setCell ⟨(W.heap.size + 1), 3, none⟩ (.int .i64 eg)).setCell ⟨(W.heap.size + 1), 4, none⟩ (.bool eo)).setCell ⟨(W.heap.size + 1), 5, none⟩ (.slice h2.aa ea.length h2.ca)).setCell ⟨(W.heap.size + 1), 6, none⟩ (.string ed)).setCell ⟨(W.heap.size + 1), 7, none⟩ (.slice h2.ak es.length h2.ck)).cell? ⟨ab, ao + 6, none⟩ = some (.string d) ∧ ((((((((w9.setCell ⟨(W.heap.size + 1), 0, none⟩ (.int .i64 ek)).setCell ⟨(W.heap.size + 1), 1, none⟩ (.int .i64 em)).setCell ⟨(W.heap.size + 1), 2, none⟩ (.int .i64 eu)).setCell ⟨(W.heap.size + 1), 3, none⟩ (.int .i64 eg)).setCell ⟨(W.heap.size + 1), 4, none⟩ (.bool eo)).setCell ⟨(W.heap.size + 1), 5, none⟩ (.slice h2.aa ea.length h2.ca)).setCell ⟨(W.heap.size + 1), 6, none⟩ (.string ed)).setCell ⟨(W.heap.size + 1), 7, none⟩ (.slice h2.ak es.length h2.ck)).cell? ⟨ab, ao + 7, none⟩ = some (.slice hv0.ak ks.length hv0.ck) ∧ ((((((((w9.setCell ⟨(W.heap.size + 1), 0, none⟩ (.int .i64 ek)).setCell ⟨(W.heap.size + 1), 1, none⟩ (.int .i64 em)).setCell ⟨(W.heap.size + 1), 2, none⟩ (.int .i64 eu)).setCell ⟨(W.heap.size + 1), 3, none⟩ (.int .i64 eg)).setCell ⟨(W.heap.size + 1), 4, none⟩ (.bool eo)).setCell ⟨(W.heap.size + 1), 5, none⟩ (.slice h2.aa ea.length h2.ca)).setCell ⟨(W.heap.size + 1), 6, none⟩ (.string ed)).setCell ⟨(W.heap.size + 1), 7, none⟩ (.slice h2.ak es.length h2.ck)).cell? ⟨b11, 0, none⟩ = some (.int .i64 zk) ∧ ((((((((w9.setCell ⟨(W.heap.size + 1), 0, none⟩ (.int .i64 ek)).setCell ⟨(W.heap.size + 1), 1, none⟩ (.int .i64 em)).setCell ⟨(W.heap.size + 1), 2, none⟩ (.int .i64 eu)).setCell ⟨(W.heap.size + 1), 3, none⟩ (.int .i64 eg)).setCell ⟨(W.heap.size + 1), 4, none⟩ (.bool eo)).setCell ⟨(W.heap.size + 1), 5, none⟩ (.slice h2.aa ea.length h2.ca)).setCell ⟨(W.heap.size + 1), 6, none⟩ (.string ed)).setCell ⟨(W.heap.size + 1), 7, none⟩ (.slice h2.ak es.length h2.ck)).cell? ⟨b11, 1, none⟩ = some (.int .i64 zm) ∧ ((((((((w9.setCell ⟨(W.heap.size + 1), 0, none⟩ (.int .i64 ek)).setCell ⟨(W.heap.size + 1), 1, none⟩ (.int .i64 em)).setCell ⟨(W.heap.size + 1), 2, none⟩ (.int .i64 eu)).setCell ⟨(W.heap.size + 1), 3, none⟩ (.int .i64 eg)).setCell ⟨(W.heap.size + 1), 4, none⟩ (.bool eo)).setCell ⟨(W.heap.size + 1), 5, none⟩ (.slice h2.aa ea.length h2.ca)).setCell ⟨(W.heap.size + 1), 6, none⟩ (.string ed)).setCell ⟨(W.heap.size + 1), 7, none⟩ (.slice h2.ak es.length h2.ck)).cell? ⟨b11, 2, none⟩ = some (.int .i64 zu) ∧ ((((((((w9.setCell ⟨(W.heap.size + 1), 0, none⟩ (.int .i64 ek)).setCell ⟨(W.heap.size + 1), 1, none⟩ (.int .i64 em)).setCell ⟨(W.heap.size + 1), 2, none⟩ (.int .i64 eu)).setCell ⟨(W.heap.size + 1), 3, none⟩ (.int .i64 eg)).setCell ⟨(W.heap.size + 1), 4, none⟩ (.bool eo)).setCell ⟨(W.heap.size + 1), 5, none⟩ (.slice h2.aa ea.length h2.ca)).setCell ⟨(W.heap.size + 1), 6, none⟩ (.string ed)).setCell ⟨(W.heap.size + 1), 7, none⟩ (.slice h2.ak es.length h2.ck)).cell? ⟨b11, 3, none⟩ = some (.int .i64 zg) ∧ ((((((((w9.setCell ⟨(W.heap.size + 1), 0, none⟩ (.int .i64 ek)).setCell ⟨(W.heap.size + 1), 1, none⟩ (.int .i64 em)).setCell ⟨(W.heap.size + 1), 2, none⟩ (.int .i64 eu)).setCell ⟨(W.heap.size + 1), 3, none⟩ (.int .i64 eg)).setCell ⟨(W.heap.size + 1), 4, none⟩ (.bool eo)).setCell ⟨(W.heap.size + 1), 5, none⟩ (.slice h2.aa ea.length h2.ca)).setCell ⟨(W.heap.size + 1), 6, none⟩ (.string ed)).setCell ⟨(W.heap.size + 1), 7, none⟩ (.slice h2.ak es.length h2.ck)).cell? ⟨b11, 4, none⟩ = some (.bool zo) ∧ ((((((((w9.setCell ⟨(W.heap.size + 1), 0, none⟩ (.int .i64 ek)).setCell ⟨(W.heap.size + 1), 1, none⟩ (.int .i64 em)).setCell ⟨(W.heap.size + 1), 2, none⟩ (.int .i64 eu)).setCell ⟨(W.heap.size + 1), 3, none⟩ (.int .i64 eg)).setCell ⟨(W.heap.size + 1), 4, none⟩ (.bool eo)).setCell ⟨(W.heap.size + 1), 5, none⟩ (.slice h2.aa ea.length h2.ca)).setCell ⟨(W.heap.size + 1), 6, none⟩ (.string ed)).setCell ⟨(W.heap.size + 1), 7, none⟩ (.slice h2.ak es.length h2.ck)).cell? ⟨b11, 5, none⟩ = some (.slice h'.aa za.length h'.ca) ∧ ((((((((w9.setCell ⟨(W.heap.size + 1), 0, none⟩ (.int .i64 ek)).setCell ⟨(W.heap.size + 1), 1, none⟩ (.int .i64 em)).setCell ⟨(W.heap.size + 1), 2, none⟩ (.int .i64 eu)).setCell ⟨(W.heap.size + 1), 3, none⟩ (.int .i64 eg)).setCell ⟨(W.heap.size + 1), 4, none⟩ (.bool eo)).setCell ⟨(W.heap.size + 1), 5, none⟩ (.slice h2.aa ea.length h2.ca)).setCell ⟨(W.heap.size + 1), 6, none⟩ (.string ed)).setCell ⟨(W.heap.size + 1), 7, none⟩ (.slice h2.ak es.length h2.ck)).cell? ⟨b11, 6, none⟩ = some (.string zd) ∧ ((((((((w9.setCell ⟨(W.heap.size + 1), 0, none⟩ (.int .i64 ek)).setCell ⟨(W.heap.size + 1), 1, none⟩ (.int .i64 em)).setCell ⟨(W.heap.size + 1), 2, none⟩ (.int .i64 eu)).setCell ⟨(W.heap.size + 1), 3, none⟩ (.int .i64 eg)).setCell ⟨(W.heap.size + 1), 4, none⟩ (.bool eo)).setCell ⟨(W.heap.size + 1), 5, none⟩ (.slice h2.aa ea.length h2.ca)).setCell ⟨(W.heap.size + 1), 6, none⟩ (.string ed)).setCell ⟨(W.heap.size + 1), 7, none⟩ (.slice h2.ak es.length h2.ck)).cell? ⟨b11, 7, none⟩ = some (.slice h'.ak zs.length h'.ck)) ∧ NBw w9 (W.heap.size + 1) zN zH ∧ NBw (stB w9 (W.heap.size + 1) (.mk ek em eu eg eo ea ed es) h2) (W.heap.size + 1) (.mk ek em eu eg eo ea ed es) h2 ∧ Below W.heap.size W (stB w9 (W.heap.size + 1) (.mk ek em eu eg eo ea ed es) h2) ∧ NdV (offS (stB w9 (W.heap.size + 1) (.mk ek em eu eg eo ea ed es) h2).cell? S) (.mk ek em eu eg eo ea ed es) h2) := by
                intro w9 h2 b9' hn9
                have b9 : Below w8.heap.size w8 w9 := ((Below.refl _ w8).drew).trans b9'
                have T10 : w9.cell? ⟨ab, ao, none⟩ = some (.int .i64 k) ∧ w9.cell? ⟨ab, ao + 1, none⟩ = some (.int .i64 m) ∧ w9.cell? ⟨ab, ao + 2, none⟩ = some (.int .i64 u) ∧ w9.cell? ⟨ab, ao + 3, none⟩ = some (.int .i64 g) ∧ w9.cell? ⟨ab, ao + 4, none⟩ = some (.bool o) ∧ w9.cell? ⟨ab, ao + 5, none⟩ = some (.slice hv0.aa at_.length hv0.ca) ∧ w9.cell? ⟨ab, ao + 6, none⟩ = some (.string d) ∧ w9.cell? ⟨ab, ao + 7, none⟩ = some (.slice hv0.ak ks.length hv0.ck) ∧ w9.cell? ⟨b11, 0, none⟩ = some (.int .i64 zk) ∧ w9.cell? ⟨b11, 1, none⟩ = some (.int .i64 zm) ∧ w9.cell? ⟨b11, 2, none⟩ = some (.int .i64 zu) ∧ w9.cell? ⟨b11, 3, none⟩ = some (.int .i64 zg) ∧ w9.cell? ⟨b11, 4, none⟩ = some (.bool zo) ∧ w9.cell? ⟨b11, 5, none⟩ = some (.slice h'.aa za.length h'.ca) ∧ w9.cell? ⟨b11, 6, none⟩ = some (.string zd) ∧ w9.cell? ⟨b11, 7, none⟩ = some (.slice h'.ak zs.length h'.ck) := ⟨mle_below b9 _ _ T4.1, mle_below b9 _ _ T4.2.1, mle_below b9 _ _ T4.2.2.1, mle_below b9 _ _ T4.2.2.2.1, mle_below b9 _ _ T4.2.2.2.2.1, mle_below b9 _ _ T4.2.2.2.2.2.1, mle_below b9 _ _ T4.2.2.2.2.2.2.1, mle_below b9 _ _ T4.2.2.2.2.2.2.2.1, mle_below b9 _ _ T4.2.2.2.2.2.2.2.2.1, mle_below b9 _ _ T4.2.2.2.2.2.2.2.2.2.1, mle_below b9 _ _ T4.2.2.2.2.2.2.2.2.2.2.1, mle_below b9 _ _ T4.2.2.2.2.2.2.2.2.2.2.2.1, mle_below b9 _ _ T4.2.2.2.2.2.2.2.2.2.2.2.2.1, mle_below b9 _ _ T4.2.2.2.2.2.2.2.2.2.2.2.2.2.1, mle_below b9 _ _ T4.2.2.2.2.2.2.2.2.2.2.2.2.2.2.1, mle_below b9 _ _ T4.2.2.2.2.2.2.2.2.2.2.2.2.2.2.2⟩
                have RB9 := RB8.below b9
                have hB9 := hB8.trans (b9.mono hB8.size)
                have bY : But (W.heap.size + 1) w9 (stB w9 (W.heap.size + 1) (.mk ek em eu eg eo ea ed es) h2) := stB_but
                exact ⟨T10, ⟨(set8_cell hne1 _ _ _ _ _ _ _ _).trans T10.1, (set8_cell hne1 _ _ _ _ _ _ _ _).trans T10.2.1, (set8_cell hne1 _ _ _ _ _ _ _ _).trans T10.2.2.1, (set8_cell hne1 _ _ _ _ _ _ _ _).trans T10.2.2.2.1, (set8_cell hne1 _ _ _ _ _ _ _ _).trans T10.2.2.2.2.1, (set8_cell hne1 _ _ _ _ _ _ _ _).trans T10.2.2.2.2.2.1, (set8_cell hne1 _ _ _ _ _ _ _ _).trans T10.2.2.2.2.2.2.1, (set8_cell hne1 _ _ _ _ _ _ _ _).trans T10.2.2.2.2.2.2.2.1, (set8_cell hne2 _ _ _ _ _ _ _ _).trans T10.2.2.2.2.2.2.2.2.1, (set8_cell hne2 _ _ _ _ _ _ _ _).trans T10.2.2.2.2.2.2.2.2.2.1, (set8_cell hne2 _ _ _ _ _ _ _ _).trans T10.2.2.2.2.2.2.2.2.2.2.1, (set8_cell hne2 _ _ _ _ _ _ _ _).trans T10.2.2.2.2.2.2.2.2.2.2.2.1, (set8_cell hne2 _ _ _ _ _ _ _ _).trans T10.2.2.2.2.2.2.2.2.2.2.2.2.1, (set8_cell hne2 _ _ _ _ _ _ _ _).trans T10.2.2.2.2.2.2.2.2.2.2.2.2.2.1, (set8_cell hne2 _ _ _ _ _ _ _ _).trans T10.2.2.2.2.2.2.2.2.2.2.2.2.2.2.1, (set8_cell hne2 _ _ _ _ _ _ _ _).trans T10.2.2.2.2.2.2.2.2.2.2.2.2.2.2.2⟩, RB9, RB9.store (.mk ek em eu eg eo ea ed es) h2, hB9.trans (bY.below (by omega) hB9.size), hn9.on (mle_step fun q hq hs => by
                  simp at hs
                  exact ⟨hs.2, bY.block q hq hs.1.2⟩)⟩
              clear T4 hua8 YB8
              go_upto_region 12 with fail
              go_region_held3 (fun w' => w'.cell? ⟨ab, ao, none⟩ = some (.int .i64 k) ∧ w'.cell? ⟨ab, ao + 1, none⟩ = some (.int .i64 m) ∧ w'.cell? ⟨ab, ao + 2, none⟩ = some (.int .i64 u) ∧ w'.cell? ⟨ab, ao + 3, none⟩ = some (.int .i64 g) ∧ w'.cell? ⟨ab, ao + 4, none⟩ = some (.bool o) ∧ w'.cell? ⟨ab, ao + 5, none⟩ = some (.slice hv0.aa at_.length hv0.ca) ∧ w'.cell? ⟨ab, ao + 6, none⟩ = some (.string d) ∧ w'.cell? ⟨ab, ao + 7, none⟩ = some (.slice hv0.ak ks.length hv0.ck) ∧ w'.cell? ⟨b11, 0, none⟩ = some (.int .i64 zk) ∧ w'.cell? ⟨b11, 1, none⟩ = some (.int .i64 zm) ∧ w'.cell? ⟨b11, 2, none⟩ = some (.int .i64 zu) ∧ w'.cell? ⟨b11, 3, none⟩ = some (.int .i64 zg) ∧ w'.cell? ⟨b11, 4, none⟩ = some (.bool zo) ∧ w'.cell? ⟨b11, 5, none⟩ = some (.slice h'.aa za.length h'.ca) ∧ w'.cell? ⟨b11, 6, none⟩ = some (.string zd) ∧ w'.cell? ⟨b11, 7, none⟩ = some (.slice h'.ak zs.length h'.ck)) (first | with_reducible exact T5 | with_reducible exact T10 | with_reducible exact T12) (first | (go_at_call 16; (with_reducible refine Calls.mono HPT.out ?_); rintro e w9 ⟨⟨h2, rfl, hn9⟩, b9⟩; obtain ⟨T10, T12, RB9, R9, hB9, hn10⟩ := HK9.out w9 h2 b9 hn9; obtain ⟨⟨z0, z1, z2, z3, z4, z5, z6, z7⟩, z8⟩ := id RB9))
              have HN9 : Hid _ := hn10
              clear T5 T10 T12 HPT HK9 hn9 b9 hn10 RB9 z0 z1 z2 z3 z4 z5 z6 z7 z8
              go_wp2
              obtain ⟨W9, HW9⟩ : ∃ W9, Hid (stB w9 (W.heap.size + 1) (.mk ek em eu eg eo ea ed es) h2 = W9) := ⟨_, rfl⟩
              rw [HW9.out] at R9 hB9 HN9
              have hw9 := HW9.out
              simp only [stB] at hw9
              rw [hw9]
              obtain ⟨r0, r1, r2, r3, r4, r5, r6, r7⟩ := R9.1
              refine bodyPost_ret (v := .tuple #[ndV (.mk ek em eu eg eo ea ed es) h2, EV2]) (by simp [results, Tryz.results6, go_sem, ndV, r0, r1, r2, r3, r4, r5, r6, r7]) rfl ?_
              rw [HUPK.out, HR2.out]
              refine ⟨⟨h2, by rw [HXN.out, HEV2.out], ?_⟩, hB9⟩
              rw [HXN.out]
              exact HN9.out
      · obtain rfl : t = N + 1 := by omega
        have hb1 : decide (((N + 1 : Nat) : Int) < ((N + 1 : Nat) : Int)) = false := decide_eq_false (by omega)
        have HEE : Hid (upN us gs xs names U names.length = .ok U) := upN_low HH.out _ (Nat.le_refl _) (fun s hs => HZ.out s (by rw [HN.out] at hs; omega))
        obtain ⟨k, m, u, g, o, at_, d, ks⟩ := U
        have hmU : MLe (offS W.cell? S) (offS w2.cell? (fun k => k == W.heap.size || k == W.heap.size + 1 || S k)) := mle_step fun k hk hs => ⟨by simp [hs]; omega, hB02.block k hk⟩
        have hsz2 : W.heap.size + 1 + 1 ≤ w2.heap.size := by have := RB2.1.lt; omega
        have HO : Hid (Calls Tryz.prog 14 #[.agg #[.int .i64 k, .int .i64 m, .int .i64 u, .int .i64 g, .bool o, .slice hv0.aa at_.length hv0.ca, .string d, .slice hv0.ak ks.length hv0.ck]] w2 fun e W' => (∃ h', e = .returned (.agg #[.int .i64 k, .int .i64 m, .int .i64 u, .int .i64 g, .bool o, .slice h'.aa at_.length h'.ca, .string d, .slice h'.ak ks.length h'.ck]) ∧ NdV (offS W'.cell? (fun k => k == W.heap.size || k == W.heap.size + 1 || S k)) (.mk k m u g o at_ d ks) h') ∧ Below w2.heap.size w2 W') := own_any (x := (.mk k m u g o at_ d ks)) (h := hv0) (S1_low hS0 hsz2) (HUN.out.on hmU) HUL.out HUM.out
        obtain ⟨f0, f1, f2, f3, f4, f5, f6, f7⟩ := (HUA.out.on hmU).on (offS_le _ _)
        clear HUA HUN HUL HUM HLM HIP HAR HLH HZ HH HAU c02 c12 HH0
        go_wp2_with fail
        with_reducible refine Calls.mono HO.out ?_
        rintro e w7 ⟨⟨hx, rfl, hN7⟩, hB7⟩
        have RB7 := RB2.below hB7
        have hB07 := hB02.trans (hB7.mono hB02.size)
        have R8 := RB7.store (.mk k m u g o at_ d ks) hx
        have hB8 : Below W.heap.size W (stB w7 (W.heap.size + 1) (.mk k m u g o at_ d ks) hx) := hB07.trans (stB_but.below (by omega) hB07.size)
        have HN8 : Hid (NdV (offS (stB w7 (W.heap.size + 1) (.mk k m u g o at_ d ks) hx).cell? S) (.mk k m u g o at_ d ks) hx) := hN7.on (mle_step fun q hq hs => by
          simp at hs
          exact ⟨hs.2, stB_but.block q hq hs.1.2⟩)
        clear f0 f1 f2 f3 f4 f5 f6 f7 HO hN7 hB7 RB2
        have z0 := RB7.2 0
        have z1 := RB7.2 1
        have z2 := RB7.2 2
        have z3 := RB7.2 3
        have z4 := RB7.2 4
        have z5 := RB7.2 5
        have z6 := RB7.2 6
        have z7 := RB7.2 7
        obtain ⟨f0, f1, f2, f3, f4, f5, f6, f7⟩ := RB7.1
        go_wp2
        obtain ⟨W9, HW9⟩ : ∃ W9, Hid (stB w7 (W.heap.size + 1) (.mk k m u g o at_ d ks) hx = W9) := ⟨_, rfl⟩
        rw [HW9.out] at R8 hB8 HN8
        have hw9 := HW9.out
        simp only [stB] at hw9
        rw [hw9]
        obtain ⟨r0, r1, r2, r3, r4, r5, r6, r7⟩ := R8.1
        refine bodyPost_ret (v := .tuple #[ndV (.mk k m u g o at_ d ks) hx, .nilIface]) (by simp [results, Tryz.results6, go_sem, ndV, r0, r1, r2, r3, r4, r5, r6, r7]) rfl ?_
        rw [HR.out, HEE.out]
        exact ⟨⟨hx, rfl, HN8.out⟩, hB8⟩
end Go.Proofs.YtlbabnffiibnpaaGreat
