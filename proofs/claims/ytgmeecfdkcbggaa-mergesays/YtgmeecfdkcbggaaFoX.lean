/-
  slices.Backward OF PLACES: the walk.
  Look: the walk.
  A NODE WITHOUT KIDS IN ITS OWN MEMORY; WHAT IS MADE OF A NODE: the walks.
  A NODE WITHOUT KIDS IN ITS OWN MEMORY: the walk.
  LAID FLAT IT SHOWS THE SAME: the facts of no program.
-/
import Derived.Test.YtgmeecfdkcbggaaFiY
import Derived.Test.YtgmeecfdkcbggaaMiX
import Derived.Deep.RegionHeld3
namespace Go.Proofs.Ytgmeecfdkcbggaa
open Go.RowKit Go.Shelf
attribute [local go_sem] Oper.semAt_some
theorem back_any (w : World) (a : Option Addr) (n cap : Nat) :
    Calls Try.prog 31 #[.slice a n cap] w fun e w' => e = .returned (.func (.func 49) #[] #[.pointer (some ⟨w.heap.size, 0, none⟩)]) ∧ w' = w.alloc (.cells #[.slice a n cap] 64) := by
  go_enter Try.func31, Try.ntmps31
  go_wp2
  go_ret
  exact ⟨rfl, rfl⟩
set_option maxRecDepth 100000 in
set_option maxHeartbeats 2000000 in
theorem back1_any (bd : Nat) (va : Option Addr) (cap : Nat) (G : List Pe) (hlen : G.length ≤ 1000) (l : Nat) (J : Nat → World → Prop) (W : World)
    (hJ : ∀ i A, J i A → A.cell? ⟨bd, 0, none⟩ = some (.slice va G.length cap) ∧ (G = [] ∨ ∃ b, va = some ⟨b, 0, none⟩ ∧ ∀ (i : Nat) e, G[i]? = some e → A.cell? ⟨b, i * 2, none⟩ = some (.string e.n) ∧ A.cell? ⟨b, i * 2 + 1, none⟩ = some (.slice e.a e.L.length e.c)))
    (hY : ∀ (i : Nat) e A, G[i]? = some e → J (i + 1) A → YieldAt Fence.wide 0 Try.prog l #[.int .i64 i, .agg #[.string e.n, .slice e.a e.L.length e.c]] A fun e B => e = .returned (.bool true) ∧ J i B)
    (h0 : J G.length W) :
    CallsIn Fence.wide 0 Try.prog 49 #[.func (.yield l) #[] #[], .pointer (some ⟨bd, 0, none⟩)] W fun e B => (∃ v, e = .returned v) ∧ J 0 B := by
  refine callsIn_of_wp Try.func49 rfl trivial ?_ rfl
  simp only [Try.ntmps49, List.size_toArray, List.length_cons, List.length_nil, Nat.reduceAdd, Nat.reduceSub, Array.replicate_succ, Array.replicate_zero, List.push_toArray, List.append_toArray, List.nil_append, List.cons_append]
  have hcW := (hJ _ _ h0).1
  have HJ : Hid _ := hJ
  have HY : Hid _ := hY
  obtain ⟨N, HN⟩ : ∃ N, Hid (G.length = N) := ⟨_, rfl⟩
  rw [HN.out] at hcW hlen h0 HJ
  have iw : IntKind.i64.wrap ((N : Int) - 1) = (N : Int) - 1 := wrap_small (by omega) (by omega)
  clear hJ hY
  gi_wp2
  clear hcW iw
  gi_loopw [3] (fun i wr => ∃ j : Nat, j ≤ N ∧ i = .int .i64 ((j : Int) - 1) ∧ J j wr) (fun i _ => (intOf i + 1).toNat)
  case atStart => exact ⟨N, Nat.le_refl _, rfl, h0⟩
  case round =>
    clear h0
    obtain ⟨j, hj, rfl, hJj⟩ := hrel
    cases j with
    | zero =>
      have hb : decide ((0 : Int) ≤ -1) = false := by decide
      gi_wp2
      go_end0
      exact ⟨⟨_, rfl⟩, hJj⟩
    | succ j =>
      obtain ⟨e, he⟩ : ∃ e, G[j]? = some e := ⟨_, List.getElem?_eq_getElem (by rw [HN.out]; omega)⟩
      obtain ⟨c0, hr⟩ := HJ.out _ _ hJj
      obtain ⟨b, rfl, hrow⟩ : ∃ b, va = some ⟨b, 0, none⟩ ∧ ∀ (i : Nat) e, G[i]? = some e → wr.cell? ⟨b, i * 2, none⟩ = some (.string e.n) ∧ wr.cell? ⟨b, i * 2 + 1, none⟩ = some (.slice e.a e.L.length e.c) := by
        rcases hr with q | q
        · rw [q] at he; simp at he
        · exact q
      obtain ⟨r0, r1⟩ := hrow j e he
      have e1 : ((j + 1 : Nat) : Int) - 1 = (j : Int) := by omega
      have hjN : (j : Int) < (N : Int) := by omega
      have hj0 : decide ((0 : Int) ≤ (j : Int)) = true := decide_eq_true (by omega)
      obtain ⟨fn, tmps, assign, body, hyy, hRR⟩ := HY.out j e wr he hJj
      have HRR : Hid _ := hRR
      rw [e1]
      clear hRR he hrow hr e1
      gi_wp2
      refine ⟨rfl, RoundIn.mono HRR.out ?_⟩
      rintro x W3 ⟨rfl, hJ3⟩
      have iw : IntKind.i64.wrap ((j : Int) - 1) = (j : Int) - 1 := wrap_small (by omega) (by omega)
      gi_wp2
      go_roundw
      case rel => exact ⟨j, by omega, rfl, hJ3⟩
      case measure => (simp [intOf]; try omega)
end Go.Proofs.Ytgmeecfdkcbggaa
namespace Go.Proofs.Ytgmeecfdkcbggaa
open Go.RowKit
def LimP (l : List (Nd × Nat)) : Prop := ∀ q ∈ l, Lim q.1
theorem lim_kids {x : Nd} (h : Lim x) : LimL x.kids := by
  obtain ⟨k, m, u, g, o, at_, d, ks⟩ := x
  rw [Lim] at h
  exact h.2.2
theorem LimP.kid {l : List (Nd × Nat)} (h : LimP l) (nm : ByteArray) : LimP (kidsP nm l) := fun q hq => by
  obtain ⟨p, hp, e⟩ := List.mem_filterMap.1 hq
  obtain ⟨y, hy, rfl⟩ := Option.map_eq_some_iff.1 e
  have h1 := h p hp
  unfold kidO at hy
  split at hy
  · cases hy
  · obtain ⟨e2, h3, rfl⟩ := Option.map_eq_some_iff.1 hy
    obtain ⟨n, z⟩ := e2
    exact limL_get (lim_kids h1) h3
theorem LimP.sh {l : List (Nd × Nat)} (h : LimP l) : LimP (shP l) := fun q hq => h q (shP_sub l q hq)
theorem stackP_lim {xs : List Nd} (h : LimP (layP xs)) : ∀ names : List ByteArray, LimP (stackP xs names) := by
  intro names
  unfold stackP
  generalize hl : shP (layP xs) = l
  have h2 : LimP l := by rw [← hl]; exact h.sh
  clear hl
  induction names generalizing l with
  | nil => exact h2
  | cons n r ih => rw [List.foldl_cons]; exact ih _ (h2.kid n).sh
/-- What Look answers. -/
def LookR (c : Mem) (e : Ending) : List (Nd × Nat) → Prop
  | [] => e = .returned (.tuple #[ndV zN zH, .int .i64 0, .bool false])
  | q :: _ => ∃ h, e = .returned (.tuple #[ndV q.1 h, .int .i64 q.2, .bool true]) ∧ NdV c q.1 h
theorem set8_cell {w : World} {b c i : Nat} (hne : c ≠ b) (u0 u1 u2 u3 u4 u5 u6 u7 : Value) : ((((((((w.setCell ⟨b, 0, none⟩ u0).setCell ⟨b, 1, none⟩ u1).setCell ⟨b, 2, none⟩ u2).setCell ⟨b, 3, none⟩ u3).setCell ⟨b, 4, none⟩ u4).setCell ⟨b, 5, none⟩ u5).setCell ⟨b, 6, none⟩ u6).setCell ⟨b, 7, none⟩ u7).cell? ⟨c, i, none⟩ = w.cell? ⟨c, i, none⟩ := by
  have e : ∀ (v : World) (j : Nat) (u : Value), (v.setCell ⟨b, j, none⟩ u).cell? ⟨c, i, none⟩ = v.cell? ⟨c, i, none⟩ := fun v j u => World.cell?_setCell_other _ _ _ _ (fun e => hne (by cases e; rfl))
  rw [e, e, e, e, e, e, e, e]
set_option maxRecDepth 100000 in
set_option maxHeartbeats 4000000 in
theorem look_any {w : World} {S : Nat → Bool} (hS0 : ∀ k, S k = true → k < w.heap.size) {a : Option Addr} {cap : Nat} {xs : List Nd} {an : Option Addr} {capn : Nat} {names : List ByteArray} (hx : NsV (offS w.cell? S) a xs) (hs : Strs (offS w.cell? S) an names) (hlx : xs.length ≤ 1000) (hln : names.length ≤ 1000) (hsm : SmallP (layP xs)) (hlim : LimP (layP xs)) :
    Calls Try.prog 9 #[.slice a xs.length cap, .slice an names.length capn] w fun e w' => LookR (offS w'.cell? S) e (stackP xs names) ∧ Below w.heap.size w w' := by
  have hal : Below w.heap.size w (w.alloc (.cells #[.int .i64 0, .int .i64 0, .int .i64 0, .int .i64 0, .bool false, .slice none 0 0, .string ⟨#[]⟩, .slice none 0 0] 31)) := (Below.refl _ _).alloc (Nat.le_refl _) _
  have hU : ∀ k, (k == w.heap.size || S k) = true → k < (w.alloc (.cells #[.int .i64 0, .int .i64 0, .int .i64 0, .int .i64 0, .bool false, .slice none 0 0, .string ⟨#[]⟩, .slice none 0 0] 31)).heap.size := fun k hk => by
    rw [World.size_alloc]
    simp at hk
    rcases hk with e | e
    · omega
    · have := hS0 k e; omega
  have hm0 : MLe (offS w.cell? S) (offS (w.alloc (.cells #[.int .i64 0, .int .i64 0, .int .i64 0, .int .i64 0, .bool false, .slice none 0 0, .string ⟨#[]⟩, .slice none 0 0] 31)).cell? (fun k => k == w.heap.size || S k)) := mle_step fun k hk hs => ⟨by simp [hs]; omega, hal.block k hk⟩
  have HW : Hid _ := walk_any (cap := cap) (capn := capn) hU (hx.on hm0) (hs.on hm0) hlx hln hsm
  have hsmS := stackP_small hsm names
  have hliS := stackP_lim hlim names
  have R1 := NBw.zero w
  generalize hst : stackP xs names = L at *
  clear hx hs hm0
  go_enter Try.func9, Try.ntmps9
  go_wp2_with fail
  refine Calls.mono HW.out ?_
  rintro e w1 ⟨v, rfl, hv, hB1⟩
  have R2 := R1.below hB1
  have hB2 := hal.trans (hB1.mono hal.size)
  obtain ⟨va, vc, D, rfl, g1, g2, g3, g4, g5⟩ := hv
  clear HW hal R1
  cases D with
  | nil =>
    have HL : Hid (L = []) := by show L = []; rw [← g5]; rfl
    clear g3 g4 g5
    obtain ⟨⟨f0, f1, f2, f3, f4, f5, f6, f7⟩, ff⟩ := R2
    have z0 := ff 0
    have z1 := ff 1
    have z2 := ff 2
    have z3 := ff 3
    have z4 := ff 4
    have z5 := ff 5
    have z6 := ff 6
    have z7 := ff 7
    have R3 := NBw.store (w := w1) (b := w.heap.size) (y := zN) (h' := zH) ⟨⟨f0, f1, f2, f3, f4, f5, f6, f7⟩, ff⟩ zN zH
    have hB3 : Below w.heap.size w (stB w1 w.heap.size zN zH) := hB2.trans (stB_but.below (Nat.le_refl _) hB2.size)
    go_wp2
    obtain ⟨W6, HW6⟩ : ∃ W6, Hid (stB w1 w.heap.size zN zH = W6) := ⟨_, rfl⟩
    rw [HW6.out] at R3 hB3
    have hw6 := HW6.out
    simp only [stB, zN, zH] at hw6
    simp only [List.length_nil] at hw6
    rw [hw6]
    obtain ⟨r0, r1, r2, r3, r4, r5, r6, r7⟩ := R3.1
    refine bodyPost_ret (v := .tuple #[ndV zN zH, .int .i64 0, .bool false]) (by simp [results, Try.results9, go_sem, ndV, zN, zH, r0, r1, r2, r3, r4, r5, r6, r7]) rfl ⟨by rw [HL.out]; rfl, hB3⟩
  | cons s D =>
    obtain ⟨sb, sp, ly, ⟨k, m, u, g, o, at_, d, ks⟩, h⟩ := s
    have hsp := g4 _ (List.mem_cons_self ..)
    obtain ⟨vb, vo, rfl, hrow⟩ : ∃ b off, va = some ⟨b, off, none⟩ ∧ ∀ i d', ((⟨sb, sp, ly, (.mk k m u g o at_ d ks), h⟩ : Sp) :: D)[i]? = some d' → offS w1.cell? (fun k => k == w.heap.size || S k) ⟨b, off + i * 2, none⟩ = some (.pointer (some ⟨d'.b, d'.p, none⟩)) ∧ offS w1.cell? (fun k => k == w.heap.size || S k) ⟨b, off + i * 2 + 1, none⟩ = some (.int .i64 d'.ly) := by
      rcases g3 with e | e
      · cases e
      · exact e
    obtain ⟨r0, r1⟩ := hrow 0 _ rfl
    have HL : Hid (∃ r, L = ((.mk k m u g o at_ d ks), ly) :: r) := ⟨_, g5.symm⟩
    have hq : ((.mk k m u g o at_ d ks), ly) ∈ L := by obtain ⟨r, e⟩ := HL.out; rw [e]; exact List.mem_cons_self ..
    have HO : Hid (Calls Try.prog 23 #[.agg #[.int .i64 k, .int .i64 m, .int .i64 u, .int .i64 g, .bool o, .slice h.aa at_.length h.ca, .string d, .slice h.ak ks.length h.ck]] w1.drew fun e W' => (∃ h', e = .returned (.agg #[.int .i64 k, .int .i64 m, .int .i64 u, .int .i64 g, .bool o, .slice h'.aa at_.length h'.ca, .string d, .slice h'.ak ks.length h'.ck]) ∧ NdV (offS W'.cell? (fun k => k == w.heap.size || S k)) (.mk k m u g o at_ d ks) h') ∧ Below w1.heap.size w1 W') := own_any (W := w1.drew) (S := fun k => k == w.heap.size || S k) (fun k hk => Nat.lt_of_lt_of_le (hU k hk) hB1.size) (x := (.mk k m u g o at_ d ks)) (h := h) hsp.2 (hliS _ hq) (hsmS.2 _ hq) |>.mono fun e W' q => ⟨q.1, ((Below.refl _ w1).drew).trans q.2⟩
    have t0 := offS_le _ _ _ _ r0
    have t1 := offS_le _ _ _ _ r1
    have hnat := hsp.1.on (offS_le _ _)
    obtain ⟨n0, n1, n2, n3, n4, n5, n6, n7⟩ := hnat
    have T5 : w1.cell? ⟨vb, vo, none⟩ = some (.pointer (some ⟨sb, sp, none⟩)) ∧ w1.cell? ⟨vb, vo + 1, none⟩ = some (.int .i64 ly) ∧ w1.cell? ⟨sb, sp, none⟩ = some (.int .i64 k) ∧ w1.cell? ⟨sb, sp + 1, none⟩ = some (.int .i64 m) ∧ w1.cell? ⟨sb, sp + 2, none⟩ = some (.int .i64 u) ∧ w1.cell? ⟨sb, sp + 3, none⟩ = some (.int .i64 g) ∧ w1.cell? ⟨sb, sp + 4, none⟩ = some (.bool o) ∧ w1.cell? ⟨sb, sp + 5, none⟩ = some (.slice h.aa at_.length h.ca) ∧ w1.cell? ⟨sb, sp + 6, none⟩ = some (.string d) ∧ w1.cell? ⟨sb, sp + 7, none⟩ = some (.slice h.ak ks.length h.ck) := ⟨t0, t1, n0, n1, n2, n3, n4, n5, n6, n7⟩
    have T5 : w1.drew.cell? ⟨vb, vo, none⟩ = some (.pointer (some ⟨sb, sp, none⟩)) ∧ w1.drew.cell? ⟨vb, vo + 1, none⟩ = some (.int .i64 ly) ∧ w1.drew.cell? ⟨sb, sp, none⟩ = some (.int .i64 k) ∧ w1.drew.cell? ⟨sb, sp + 1, none⟩ = some (.int .i64 m) ∧ w1.drew.cell? ⟨sb, sp + 2, none⟩ = some (.int .i64 u) ∧ w1.drew.cell? ⟨sb, sp + 3, none⟩ = some (.int .i64 g) ∧ w1.drew.cell? ⟨sb, sp + 4, none⟩ = some (.bool o) ∧ w1.drew.cell? ⟨sb, sp + 5, none⟩ = some (.slice h.aa at_.length h.ca) ∧ w1.drew.cell? ⟨sb, sp + 6, none⟩ = some (.string d) ∧ w1.drew.cell? ⟨sb, sp + 7, none⟩ = some (.slice h.ak ks.length h.ck) := T5
    have hvn : vb ≠ w.heap.size := fun e => by have := offS_off r0; simp [e] at this
    have hsn : sb ≠ w.heap.size := fun e => by have := offS_off (c := w1.cell?) (q := ⟨sb, sp, none⟩) hsp.1.1; simp [e] at this
    have HR2 : Hid (NBw w1 w.heap.size zN zH) := R2
    have HB2 : Hid (Below w.heap.size w w1) := hB2
    clear R2 hB2 hB1 g3 g4 g5 hsp hrow r0 r1 t0 t1 n0 n1 n2 n3 n4 n5 n6 n7 hU hS0 hsmS hliS hq hlim hsm
    go_wp2_with fail
    go_region_held3 (fun w' => w'.cell? ⟨vb, vo, none⟩ = some (.pointer (some ⟨sb, sp, none⟩)) ∧ w'.cell? ⟨vb, vo + 1, none⟩ = some (.int .i64 ly) ∧ w'.cell? ⟨sb, sp, none⟩ = some (.int .i64 k) ∧ w'.cell? ⟨sb, sp + 1, none⟩ = some (.int .i64 m) ∧ w'.cell? ⟨sb, sp + 2, none⟩ = some (.int .i64 u) ∧ w'.cell? ⟨sb, sp + 3, none⟩ = some (.int .i64 g) ∧ w'.cell? ⟨sb, sp + 4, none⟩ = some (.bool o) ∧ w'.cell? ⟨sb, sp + 5, none⟩ = some (.slice h.aa at_.length h.ca) ∧ w'.cell? ⟨sb, sp + 6, none⟩ = some (.string d) ∧ w'.cell? ⟨sb, sp + 7, none⟩ = some (.slice h.ak ks.length h.ck)) (first | with_reducible exact T5 | with_reducible exact T6 | with_reducible exact T7) (first | (go_at_call 23; (with_reducible refine Calls.mono HO.out ?_); rintro e w6 ⟨⟨hx, rfl, hN6⟩, hB6⟩; have T6 : w6.cell? ⟨vb, vo, none⟩ = some (.pointer (some ⟨sb, sp, none⟩)) ∧ w6.cell? ⟨vb, vo + 1, none⟩ = some (.int .i64 ly) ∧ w6.cell? ⟨sb, sp, none⟩ = some (.int .i64 k) ∧ w6.cell? ⟨sb, sp + 1, none⟩ = some (.int .i64 m) ∧ w6.cell? ⟨sb, sp + 2, none⟩ = some (.int .i64 u) ∧ w6.cell? ⟨sb, sp + 3, none⟩ = some (.int .i64 g) ∧ w6.cell? ⟨sb, sp + 4, none⟩ = some (.bool o) ∧ w6.cell? ⟨sb, sp + 5, none⟩ = some (.slice h.aa at_.length h.ca) ∧ w6.cell? ⟨sb, sp + 6, none⟩ = some (.string d) ∧ w6.cell? ⟨sb, sp + 7, none⟩ = some (.slice h.ak ks.length h.ck) := ⟨mle_below hB6 _ _ T5.1, mle_below hB6 _ _ T5.2.1, mle_below hB6 _ _ T5.2.2.1, mle_below hB6 _ _ T5.2.2.2.1, mle_below hB6 _ _ T5.2.2.2.2.1, mle_below hB6 _ _ T5.2.2.2.2.2.1, mle_below hB6 _ _ T5.2.2.2.2.2.2.1, mle_below hB6 _ _ T5.2.2.2.2.2.2.2.1, mle_below hB6 _ _ T5.2.2.2.2.2.2.2.2.1, mle_below hB6 _ _ T5.2.2.2.2.2.2.2.2.2⟩; have T7 : ((((((((w6.setCell ⟨w.heap.size, 0, none⟩ (.int .i64 k)).setCell ⟨w.heap.size, 1, none⟩ (.int .i64 m)).setCell ⟨w.heap.size, 2, none⟩ (.int .i64 u)).setCell ⟨w.heap.size, 3, none⟩ (.int .i64 g)).setCell ⟨w.heap.size, 4, none⟩ (.bool o)).setCell ⟨w.heap.size, 5, none⟩ (.slice hx.aa at_.length hx.ca)).setCell ⟨w.heap.size, 6, none⟩ (.string d)).setCell ⟨w.heap.size, 7, none⟩ (.slice hx.ak ks.length hx.ck)).cell? ⟨vb, vo, none⟩ = some (.pointer (some ⟨sb, sp, none⟩)) ∧ ((((((((w6.setCell ⟨w.heap.size, 0, none⟩ (.int .i64 k)).setCell ⟨w.heap.size, 1, none⟩ (.int .i64 m)).setCell ⟨w.heap.size, 2, none⟩ (.int .i64 u)).setCell ⟨w.heap.size, 3, none⟩ (.int .i64 g)).setCell ⟨w.heap.size, 4, none⟩ (.bool o)).setCell ⟨w.heap.size, 5, none⟩ (.slice hx.aa at_.length hx.ca)).setCell ⟨w.heap.size, 6, none⟩ (.string d)).setCell ⟨w.heap.size, 7, none⟩ (.slice hx.ak ks.length hx.ck)).cell? ⟨vb, vo + 1, none⟩ = some (.int .i64 ly) ∧ ((((((((w6.setCell ⟨w.heap.size, 0, none⟩ (.int .i64 k)).setCell ⟨w.heap.size, 1, none⟩ (.int .i64 m)).setCell ⟨w.heap.size, 2, none⟩ (.int .i64 u)).setCell ⟨w.heap.size, 3, none⟩ (.int .i64 g)).setCell ⟨w.heap.size, 4, none⟩ (.bool o)).setCell ⟨w.heap.size, 5, none⟩ (.slice hx.aa at_.length hx.ca)).setCell ⟨w.heap.size, 6, none⟩ (.string d)).setCell ⟨w.heap.size, 7, none⟩ (.slice hx.ak ks.length hx.ck)).cell? ⟨sb, sp, none⟩ = some (.int .i64 k) ∧ ((((((((w6.setCell ⟨w.heap.size, 0, none⟩ (.int .i64 k)).setCell ⟨w.heap.size, 1, none⟩ (.int .i64 m)).setCell ⟨w.heap.size, 2, none⟩ (.int .i64 u)).setCell ⟨w.heap.size, 3, none⟩ (.int .i64 g)).setCell ⟨w.heap.size, 4, none⟩ (.bool o)).setCell ⟨w.heap.size, 5, none⟩ (.slice hx.aa at_.length hx.ca)).setCell ⟨w.heap.size, 6, none⟩ (.string d)).setCell ⟨w.heap.size, 7, none⟩ (.slice hx.ak ks.length hx.ck)).cell? ⟨sb, sp + 1, none⟩ = some (.int .i64 m) ∧ ((((((((w6.setCell ⟨w.heap.size, 0, none⟩ (.int .i64 k)).setCell ⟨w.heap.size, 1, none⟩ (.int .i64 m)).setCell ⟨w.heap.size, 2, none⟩ (.int .i64 u)).setCell ⟨w.heap.size, 3, none⟩ (.int .i64 g)).setCell ⟨w.heap.size, 4, none⟩ (.bool o)).setCell ⟨w.heap.size, 5, none⟩ (.slice hx.aa at_.length hx.ca)).setCell ⟨w.heap.size, 6, none⟩ (.string d)).setCell ⟨w.heap.size, 7, none⟩ (.slice hx.ak ks.length hx.ck)).cell? ⟨sb, sp + 2, none⟩ = some (.int .i64 u) ∧ ((((((((w6.setCell ⟨w.heap.size, 0, none⟩ (.int .i64 k)).setCell ⟨w.heap.size, 1, none⟩ (.int .i64 m)).setCell ⟨w.heap.size, 2, none⟩ (.int .i64 u)).setCell ⟨w.heap.size, 3, none⟩ (.int .i64 g)).setCell ⟨w.heap.size, 4, none⟩ (.bool o)).setCell ⟨w.heap.size, 5, none⟩ (.slice hx.aa at_.length hx.ca)).setCell ⟨w.heap.size, 6, none⟩ (.string d)).setCell ⟨w.heap.size, 7, none⟩ (.slice hx.ak ks.length hx.ck)).cell? ⟨sb, sp + 3, none⟩ = some (.int .i64 g) ∧ ((((((((w6.setCell ⟨w.heap.size, 0, none⟩ (.int .i64 k)).setCell ⟨w.heap.size, 1, none⟩ (.int .i64 m)).setCell ⟨w.heap.size, 2, none⟩ (.int .i64 u)).setCell ⟨w.heap.size, 3, none⟩ (.int .i64 g)).setCell ⟨w.heap.size, 4, none⟩ (.bool o)).setCell ⟨w.heap.size, 5, none⟩ (.slice hx.aa at_.length hx.ca)).setCell ⟨w.heap.size, 6, none⟩ (.string d)).setCell ⟨w.heap.size, 7, none⟩ (.slice hx.ak ks.length hx.ck)).cell? ⟨sb, sp + 4, none⟩ = some (.bool o) ∧ ((((((((w6.setCell ⟨w.heap.size, 0, none⟩ (.int .i64 k)).setCell ⟨w.heap.size, 1, none⟩ (.int .i64 m)).setCell ⟨w.heap.size, 2, none⟩ (.int .i64 u)).setCell ⟨w.heap.size, 3, none⟩ (.int .i64 g)).setCell ⟨w.heap.size, 4, none⟩ (.bool o)).setCell ⟨w.heap.size, 5, none⟩ (.slice hx.aa at_.length hx.ca)).setCell ⟨w.heap.size, 6, none⟩ (.string d)).setCell ⟨w.heap.size, 7, none⟩ (.slice hx.ak ks.length hx.ck)).cell? ⟨sb, sp + 5, none⟩ = some (.slice h.aa at_.length h.ca) ∧ ((((((((w6.setCell ⟨w.heap.size, 0, none⟩ (.int .i64 k)).setCell ⟨w.heap.size, 1, none⟩ (.int .i64 m)).setCell ⟨w.heap.size, 2, none⟩ (.int .i64 u)).setCell ⟨w.heap.size, 3, none⟩ (.int .i64 g)).setCell ⟨w.heap.size, 4, none⟩ (.bool o)).setCell ⟨w.heap.size, 5, none⟩ (.slice hx.aa at_.length hx.ca)).setCell ⟨w.heap.size, 6, none⟩ (.string d)).setCell ⟨w.heap.size, 7, none⟩ (.slice hx.ak ks.length hx.ck)).cell? ⟨sb, sp + 6, none⟩ = some (.string d) ∧ ((((((((w6.setCell ⟨w.heap.size, 0, none⟩ (.int .i64 k)).setCell ⟨w.heap.size, 1, none⟩ (.int .i64 m)).setCell ⟨w.heap.size, 2, none⟩ (.int .i64 u)).setCell ⟨w.heap.size, 3, none⟩ (.int .i64 g)).setCell ⟨w.heap.size, 4, none⟩ (.bool o)).setCell ⟨w.heap.size, 5, none⟩ (.slice hx.aa at_.length hx.ca)).setCell ⟨w.heap.size, 6, none⟩ (.string d)).setCell ⟨w.heap.size, 7, none⟩ (.slice hx.ak ks.length hx.ck)).cell? ⟨sb, sp + 7, none⟩ = some (.slice h.ak ks.length h.ck) := ⟨(set8_cell hvn _ _ _ _ _ _ _ _).trans T6.1, (set8_cell hvn _ _ _ _ _ _ _ _).trans T6.2.1, (set8_cell hsn _ _ _ _ _ _ _ _).trans T6.2.2.1, (set8_cell hsn _ _ _ _ _ _ _ _).trans T6.2.2.2.1, (set8_cell hsn _ _ _ _ _ _ _ _).trans T6.2.2.2.2.1, (set8_cell hsn _ _ _ _ _ _ _ _).trans T6.2.2.2.2.2.1, (set8_cell hsn _ _ _ _ _ _ _ _).trans T6.2.2.2.2.2.2.1, (set8_cell hsn _ _ _ _ _ _ _ _).trans T6.2.2.2.2.2.2.2.1, (set8_cell hsn _ _ _ _ _ _ _ _).trans T6.2.2.2.2.2.2.2.2.1, (set8_cell hsn _ _ _ _ _ _ _ _).trans T6.2.2.2.2.2.2.2.2.2⟩; have HN6 : Hid _ := hN6; have hR6 := HR2.out.below (w := w1) (w' := w6) hB6; have HB6 : Hid (Below w.heap.size w w6) := HB2.out.trans (hB6.mono HB2.out.size); have z0 := hR6.2 0; have z1 := hR6.2 1; have z2 := hR6.2 2; have z3 := hR6.2 3; have z4 := hR6.2 4; have z5 := hR6.2 5; have z6 := hR6.2 6; have z7 := hR6.2 7; obtain ⟨f0, f1, f2, f3, f4, f5, f6, f7⟩ := hR6.1; have HR6 : Hid _ := hR6; clear hN6 hB6 hR6 HO))
    have R7 := NBw.store HR6.out (.mk k m u g o at_ d ks) hx
    have hB7 : Below w.heap.size w (stB w6 w.heap.size (.mk k m u g o at_ d ks) hx) := HB6.out.trans (stB_but.below (Nat.le_refl _) HB6.out.size)
    have hN7 : NdV (offS (stB w6 w.heap.size (.mk k m u g o at_ d ks) hx).cell? S) (.mk k m u g o at_ d ks) hx := HN6.out.on (mle_step fun q hq hs => by
      simp at hs
      exact ⟨hs.2, stB_but.block q hq hs.1⟩)
    have HN7 : Hid _ := hN7
    clear hN7 T5 T6 T7 HR6 HN6
    go_wp2
    obtain ⟨W6, HW6⟩ : ∃ W6, Hid (stB w6 w.heap.size (.mk k m u g o at_ d ks) hx = W6) := ⟨_, rfl⟩
    rw [HW6.out] at R7 hB7 HN7
    have hw6 := HW6.out
    simp only [stB] at hw6
    rw [hw6]
    obtain ⟨r0, r1, r2, r3, r4, r5, r6, r7⟩ := R7.1
    refine bodyPost_ret (v := .tuple #[ndV (.mk k m u g o at_ d ks) hx, .int .i64 ly, .bool true]) (by simp [results, Try.results9, go_sem, ndV, r0, r1, r2, r3, r4, r5, r6, r7]) rfl ⟨?_, hB7⟩
    obtain ⟨r, e⟩ := HL.out
    rw [e]
    exact ⟨hx, rfl, HN7.out⟩
end Go.Proofs.Ytgmeecfdkcbggaa
namespace Go.Proofs.Ytgmeecfdkcbggaa
open Go.RowKit
theorem cloneK_nil (w : World) : Calls Try.prog 54 #[.slice none 0 0] w fun e w' => e = .returned (.slice none 0 0) ∧ w = w' := by
  have hnil := fun (W : World) (n c : Nat) => Lib.run_eql_slice_nil (P := Try.prog) W 29 48 none n c 0 0 Try.underlying29
  go_enter Try.func54, Try.ntmps54
  go_wp2
  go_ret
  exact ⟨rfl, rfl⟩
set_option maxRecDepth 100000 in
set_option maxHeartbeats 2000000 in
theorem apartN_any {W : World} {S : Nat → Bool} (hS : ∀ k, S k = true → k < W.heap.size) {k m u g : Int} {o : Bool} {at_ : List Kv} {d : ByteArray} {aa : Option Addr} {ca : Nat} (ha : Kvm (offS W.cell? S) aa at_) (hla : at_.length ≤ 1000) :
    Calls Try.prog 34 #[.agg #[.int .i64 k, .int .i64 m, .int .i64 u, .int .i64 g, .bool o, .slice aa at_.length ca, .string d, .slice none 0 0]] W fun e W' => ∃ a2 c2, e = .returned (.agg #[.int .i64 k, .int .i64 m, .int .i64 u, .int .i64 g, .bool o, .slice a2 at_.length c2, .string d, .slice none 0 0]) ∧ at_.length ≤ c2 ∧ c2 ≤ 9223372036854775807 ∧ Kvm (offS W'.cell? S) a2 at_ ∧ Below W.heap.size W W' := by
  have B0 := NBw.new W k m u g o at_ d [] ⟨aa, ca, none, 0⟩
  simp only [List.length_nil] at B0
  have hB0 : Below W.heap.size W (W.alloc (.cells #[.int .i64 k, .int .i64 m, .int .i64 u, .int .i64 g, .bool o, .slice aa at_.length ca, .string d, .slice none 0 0] 31)) := (Below.refl _ _).alloc (Nat.le_refl _) _
  have R1 := NBw.zero (W.alloc (.cells #[.int .i64 k, .int .i64 m, .int .i64 u, .int .i64 g, .bool o, .slice aa at_.length ca, .string d, .slice none 0 0] 31))
  rw [World.size_alloc] at R1
  have B1 := B0.below ((Below.refl _ _).alloc (Nat.le_refl _) (.cells #[.int .i64 0, .int .i64 0, .int .i64 0, .int .i64 0, .bool false, .slice none 0 0, .string ⟨#[]⟩, .slice none 0 0] 31))
  have hB1 : Below W.heap.size W ((W.alloc (.cells #[.int .i64 k, .int .i64 m, .int .i64 u, .int .i64 g, .bool o, .slice aa at_.length ca, .string d, .slice none 0 0] 31)).alloc (.cells #[.int .i64 0, .int .i64 0, .int .i64 0, .int .i64 0, .bool false, .slice none 0 0, .string ⟨#[]⟩, .slice none 0 0] 31)) := hB0.alloc hB0.size _
  have ha1 := (ha.on (offS_le _ _)).below hB1
  have hs1 : W.heap.size + 2 ≤ ((W.alloc (.cells #[.int .i64 k, .int .i64 m, .int .i64 u, .int .i64 g, .bool o, .slice aa at_.length ca, .string d, .slice none 0 0] 31)).alloc (.cells #[.int .i64 0, .int .i64 0, .int .i64 0, .int .i64 0, .bool false, .slice none 0 0, .string ⟨#[]⟩, .slice none 0 0] 31)).heap.size := by simp
  obtain ⟨⟨y0, y1, y2, y3, y4, y5, y6, y7⟩, y8⟩ := id B1
  simp only [List.length_nil] at y7
  clear B0 hB0 ha
  go_enter Try.func34, Try.ntmps34
  go_wp2_with fail
  refine (cloneA_any aa ca at_ _ hla ha1).mono ?_
  rintro e w2 ⟨⟨vA, rfl, hA2⟩, b2⟩
  have B2 := B1.below b2
  have R2 := R1.below b2
  have hB2 := hB1.trans (b2.mono hB1.size)
  have hs2 := Nat.le_trans hs1 b2.size
  generalize ((W.alloc (.cells #[.int .i64 k, .int .i64 m, .int .i64 u, .int .i64 g, .bool o, .slice aa at_.length ca, .string d, .slice none 0 0] 31)).alloc (.cells #[.int .i64 0, .int .i64 0, .int .i64 0, .int .i64 0, .bool false, .slice none 0 0, .string ⟨#[]⟩, .slice none 0 0] 31)).heap.size = base at hs1 hA2
  clear y0 y1 y2 y3 y4 y5 y6 y7 y8 B1 R1 hB1 b2 ha1
  generalize hsz : W.heap.size = nb at B2 R2 hs1 hs2 ⊢
  obtain ⟨a2, c2, hv2, hc2, hc2', hA2'⟩ := kvm_of_owns hA2
  rw [hv2] at hA2 ⊢
  clear hv2
  have B3 := B2.set5 a2 c2
  have R3 := R2.other (p := ⟨nb, 5, none⟩) (by simp) (.slice a2 at_.length c2)
  have hA3 := owns_set hA2 (p := ⟨nb, 5, none⟩) (show nb < base by omega) (.slice a2 at_.length c2)
  have hB3 := hB2.setCell (p := ⟨nb, 5, none⟩) (by show W.heap.size ≤ nb; omega) (.slice a2 at_.length c2)
  obtain ⟨⟨y0, y1, y2, y3, y4, y5, y6, y7⟩, y8⟩ := B2
  have z7 := B3.1.2.2.2.2.2.2.2
  simp only [List.length_nil] at z7 y7
  clear hA2 hA2' R2 hB2 hs2
  go_wp2_with fail
  refine (cloneK_nil _).mono ?_
  rintro e w4 ⟨rfl, rfl⟩
  have B5 := B3.set7 [] none 0
  have R5 := R3.other (p := ⟨nb, 7, none⟩) (by simp) (.slice none 0 0)
  have hA5 := owns_set hA3 (p := ⟨nb, 7, none⟩) (show nb < base by omega) (.slice none 0 0)
  have hB5 := hB3.setCell (p := ⟨nb, 7, none⟩) (by show W.heap.size ≤ nb; omega) (.slice none 0 0)
  simp only [List.length_nil] at B5
  obtain ⟨⟨x0, x1, x2, x3, x4, x5, x6, x7⟩, x8⟩ := id B5
  obtain ⟨⟨z0, z1, z2, z3, z4, z5, z6, z7'⟩, z8⟩ := id R5
  have R6 := R5.store (.mk k m u g o at_ d []) ⟨a2, c2, none, 0⟩
  have b6 : But (nb + 1) ((w2.setCell ⟨nb, 5, none⟩ (.slice a2 at_.length c2)).setCell ⟨nb, 7, none⟩ (.slice none 0 0)) (stB ((w2.setCell ⟨nb, 5, none⟩ (.slice a2 at_.length c2)).setCell ⟨nb, 7, none⟩ (.slice none 0 0)) (nb + 1) (.mk k m u g o at_ d []) ⟨a2, c2, none, 0⟩) := stB_but
  have hA6 := owns_but hA5 b6 (by omega)
  have hB6 := hB5.trans (b6.below (B := W.heap.size) (by omega) (by have := hB5.size; omega))
  generalize hw6 : stB ((w2.setCell ⟨nb, 5, none⟩ (.slice a2 at_.length c2)).setCell ⟨nb, 7, none⟩ (.slice none 0 0)) (nb + 1) (.mk k m u g o at_ d []) ⟨a2, c2, none, 0⟩ = w6 at R6 b6 hA6 hB6
  have HW6 : Hid (stB ((w2.setCell ⟨nb, 5, none⟩ (.slice a2 at_.length c2)).setCell ⟨nb, 7, none⟩ (.slice none 0 0)) (nb + 1) (.mk k m u g o at_ d []) ⟨a2, c2, none, 0⟩ = w6) := hw6
  clear hw6 b6 hA5 hA3 hB5 hB3 R5 R3 B3
  go_wp2
  have hw6 := HW6.out
  simp only [stB, List.length_nil] at hw6
  rw [hw6]
  clear hw6 HW6 x0 x1 x2 x3 x4 x5 x6 x7 x8 y0 y1 y2 y3 y4 y5 y6 y7 y8 z0 z1 z2 z3 z4 z5 z6 z7 z8 z7'
  obtain ⟨a7, c7, e7, h71, h72, hA7⟩ := kvm_of_ownsS (S := S) (fun k hk => by have := hS k hk; omega) hA6
  simp only [Value.slice.injEq, true_and] at e7
  obtain ⟨rfl, rfl⟩ := e7
  obtain ⟨r0, r1, r2, r3, r4, r5, r6, r7⟩ := R6.1
  simp only [List.length_nil] at r7
  refine bodyPost_ret (v := .agg #[.int .i64 k, .int .i64 m, .int .i64 u, .int .i64 g, .bool o, .slice a2 at_.length c2, .string d, .slice none 0 0]) (by simp [results, Try.results34, go_sem, r0, r1, r2, r3, r4, r5, r6, r7]) rfl ⟨a2, c2, rfl, h71, h72, hA7, hB6⟩
end Go.Proofs.Ytgmeecfdkcbggaa
namespace Go.Proofs.Ytgmeecfdkcbggaa
open Go.RowKit
def lenOf : Value → Nat
  | .slice _ n _ => n
  | _ => 0
set_option maxRecDepth 100000 in
set_option maxHeartbeats 2000000 in
theorem ownN_any {W : World} {S : Nat → Bool} (hS : ∀ k, S k = true → k < W.heap.size) {k m u g : Int} {o : Bool} {at_ : List Kv} {d : ByteArray} {aa : Option Addr} {ca : Nat} (ha : Kvm (offS W.cell? S) aa at_) (hla : at_.length ≤ 1000) :
    Calls Try.prog 23 #[.agg #[.int .i64 k, .int .i64 m, .int .i64 u, .int .i64 g, .bool o, .slice aa at_.length ca, .string d, .slice none 0 0]] W fun e W' => ∃ a2 c2, e = .returned (.agg #[.int .i64 k, .int .i64 m, .int .i64 u, .int .i64 g, .bool o, .slice a2 at_.length c2, .string d, .slice none 0 0]) ∧ at_.length ≤ c2 ∧ c2 ≤ 9223372036854775807 ∧ Kvm (offS W'.cell? S) a2 at_ ∧ Below W.heap.size W W' := by
  have B0 := NBw.new W k m u g o at_ d [] ⟨aa, ca, none, 0⟩
  simp only [List.length_nil] at B0
  have hB0 : Below W.heap.size W (W.alloc (.cells #[.int .i64 k, .int .i64 m, .int .i64 u, .int .i64 g, .bool o, .slice aa at_.length ca, .string d, .slice none 0 0] 31)) := (Below.refl _ _).alloc (Nat.le_refl _) _
  have R1 := NBw.zero (W.alloc (.cells #[.int .i64 k, .int .i64 m, .int .i64 u, .int .i64 g, .bool o, .slice aa at_.length ca, .string d, .slice none 0 0] 31))
  rw [World.size_alloc] at R1
  have B1 := B0.below ((Below.refl _ _).alloc (Nat.le_refl _) (.cells #[.int .i64 0, .int .i64 0, .int .i64 0, .int .i64 0, .bool false, .slice none 0 0, .string ⟨#[]⟩, .slice none 0 0] 31))
  have hB1 : Below W.heap.size W ((W.alloc (.cells #[.int .i64 k, .int .i64 m, .int .i64 u, .int .i64 g, .bool o, .slice aa at_.length ca, .string d, .slice none 0 0] 31)).alloc (.cells #[.int .i64 0, .int .i64 0, .int .i64 0, .int .i64 0, .bool false, .slice none 0 0, .string ⟨#[]⟩, .slice none 0 0] 31)) := hB0.alloc hB0.size _
  have HP : Hid (Calls Try.prog 34 #[.agg #[.int .i64 k, .int .i64 m, .int .i64 u, .int .i64 g, .bool o, .slice aa at_.length ca, .string d, .slice none 0 0]] ((W.alloc (.cells #[.int .i64 k, .int .i64 m, .int .i64 u, .int .i64 g, .bool o, .slice aa at_.length ca, .string d, .slice none 0 0] 31)).alloc (.cells #[.int .i64 0, .int .i64 0, .int .i64 0, .int .i64 0, .bool false, .slice none 0 0, .string ⟨#[]⟩, .slice none 0 0] 31)) _) := apartN_any (S := fun k => (k == W.heap.size || k == W.heap.size + 1) || S k) (fun k hk => by
      simp at hk
      rcases hk with (q | q) | q
      · simp; omega
      · simp; omega
      · have := hS k q; simp; omega) (ha.on (mle_step fun k hk hs => ⟨by simp [hs]; omega, hB1.block k hk⟩)) hla
  have HS : Hid (∀ k, S k = true → k < W.heap.size) := hS
  obtain ⟨⟨y0, y1, y2, y3, y4, y5, y6, y7⟩, y8⟩ := id B1
  simp only [List.length_nil] at y7
  clear B0 hB0 hS ha
  go_enter Try.func23, Try.ntmps23
  go_wp2_with fail
  refine Calls.mono HP.out ?_
  rintro e w2 ⟨a2, c2, rfl, hc1, hc2, hk2, b2⟩
  have B2 := B1.below b2
  have R2 := R1.below b2
  have hB2 := hB1.trans (b2.mono hB1.size)
  have hs2 : W.heap.size + 1 < w2.heap.size := R2.1.lt
  clear y0 y1 y2 y3 y4 y5 y6 y7 y8 B1 R1 hB1 b2 HP
  generalize hsz : W.heap.size = nb at B2 R2 hk2 hs2 ⊢
  have B3 := B2.store (.mk k m u g o at_ d []) ⟨a2, c2, none, 0⟩
  have b3 : But nb w2 (stB w2 nb (.mk k m u g o at_ d []) ⟨a2, c2, none, 0⟩) := stB_but
  have R3 := R2.but b3 (by omega)
  have hB3 := hB2.trans (b3.below (B := W.heap.size) (by omega) hB2.size)
  have hk3 := hk2.on (mle_step (w := w2) (w' := stB w2 nb (.mk k m u g o at_ d []) ⟨a2, c2, none, 0⟩) (S' := fun k => (k == nb || k == nb + 1) || S k) fun q hq hs => ⟨hs, b3.block q hq (by simp at hs; exact hs.1.1)⟩)
  obtain ⟨⟨y0, y1, y2, y3, y4, y5, y6, y7⟩, y8⟩ := id B2
  obtain ⟨⟨z0, z1, z2, z3, z4, z5, z6, z7⟩, z8⟩ := id B3
  simp only [List.length_nil] at y7 z7
  generalize hw3 : stB w2 nb (.mk k m u g o at_ d []) ⟨a2, c2, none, 0⟩ = w3 at B3 R3 hB3 hk3 z0 z1 z2 z3 z4 z5 z6 z7 z8
  clear hk2 R2 hB2 B2 b3
  simp only [stB, List.length_nil] at hw3
  go_wp2
  clear hw3 y0 y1 y2 y3 y4 y5 y6 y7 y8 z0 z1 z2 z3 z4 z5 z6 z7 z8
  have hal : Below w3.heap.size w3 (w3.alloc (.cells #[.slice none 0 0] 29)) := (Below.refl _ _).alloc (Nat.le_refl _) _
  have B4 := B3.below hal
  have R4 := R3.below hal
  have hB4 := hB3.trans (hal.mono hB3.size)
  have hk4 := hk3.on (mle_S hal)
  have hcell := cell_one_new w3 (.slice none 0 0) 29 0 (.slice none 0 0) rfl
  have hcell : (w3.alloc (.cells #[.slice none 0 0] 29)).cell? ⟨w3.heap.size, 0, none⟩ = some (.slice none 0 0) := World.cell?_alloc_at _ _ _ _ rfl
  generalize w3.alloc (.cells #[.slice none 0 0] 29) = w4 at B4 R4 hB4 hk4 hcell ⊢
  generalize w3.heap.size = gw at hcell ⊢
  clear hal B3 R3 hB3 hk3
  go_loopw [3] (fun v wr => (v = .slice (some ⟨gw, 0, none⟩) 1 1 ∨ v = .slice (some ⟨gw, 0, none⟩) 0 1) ∧ w4 = wr) (fun v _ => lenOf v)
  case atStart => exact ⟨.inl rfl, rfl⟩
  case round =>
    obtain ⟨(rfl | rfl), rfl⟩ := hrel
    · go_wp2
      go_loopw [27, 3] (fun i v w' => i = .int .i64 0 ∧ v = .slice (some ⟨gw, 0, none⟩) 0 1 ∧ w4 = w') (fun _ _ _ => 0)
      case atStart => exact ⟨rfl, rfl, rfl⟩
      case round =>
        obtain ⟨rfl, rfl, rfl⟩ := hrel
        go_wp2
        go_roundw
        case rel => exact ⟨.inr rfl, by first | exact rfl | trivial⟩
        case measure => simp [lenOf]
    · obtain ⟨⟨y0, y1, y2, y3, y4, y5, y6, y7⟩, y8⟩ := id B4
      obtain ⟨⟨z0, z1, z2, z3, z4, z5, z6, z7⟩, z8⟩ := id R4
      simp only [List.length_nil] at y7
      have R6 := R4.store (.mk k m u g o at_ d []) ⟨a2, c2, none, 0⟩
      have b6 : But (nb + 1) w4 (stB w4 (nb + 1) (.mk k m u g o at_ d []) ⟨a2, c2, none, 0⟩) := stB_but
      have hB6 := hB4.trans (b6.below (B := W.heap.size) (by omega) hB4.size)
      have hk6 := hk4.on (mle_step (w := w4) (w' := stB w4 (nb + 1) (.mk k m u g o at_ d []) ⟨a2, c2, none, 0⟩) (S' := S) fun q hq hs => ⟨by simp at hs; exact hs.2, b6.block q hq (by simp at hs; exact hs.1.2)⟩)
      generalize hw6 : stB w4 (nb + 1) (.mk k m u g o at_ d []) ⟨a2, c2, none, 0⟩ = w6 at R6 hB6 hk6
      have HW6 : Hid (stB w4 (nb + 1) (.mk k m u g o at_ d []) ⟨a2, c2, none, 0⟩ = w6) := hw6
      clear hw6 b6 B4 R4 hB4 hk4
      go_wp2
      have hw6 := HW6.out
      simp only [stB, List.length_nil] at hw6
      rw [hw6]
      obtain ⟨r0, r1, r2, r3, r4, r5, r6, r7⟩ := R6.1
      simp only [List.length_nil] at r7
      refine bodyPost_ret (v := .agg #[.int .i64 k, .int .i64 m, .int .i64 u, .int .i64 g, .bool o, .slice a2 at_.length c2, .string d, .slice none 0 0]) (by simp [results, Try.results23, go_sem, r0, r1, r2, r3, r4, r5, r6, r7]) rfl ⟨a2, c2, rfl, hc1, hc2, hk6, by rw [← hsz]; exact hB6⟩
end Go.Proofs.Ytgmeecfdkcbggaa
namespace Go.Proofs.Ytgmeecfdkcbggaa
open Go.RowKit
def idF : Nd → Nat → Nd := fun x _ => x
abbrev flat0 (l : Fls) : Nd := flatD idF l
theorem bareN_kids (x : Nd) : (nakN x).kids = [] := by obtain ⟨k, m, u, g, o, at_, d, ks⟩ := x; rfl
theorem flat0_cons (q : Nd × Nat) (r : Fls) : flat0 (q :: r) = (nakN q.1).with ((listP (q :: r)).map fun nm => (nm, flat0 (nxt (q :: r) nm))) := by
  have h := flatD_cons idF q r
  unfold idF at h
  rw [bareN_kids, List.nil_append] at h
  exact h
/-- Layers' numbers do not matter. -/
def er (l : Fls) : Fls := l.map fun q => (q.1, 0)
end Go.Proofs.Ytgmeecfdkcbggaa
