/-
  Look: the walk.
-/
import Derived.Test.YtkkhfnkmfkdhiabMiY
import Derived.Deep.RegionHeld3
namespace Go.Proofs.Ytkkhfnkmfkdhiab
open Go.RowKit

def LimP (l : List (Nd × Nat)) : Prop := ∀ q ∈ l, Lim q.1
theorem lim_kids {x : Nd} (h : Lim x) : LimL x.kids := by
  obtain ⟨k, m, u, g, o, at_, d, ks⟩ := x
  rw [Lim] at h
  exact h.2.2
theorem LimP.kid {l : List (Nd × Nat)} (h : LimP l) (nm : ByteArray) : LimP (kidsP nm l) := fun q hq => by
  obtain ⟨p, hp, e⟩ := List.mem_filterMap.1 hq
  obtain ⟨y, hy, rfl⟩ := Option.map_eq_some_iff.1 e
  have h1 := h p hp
  unfold kidO at hy
  split at hy
  · cases hy
  · obtain ⟨e2, h3, rfl⟩ := Option.map_eq_some_iff.1 hy
    obtain ⟨n, z⟩ := e2
    exact limL_get (lim_kids h1) h3
theorem LimP.sh {l : List (Nd × Nat)} (h : LimP l) : LimP (shP l) := fun q hq => h q (shP_sub l q hq)
theorem stackP_lim {xs : List Nd} (h : LimP (layP xs)) : ∀ names : List ByteArray, LimP (stackP xs names) := by
  intro names
  unfold stackP
  generalize hl : shP (layP xs) = l
  have h2 : LimP l := by rw [← hl]; exact h.sh
  clear hl
  induction names generalizing l with
  | nil => exact h2
  | cons n r ih => rw [List.foldl_cons]; exact ih _ (h2.kid n).sh
/-- What Look answers. -/
def LookR (c : Mem) (e : Ending) : List (Nd × Nat) → Prop
  | [] => e = .returned (.tuple #[ndV zN zH, .int .i64 0, .bool false])
  | q :: _ => ∃ h, e = .returned (.tuple #[ndV q.1 h, .int .i64 q.2, .bool true]) ∧ NdV c q.1 h
theorem set8_cell {w : World} {b c i : Nat} (hne : c ≠ b) (u0 u1 u2 u3 u4 u5 u6 u7 : Value) : ((((((((w.setCell ⟨b, 0, none⟩ u0).setCell ⟨b, 1, none⟩ u1).setCell ⟨b, 2, none⟩ u2).setCell ⟨b, 3, none⟩ u3).setCell ⟨b, 4, none⟩ u4).setCell ⟨b, 5, none⟩ u5).setCell ⟨b, 6, none⟩ u6).setCell ⟨b, 7, none⟩ u7).cell? ⟨c, i, none⟩ = w.cell? ⟨c, i, none⟩ := by
  have e : ∀ (v : World) (j : Nat) (u : Value), (v.setCell ⟨b, j, none⟩ u).cell? ⟨c, i, none⟩ = v.cell? ⟨c, i, none⟩ := fun v j u => World.cell?_setCell_other _ _ _ _ (fun e => hne (by cases e; rfl))
  rw [e, e, e, e, e, e, e, e]
set_option maxRecDepth 100000 in
set_option maxHeartbeats 4000000 in
theorem look_any {w : World} {S : Nat → Bool} (hS0 : ∀ k, S k = true → k < w.heap.size) {a : Option Addr} {cap : Nat} {xs : List Nd} {an : Option Addr} {capn : Nat} {names : List ByteArray} (hx : NsV (offS w.cell? S) a xs) (hs : Strs (offS w.cell? S) an names) (hlx : xs.length ≤ 1000) (hln : names.length ≤ 1000) (hsm : SmallP (layP xs)) (hlim : LimP (layP xs)) :
    Calls Try.prog 29 #[.slice a xs.length cap, .slice an names.length capn] w fun e w' => LookR (offS w'.cell? S) e (stackP xs names) ∧ Below w.heap.size w w' := by
  have hal : Below w.heap.size w (w.alloc (.cells #[.int .i64 0, .int .i64 0, .int .i64 0, .int .i64 0, .bool false, .slice none 0 0, .string ⟨#[]⟩, .slice none 0 0] 25)) := (Below.refl _ _).alloc (Nat.le_refl _) _
  have hU : ∀ k, (k == w.heap.size || S k) = true → k < (w.alloc (.cells #[.int .i64 0, .int .i64 0, .int .i64 0, .int .i64 0, .bool false, .slice none 0 0, .string ⟨#[]⟩, .slice none 0 0] 25)).heap.size := fun k hk => by
    rw [World.size_alloc]
    simp at hk
    rcases hk with e | e
    · omega
    · have := hS0 k e; omega
  have hm0 : MLe (offS w.cell? S) (offS (w.alloc (.cells #[.int .i64 0, .int .i64 0, .int .i64 0, .int .i64 0, .bool false, .slice none 0 0, .string ⟨#[]⟩, .slice none 0 0] 25)).cell? (fun k => k == w.heap.size || S k)) := mle_step fun k hk hs => ⟨by simp [hs]; omega, hal.block k hk⟩
  have HW : Hid _ := walk_any (cap := cap) (capn := capn) hU (hx.on hm0) (hs.on hm0) hlx hln hsm
  have hsmS := stackP_small hsm names
  have hliS := stackP_lim hlim names
  have R1 := NBw.zero w
  generalize hst : stackP xs names = L at *
  clear hx hs hm0
  go_enter Try.func29, Try.ntmps29
  go_wp2_with fail
  refine Calls.mono HW.out ?_
  rintro e w1 ⟨v, rfl, hv, hB1⟩
  have R2 := R1.below hB1
  have hB2 := hal.trans (hB1.mono hal.size)
  obtain ⟨va, vc, D, rfl, g1, g2, g3, g4, g5⟩ := hv
  clear HW hal R1
  cases D with
  | nil =>
    have HL : Hid (L = []) := by show L = []; rw [← g5]; rfl
    clear g3 g4 g5
    obtain ⟨⟨f0, f1, f2, f3, f4, f5, f6, f7⟩, ff⟩ := R2
    have z0 := ff 0
    have z1 := ff 1
    have z2 := ff 2
    have z3 := ff 3
    have z4 := ff 4
    have z5 := ff 5
    have z6 := ff 6
    have z7 := ff 7
    have R3 := NBw.store (w := w1) (b := w.heap.size) (y := zN) (h' := zH) ⟨⟨f0, f1, f2, f3, f4, f5, f6, f7⟩, ff⟩ zN zH
    have hB3 : Below w.heap.size w (stB w1 w.heap.size zN zH) := hB2.trans (stB_but.below (Nat.le_refl _) hB2.size)
    go_wp2
    obtain ⟨W6, HW6⟩ : ∃ W6, Hid (stB w1 w.heap.size zN zH = W6) := ⟨_, rfl⟩
    rw [HW6.out] at R3 hB3
    have hw6 := HW6.out
    simp only [stB, zN, zH] at hw6
    simp only [List.length_nil] at hw6
    rw [hw6]
    obtain ⟨r0, r1, r2, r3, r4, r5, r6, r7⟩ := R3.1
    refine bodyPost_ret (v := .tuple #[ndV zN zH, .int .i64 0, .bool false]) (by simp [results, Try.results29, go_sem, ndV, zN, zH, r0, r1, r2, r3, r4, r5, r6, r7]) rfl ⟨by rw [HL.out]; rfl, hB3⟩
  | cons s D =>
    obtain ⟨sb, sp, ly, ⟨k, m, u, g, o, at_, d, ks⟩, h⟩ := s
    have hsp := g4 _ (List.mem_cons_self ..)
    obtain ⟨vb, vo, rfl, hrow⟩ : ∃ b off, va = some ⟨b, off, none⟩ ∧ ∀ i d', ((⟨sb, sp, ly, (.mk k m u g o at_ d ks), h⟩ : Sp) :: D)[i]? = some d' → offS w1.cell? (fun k => k == w.heap.size || S k) ⟨b, off + i * 2, none⟩ = some (.pointer (some ⟨d'.b, d'.p, none⟩)) ∧ offS w1.cell? (fun k => k == w.heap.size || S k) ⟨b, off + i * 2 + 1, none⟩ = some (.int .i64 d'.ly) := by
      rcases g3 with e | e
      · cases e
      · exact e
    obtain ⟨r0, r1⟩ := hrow 0 _ rfl
    have HL : Hid (∃ r, L = ((.mk k m u g o at_ d ks), ly) :: r) := ⟨_, g5.symm⟩
    have hq : ((.mk k m u g o at_ d ks), ly) ∈ L := by obtain ⟨r, e⟩ := HL.out; rw [e]; exact List.mem_cons_self ..
    have HO : Hid (Calls Try.prog 69 #[.agg #[.int .i64 k, .int .i64 m, .int .i64 u, .int .i64 g, .bool o, .slice h.aa at_.length h.ca, .string d, .slice h.ak ks.length h.ck]] w1.drew fun e W' => (∃ h', e = .returned (.agg #[.int .i64 k, .int .i64 m, .int .i64 u, .int .i64 g, .bool o, .slice h'.aa at_.length h'.ca, .string d, .slice h'.ak ks.length h'.ck]) ∧ NdV (offS W'.cell? (fun k => k == w.heap.size || S k)) (.mk k m u g o at_ d ks) h') ∧ Below w1.heap.size w1 W') := own_any (W := w1.drew) (S := fun k => k == w.heap.size || S k) (fun k hk => Nat.lt_of_lt_of_le (hU k hk) hB1.size) (x := (.mk k m u g o at_ d ks)) (h := h) hsp.2 (hliS _ hq) (hsmS.2 _ hq) |>.mono fun e W' q => ⟨q.1, ((Below.refl _ w1).drew).trans q.2⟩
    have t0 := offS_le _ _ _ _ r0
    have t1 := offS_le _ _ _ _ r1
    have hnat := hsp.1.on (offS_le _ _)
    obtain ⟨n0, n1, n2, n3, n4, n5, n6, n7⟩ := hnat
    have T5 : w1.cell? ⟨vb, vo, none⟩ = some (.pointer (some ⟨sb, sp, none⟩)) ∧ w1.cell? ⟨vb, vo + 1, none⟩ = some (.int .i64 ly) ∧ w1.cell? ⟨sb, sp, none⟩ = some (.int .i64 k) ∧ w1.cell? ⟨sb, sp + 1, none⟩ = some (.int .i64 m) ∧ w1.cell? ⟨sb, sp + 2, none⟩ = some (.int .i64 u) ∧ w1.cell? ⟨sb, sp + 3, none⟩ = some (.int .i64 g) ∧ w1.cell? ⟨sb, sp + 4, none⟩ = some (.bool o) ∧ w1.cell? ⟨sb, sp + 5, none⟩ = some (.slice h.aa at_.length h.ca) ∧ w1.cell? ⟨sb, sp + 6, none⟩ = some (.string d) ∧ w1.cell? ⟨sb, sp + 7, none⟩ = some (.slice h.ak ks.length h.ck) := ⟨t0, t1, n0, n1, n2, n3, n4, n5, n6, n7⟩
    have T5 : w1.drew.cell? ⟨vb, vo, none⟩ = some (.pointer (some ⟨sb, sp, none⟩)) ∧ w1.drew.cell? ⟨vb, vo + 1, none⟩ = some (.int .i64 ly) ∧ w1.drew.cell? ⟨sb, sp, none⟩ = some (.int .i64 k) ∧ w1.drew.cell? ⟨sb, sp + 1, none⟩ = some (.int .i64 m) ∧ w1.drew.cell? ⟨sb, sp + 2, none⟩ = some (.int .i64 u) ∧ w1.drew.cell? ⟨sb, sp + 3, none⟩ = some (.int .i64 g) ∧ w1.drew.cell? ⟨sb, sp + 4, none⟩ = some (.bool o) ∧ w1.drew.cell? ⟨sb, sp + 5, none⟩ = some (.slice h.aa at_.length h.ca) ∧ w1.drew.cell? ⟨sb, sp + 6, none⟩ = some (.string d) ∧ w1.drew.cell? ⟨sb, sp + 7, none⟩ = some (.slice h.ak ks.length h.ck) := T5
    have hvn : vb ≠ w.heap.size := fun e => by have := offS_off r0; simp [e] at this
    have hsn : sb ≠ w.heap.size := fun e => by have := offS_off (c := w1.cell?) (q := ⟨sb, sp, none⟩) hsp.1.1; simp [e] at this
    have HR2 : Hid (NBw w1 w.heap.size zN zH) := R2
    have HB2 : Hid (Below w.heap.size w w1) := hB2
    clear R2 hB2 hB1 g3 g4 g5 hsp hrow r0 r1 t0 t1 n0 n1 n2 n3 n4 n5 n6 n7 hU hS0 hsmS hliS hq hlim hsm
    go_wp2_with fail
    go_region_held3 (fun w' => w'.cell? ⟨vb, vo, none⟩ = some (.pointer (some ⟨sb, sp, none⟩)) ∧ w'.cell? ⟨vb, vo + 1, none⟩ = some (.int .i64 ly) ∧ w'.cell? ⟨sb, sp, none⟩ = some (.int .i64 k) ∧ w'.cell? ⟨sb, sp + 1, none⟩ = some (.int .i64 m) ∧ w'.cell? ⟨sb, sp + 2, none⟩ = some (.int .i64 u) ∧ w'.cell? ⟨sb, sp + 3, none⟩ = some (.int .i64 g) ∧ w'.cell? ⟨sb, sp + 4, none⟩ = some (.bool o) ∧ w'.cell? ⟨sb, sp + 5, none⟩ = some (.slice h.aa at_.length h.ca) ∧ w'.cell? ⟨sb, sp + 6, none⟩ = some (.string d) ∧ w'.cell? ⟨sb, sp + 7, none⟩ = some (.slice h.ak ks.length h.ck)) (first | with_reducible exact T5 | with_reducible exact T6 | with_reducible exact T7) (first | (go_at_call 69; (with_reducible refine Calls.mono HO.out ?_); rintro e w6 ⟨⟨hx, rfl, hN6⟩, hB6⟩; have T6 : w6.cell? ⟨vb, vo, none⟩ = some (.pointer (some ⟨sb, sp, none⟩)) ∧ w6.cell? ⟨vb, vo + 1, none⟩ = some (.int .i64 ly) ∧ w6.cell? ⟨sb, sp, none⟩ = some (.int .i64 k) ∧ w6.cell? ⟨sb, sp + 1, none⟩ = some (.int .i64 m) ∧ w6.cell? ⟨sb, sp + 2, none⟩ = some (.int .i64 u) ∧ w6.cell? ⟨sb, sp + 3, none⟩ = some (.int .i64 g) ∧ w6.cell? ⟨sb, sp + 4, none⟩ = some (.bool o) ∧ w6.cell? ⟨sb, sp + 5, none⟩ = some (.slice h.aa at_.length h.ca) ∧ w6.cell? ⟨sb, sp + 6, none⟩ = some (.string d) ∧ w6.cell? ⟨sb, sp + 7, none⟩ = some (.slice h.ak ks.length h.ck) := ⟨mle_below hB6 _ _ T5.1, mle_below hB6 _ _ T5.2.1, mle_below hB6 _ _ T5.2.2.1, mle_below hB6 _ _ T5.2.2.2.1, mle_below hB6 _ _ T5.2.2.2.2.1, mle_below hB6 _ _ T5.2.2.2.2.2.1, mle_below hB6 _ _ T5.2.2.2.2.2.2.1, mle_below hB6 _ _ T5.2.2.2.2.2.2.2.1, mle_below hB6 _ _ T5.2.2.2.2.2.2.2.2.1, mle_below hB6 _ _ T5.2.2.2.2.2.2.2.2.2⟩; have T7 : ((((((((w6.setCell ⟨w.heap.size, 0, none⟩ (.int .i64 k)).setCell ⟨w.heap.size, 1, none⟩ (.int .i64 m)).setCell ⟨w.heap.size, 2, none⟩ (.int .i64 u)).setCell ⟨w.heap.size, 3, none⟩ (.int .i64 g)).setCell ⟨w.heap.size, 4, none⟩ (.bool o)).setCell ⟨w.heap.size, 5, none⟩ (.slice hx.aa at_.length hx.ca)).setCell ⟨w.heap.size, 6, none⟩ (.string d)).setCell ⟨w.heap.size, 7, none⟩ (.slice hx.ak ks.length hx.ck)).cell? ⟨vb, vo, none⟩ = some (.pointer (some ⟨sb, sp, none⟩)) ∧ ((((((((w6.setCell ⟨w.heap.size, 0, none⟩ (.int .i64 k)).setCell ⟨w.heap.size, 1, none⟩ (.int .i64 m)).setCell ⟨w.heap.size, 2, none⟩ (.int .i64 u)).setCell ⟨w.heap.size, 3, none⟩ (.int .i64 g)).setCell ⟨w.heap.size, 4, none⟩ (.bool o)).setCell ⟨w.heap.size, 5, none⟩ (.slice hx.aa at_.length hx.ca)).setCell ⟨w.heap.size, 6, none⟩ (.string d)).setCell ⟨w.heap.size, 7, none⟩ (.slice hx.ak ks.length hx.ck)).cell? ⟨vb, vo + 1, none⟩ = some (.int .i64 ly) ∧ ((((((((w6.setCell ⟨w.heap.size, 0, none⟩ (.int .i64 k)).setCell ⟨w.heap.size, 1, none⟩ (.int .i64 m)).setCell ⟨w.heap.size, 2, none⟩ (.int .i64 u)).setCell ⟨w.heap.size, 3, none⟩ (.int .i64 g)).setCell ⟨w.heap.size, 4, none⟩ (.bool o)).setCell ⟨w.heap.size, 5, none⟩ (.slice hx.aa at_.length hx.ca)).setCell ⟨w.heap.size, 6, none⟩ (.string d)).setCell ⟨w.heap.size, 7, none⟩ (.slice hx.ak ks.length hx.ck)).cell? ⟨sb, sp, none⟩ = some (.int .i64 k) ∧ ((((((((w6.setCell ⟨w.heap.size, 0, none⟩ (.int .i64 k)).setCell ⟨w.heap.size, 1, none⟩ (.int .i64 m)).setCell ⟨w.heap.size, 2, none⟩ (.int .i64 u)).setCell ⟨w.heap.size, 3, none⟩ (.int .i64 g)).setCell ⟨w.heap.size, 4, none⟩ (.bool o)).setCell ⟨w.heap.size, 5, none⟩ (.slice hx.aa at_.length hx.ca)).setCell ⟨w.heap.size, 6, none⟩ (.string d)).setCell ⟨w.heap.size, 7, none⟩ (.slice hx.ak ks.length hx.ck)).cell? ⟨sb, sp + 1, none⟩ = some (.int .i64 m) ∧ ((((((((w6.setCell ⟨w.heap.size, 0, none⟩ (.int .i64 k)).setCell ⟨w.heap.size, 1, none⟩ (.int .i64 m)).setCell ⟨w.heap.size, 2, none⟩ (.int .i64 u)).setCell ⟨w.heap.size, 3, none⟩ (.int .i64 g)).setCell ⟨w.heap.size, 4, none⟩ (.bool o)).setCell ⟨w.heap.size, 5, none⟩ (.slice hx.aa at_.length hx.ca)).setCell ⟨w.heap.size, 6, none⟩ (.string d)).setCell ⟨w.heap.size, 7, none⟩ (.slice hx.ak ks.length hx.ck)).cell? ⟨sb, sp + 2, none⟩ = some (.int .i64 u) ∧ ((((((((w6.setCell ⟨w.heap.size, 0, none⟩ (.int .i64 k)).setCell ⟨w.heap.size, 1, none⟩ (.int .i64 m)).setCell ⟨w.heap.size, 2, none⟩ (.int .i64 u)).setCell ⟨w.heap.size, 3, none⟩ (.int .i64 g)).setCell ⟨w.heap.size, 4, none⟩ (.bool o)).setCell ⟨w.heap.size, 5, none⟩ (.slice hx.aa at_.length hx.ca)).setCell ⟨w.heap.size, 6, none⟩ (.string d)).setCell ⟨w.heap.size, 7, none⟩ (.slice hx.ak ks.length hx.ck)).cell? ⟨sb, sp + 3, none⟩ = some (.int .i64 g) ∧ ((((((((w6.setCell ⟨w.heap.size, 0, none⟩ (.int .i64 k)).setCell ⟨w.heap.size, 1, none⟩ (.int .i64 m)).setCell ⟨w.heap.size, 2, none⟩ (.int .i64 u)).setCell ⟨w.heap.size, 3, none⟩ (.int .i64 g)).setCell ⟨w.heap.size, 4, none⟩ (.bool o)).setCell ⟨w.heap.size, 5, none⟩ (.slice hx.aa at_.length hx.ca)).setCell ⟨w.heap.size, 6, none⟩ (.string d)).setCell ⟨w.heap.size, 7, none⟩ (.slice hx.ak ks.length hx.ck)).cell? ⟨sb, sp + 4, none⟩ = some (.bool o) ∧ ((((((((w6.setCell ⟨w.heap.size, 0, none⟩ (.int .i64 k)).setCell ⟨w.heap.size, 1, none⟩ (.int .i64 m)).setCell ⟨w.heap.size, 2, none⟩ (.int .i64 u)).setCell ⟨w.heap.size, 3, none⟩ (.int .i64 g)).setCell ⟨w.heap.size, 4, none⟩ (.bool o)).setCell ⟨w.heap.size, 5, none⟩ (.slice hx.aa at_.length hx.ca)).setCell ⟨w.heap.size, 6, none⟩ (.string d)).setCell ⟨w.heap.size, 7, none⟩ (.slice hx.ak ks.length hx.ck)).cell? ⟨sb, sp + 5, none⟩ = some (.slice h.aa at_.length h.ca) ∧ ((((((((w6.setCell ⟨w.heap.size, 0, none⟩ (.int .i64 k)).setCell ⟨w.heap.size, 1, none⟩ (.int .i64 m)).setCell ⟨w.heap.size, 2, none⟩ (.int .i64 u)).setCell ⟨w.heap.size, 3, none⟩ (.int .i64 g)).setCell ⟨w.heap.size, 4, none⟩ (.bool o)).setCell ⟨w.heap.size, 5, none⟩ (.slice hx.aa at_.length hx.ca)).setCell ⟨w.heap.size, 6, none⟩ (.string d)).setCell ⟨w.heap.size, 7, none⟩ (.slice hx.ak ks.length hx.ck)).cell? ⟨sb, sp + 6, none⟩ = some (.string d) ∧ ((((((((w6.setCell ⟨w.heap.size, 0, none⟩ (.int .i64 k)).setCell ⟨w.heap.size, 1, none⟩ (.int .i64 m)).setCell ⟨w.heap.size, 2, none⟩ (.int .i64 u)).setCell ⟨w.heap.size, 3, none⟩ (.int .i64 g)).setCell ⟨w.heap.size, 4, none⟩ (.bool o)).setCell ⟨w.heap.size, 5, none⟩ (.slice hx.aa at_.length hx.ca)).setCell ⟨w.heap.size, 6, none⟩ (.string d)).setCell ⟨w.heap.size, 7, none⟩ (.slice hx.ak ks.length hx.ck)).cell? ⟨sb, sp + 7, none⟩ = some (.slice h.ak ks.length h.ck) := ⟨(set8_cell hvn _ _ _ _ _ _ _ _).trans T6.1, (set8_cell hvn _ _ _ _ _ _ _ _).trans T6.2.1, (set8_cell hsn _ _ _ _ _ _ _ _).trans T6.2.2.1, (set8_cell hsn _ _ _ _ _ _ _ _).trans T6.2.2.2.1, (set8_cell hsn _ _ _ _ _ _ _ _).trans T6.2.2.2.2.1, (set8_cell hsn _ _ _ _ _ _ _ _).trans T6.2.2.2.2.2.1, (set8_cell hsn _ _ _ _ _ _ _ _).trans T6.2.2.2.2.2.2.1, (set8_cell hsn _ _ _ _ _ _ _ _).trans T6.2.2.2.2.2.2.2.1, (set8_cell hsn _ _ _ _ _ _ _ _).trans T6.2.2.2.2.2.2.2.2.1, (set8_cell hsn _ _ _ _ _ _ _ _).trans T6.2.2.2.2.2.2.2.2.2⟩; have HN6 : Hid _ := hN6; have hR6 := HR2.out.below (w := w1) (w' := w6) hB6; have HB6 : Hid (Below w.heap.size w w6) := HB2.out.trans (hB6.mono HB2.out.size); have z0 := hR6.2 0; have z1 := hR6.2 1; have z2 := hR6.2 2; have z3 := hR6.2 3; have z4 := hR6.2 4; have z5 := hR6.2 5; have z6 := hR6.2 6; have z7 := hR6.2 7; obtain ⟨f0, f1, f2, f3, f4, f5, f6, f7⟩ := hR6.1; have HR6 : Hid _ := hR6; clear hN6 hB6 hR6 HO))
    have R7 := NBw.store HR6.out (.mk k m u g o at_ d ks) hx
    have hB7 : Below w.heap.size w (stB w6 w.heap.size (.mk k m u g o at_ d ks) hx) := HB6.out.trans (stB_but.below (Nat.le_refl _) HB6.out.size)
    have hN7 : NdV (offS (stB w6 w.heap.size (.mk k m u g o at_ d ks) hx).cell? S) (.mk k m u g o at_ d ks) hx := HN6.out.on (mle_step fun q hq hs => by
      simp at hs
      exact ⟨hs.2, stB_but.block q hq hs.1⟩)
    have HN7 : Hid _ := hN7
    clear hN7 T5 T6 T7 HR6 HN6
    go_wp2
    obtain ⟨W6, HW6⟩ : ∃ W6, Hid (stB w6 w.heap.size (.mk k m u g o at_ d ks) hx = W6) := ⟨_, rfl⟩
    rw [HW6.out] at R7 hB7 HN7
    have hw6 := HW6.out
    simp only [stB] at hw6
    rw [hw6]
    obtain ⟨r0, r1, r2, r3, r4, r5, r6, r7⟩ := R7.1
    refine bodyPost_ret (v := .tuple #[ndV (.mk k m u g o at_ d ks) hx, .int .i64 ly, .bool true]) (by simp [results, Try.results29, go_sem, ndV, r0, r1, r2, r3, r4, r5, r6, r7]) rfl ⟨?_, hB7⟩
    obtain ⟨r, e⟩ := HL.out
    rw [e]
    exact ⟨hx, rfl, HN7.out⟩
end Go.Proofs.Ytkkhfnkmfkdhiab
