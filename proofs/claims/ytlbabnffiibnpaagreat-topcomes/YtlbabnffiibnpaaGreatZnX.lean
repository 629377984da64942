/-
  WHAT Put OF PACKAGE tree DOES, some blocks hidden: the walk.
  THE DOCUMENT's Up: the walk.
  WHAT COMES UP IS SEEN AS IT WAS: the facts of no program.
  Up, AS WHAT IS SEEN BEHIND IT: the facts of no program.
  A NODE WITHOUT KIDS IN ITS OWN MEMORY; WHAT IS MADE OF A NODE: the walks.
  A NODE WITHOUT KIDS IN ITS OWN MEMORY: the walk.
-/
import Derived.Test.YtlbabnffiibnpaaGreatUbX
import Derived.Test.YtlbabnffiibnpaaGreatMiX
import Derived.Test.YtlbabnffiibnpaaGreatWoX
import Derived.Test.YtlbabnffiibnpaaGreatNnX
import Derived.Test.YtlbabnffiibnpaaGreatWaY
import Derived.Test.YtlbabnffiibnpaaGreatApX
import Derived.Deep.RegionHeld3
import Derived.Deep.RegionLaw
import Derived.Deep.Cut
import Derived.Deep.CutRange
namespace Go.Proofs.YtlbabnffiibnpaaGreat
open Go.RowKit
set_option maxRecDepth 100000 in
set_option maxHeartbeats 2000000 in
theorem tputS_any {W : World} {S : Nat → Bool} (hS0 : ∀ k, S k = true → k < W.heap.size) {x0 : Nd} {h : Hd} (hN : NdV (offS W.cell? S) x0 h) (a : Option Addr) (cl : Nat) (l : List ByteArray) (hSt : Strs W.cell? a l) (hll : l.length ≤ 1000) (hcl : l.length ≤ cl ∧ cl ≤ 9223372036854775807) (hcnt : cnt x0 ≤ 800) (xp : Nd) (hx : Hd) (hXN : NdV (offS W.cell? S) xp hx) (hres : ∀ r, chgF (some xp) l x0 = .ok r → Lim r ∧ cnt r ≤ 1000) :
    Calls Tryz.prog 16 #[ndV x0 h, .slice a l.length cl, ndV xp hx] W fun e W' => NdE W W' S e (chgF (some xp) l x0) := by
  obtain ⟨RR, HRR⟩ : ∃ RR, Hid (chgF (some xp) l x0 = RR) := ⟨_, rfl⟩
  obtain ⟨kx, mx, ux, gx, ox, atx, dx, ksx⟩ := xp
  obtain ⟨k, m, u, g, o, at_, d, ks⟩ := x0
  have B0 := NBw.new W k m u g o at_ d ks h
  have hB0 : Below W.heap.size W (W.alloc (.cells #[.int .i64 k, .int .i64 m, .int .i64 u, .int .i64 g, .bool o, .slice h.aa at_.length h.ca, .string d, .slice h.ak ks.length h.ck] 34)) := (Below.refl _ _).alloc (Nat.le_refl _) _
  have X0 := NBw.new (W.alloc (.cells #[.int .i64 k, .int .i64 m, .int .i64 u, .int .i64 g, .bool o, .slice h.aa at_.length h.ca, .string d, .slice h.ak ks.length h.ck] 34)) kx mx ux gx ox atx dx ksx hx
  rw [World.size_alloc] at X0
  have hBx : Below W.heap.size W ((W.alloc (.cells #[.int .i64 k, .int .i64 m, .int .i64 u, .int .i64 g, .bool o, .slice h.aa at_.length h.ca, .string d, .slice h.ak ks.length h.ck] 34)).alloc (.cells #[.int .i64 kx, .int .i64 mx, .int .i64 ux, .int .i64 gx, .bool ox, .slice hx.aa atx.length hx.ca, .string dx, .slice hx.ak ksx.length hx.ck] 34)) := hB0.alloc hB0.size _
  have R1 := NBw.zero ((W.alloc (.cells #[.int .i64 k, .int .i64 m, .int .i64 u, .int .i64 g, .bool o, .slice h.aa at_.length h.ca, .string d, .slice h.ak ks.length h.ck] 34)).alloc (.cells #[.int .i64 kx, .int .i64 mx, .int .i64 ux, .int .i64 gx, .bool ox, .slice hx.aa atx.length hx.ca, .string dx, .slice hx.ak ksx.length hx.ck] 34))
  rw [World.size_alloc, World.size_alloc] at R1
  have q1 := (Below.refl _ (W.alloc (.cells #[.int .i64 k, .int .i64 m, .int .i64 u, .int .i64 g, .bool o, .slice h.aa at_.length h.ca, .string d, .slice h.ak ks.length h.ck] 34))).alloc (Nat.le_refl _) (.cells #[.int .i64 kx, .int .i64 mx, .int .i64 ux, .int .i64 gx, .bool ox, .slice hx.aa atx.length hx.ca, .string dx, .slice hx.ak ksx.length hx.ck] 34)
  have q2 := (Below.refl _ ((W.alloc (.cells #[.int .i64 k, .int .i64 m, .int .i64 u, .int .i64 g, .bool o, .slice h.aa at_.length h.ca, .string d, .slice h.ak ks.length h.ck] 34)).alloc (.cells #[.int .i64 kx, .int .i64 mx, .int .i64 ux, .int .i64 gx, .bool ox, .slice hx.aa atx.length hx.ca, .string dx, .slice hx.ak ksx.length hx.ck] 34))).alloc (Nat.le_refl _) (.cells #[.int .i64 0, .int .i64 0, .int .i64 0, .int .i64 0, .bool false, .slice none 0 0, .string ⟨#[]⟩, .slice none 0 0] 34)
  have B1 := (B0.below q1).below q2
  have X1 := X0.below q2
  have hB1 : Below W.heap.size W (((W.alloc (.cells #[.int .i64 k, .int .i64 m, .int .i64 u, .int .i64 g, .bool o, .slice h.aa at_.length h.ca, .string d, .slice h.ak ks.length h.ck] 34)).alloc (.cells #[.int .i64 kx, .int .i64 mx, .int .i64 ux, .int .i64 gx, .bool ox, .slice hx.aa atx.length hx.ca, .string dx, .slice hx.ak ksx.length hx.ck] 34)).alloc (.cells #[.int .i64 0, .int .i64 0, .int .i64 0, .int .i64 0, .bool false, .slice none 0 0, .string ⟨#[]⟩, .slice none 0 0] 34)) := hBx.alloc hBx.size _
  have mle : MLe (offS W.cell? S) (offS (((W.alloc (.cells #[.int .i64 k, .int .i64 m, .int .i64 u, .int .i64 g, .bool o, .slice h.aa at_.length h.ca, .string d, .slice h.ak ks.length h.ck] 34)).alloc (.cells #[.int .i64 kx, .int .i64 mx, .int .i64 ux, .int .i64 gx, .bool ox, .slice hx.aa atx.length hx.ca, .string dx, .slice hx.ak ksx.length hx.ck] 34)).alloc (.cells #[.int .i64 0, .int .i64 0, .int .i64 0, .int .i64 0, .bool false, .slice none 0 0, .string ⟨#[]⟩, .slice none 0 0] 34)).cell? (orS S (W.heap.size + 1 + 1))) := mle_step fun k hk hs => ⟨by simp [orS, hs]; omega, hB1.block k hk⟩
  have hC : Calls Tryz.prog 30 #[ndV (.mk k m u g o at_ d ks) h, .slice a l.length cl, .func (.func 31) #[] #[.pointer (some ⟨W.heap.size + 1, 0, none⟩)]] (((W.alloc (.cells #[.int .i64 k, .int .i64 m, .int .i64 u, .int .i64 g, .bool o, .slice h.aa at_.length h.ca, .string d, .slice h.ak ks.length h.ck] 34)).alloc (.cells #[.int .i64 kx, .int .i64 mx, .int .i64 ux, .int .i64 gx, .bool ox, .slice hx.aa atx.length hx.ca, .string dx, .slice hx.ak ksx.length hx.ck] 34)).alloc (.cells #[.int .i64 0, .int .i64 0, .int .i64 0, .int .i64 0, .bool false, .slice none 0 0, .string ⟨#[]⟩, .slice none 0 0] 34)) fun e W' => NdE (((W.alloc (.cells #[.int .i64 k, .int .i64 m, .int .i64 u, .int .i64 g, .bool o, .slice h.aa at_.length h.ca, .string d, .slice h.ak ks.length h.ck] 34)).alloc (.cells #[.int .i64 kx, .int .i64 mx, .int .i64 ux, .int .i64 gx, .bool ox, .slice hx.aa atx.length hx.ca, .string dx, .slice hx.ak ksx.length hx.ck] 34)).alloc (.cells #[.int .i64 0, .int .i64 0, .int .i64 0, .int .i64 0, .bool false, .slice none 0 0, .string ⟨#[]⟩, .slice none 0 0] 34)) W' (orS S (W.heap.size + 1 + 1)) e RR := by
    rw [← HRR.out]
    exact changePut_any (S := orS S (W.heap.size + 1 + 1)) (fun q hq => by simp only [orS, Bool.or_eq_true, beq_iff_eq] at hq; rcases hq with hq | hq; (rw [hq]; exact R1.1.lt); (have h1 := hS0 q hq; have h2 := hB1.size; omega)) (hN.on mle) a cl l (hSt.on (mle_below hB1)) hll hcl hcnt (W.heap.size + 1) (.mk kx mx ux gx ox atx dx ksx) hx X1.1 (hXN.on mle) hres
  have HC : Hid _ := hC
  rw [HRR.out]
  show Calls Tryz.prog 16 #[.agg #[.int .i64 k, .int .i64 m, .int .i64 u, .int .i64 g, .bool o, .slice h.aa at_.length h.ca, .string d, .slice h.ak ks.length h.ck], .slice a l.length cl, .agg #[.int .i64 kx, .int .i64 mx, .int .i64 ux, .int .i64 gx, .bool ox, .slice hx.aa atx.length hx.ca, .string dx, .slice hx.ak ksx.length hx.ck]] _ _
  obtain ⟨⟨y0, y1, y2, y3, y4, y5, y6, y7⟩, y8⟩ := id B1
  clear hC hres mle hSt hN
  go_enter Tryz.func16, Tryz.ntmps16
  go_wp2_with fail
  refine Calls.mono HC.out ?_
  rintro e w2 ⟨⟨h', rfl, hN2⟩, b2⟩
  have R2 := R1.below b2
  have hB2 := hB1.trans (b2.mono hB1.size)
  clear y0 y1 y2 y3 y4 y5 y6 y7 y8 HC B0 B1 R1 hB0 hB1 b2 q2 X0 X1 hBx q1 hXN
  generalize hrb : (W.heap.size + 1 + 1) = rb at R2 hN2 ⊢
  generalize hr : xNd RR = r at hN2 ⊢
  have HXN : Hid (xNd RR = r) := hr
  clear hr
  obtain ⟨k2, m2, u2, g2, o2, at2, d2, ks2⟩ := r
  have R7 := R2.store (.mk k2 m2 u2 g2 o2 at2 d2 ks2) h'
  have b7 : But rb w2 (stB w2 rb (.mk k2 m2 u2 g2 o2 at2 d2 ks2) h') := stB_but
  have hB7 := hB2.trans (b7.below (B := W.heap.size) (by omega) hB2.size)
  have step : MLe (offS w2.cell? (orS S rb)) (offS (stB w2 rb (.mk k2 m2 u2 g2 o2 at2 d2 ks2) h').cell? S) := mle_step fun q hq hs => by simp only [orS, Bool.or_eq_false_iff, beq_eq_false_iff_ne] at hs; exact ⟨hs.2, b7.block q hq hs.1⟩
  have hN7 := hN2.on step
  generalize hw7 : stB w2 rb (.mk k2 m2 u2 g2 o2 at2 d2 ks2) h' = w7 at R7 hB7 hN7
  have HW7 : Hid (stB w2 rb (.mk k2 m2 u2 g2 o2 at2 d2 ks2) h' = w7) := hw7
  have ev : ndV (.mk k2 m2 u2 g2 o2 at2 d2 ks2) h' = .agg #[.int .i64 k2, .int .i64 m2, .int .i64 u2, .int .i64 g2, .bool o2, .slice h'.aa at2.length h'.ca, .string d2, .slice h'.ak ks2.length h'.ck] := rfl
  rw [ev]
  obtain ⟨⟨z0, z1, z2, z3, z4, z5, z6, z7⟩, z8⟩ := id R2
  clear hw7 step b7 hN2 ev
  generalize hev : errV (xErr RR) = ev
  have HEV : Hid (errV (xErr RR) = ev) := hev
  clear hev
  go_wp2
  have hw7 := HW7.out
  simp only [stB] at hw7
  rw [hw7]
  obtain ⟨r0, r1, r2, r3, r4, r5, r6, r7⟩ := R7.1
  refine bodyPost_ret (v := .tuple #[ndV (.mk k2 m2 u2 g2 o2 at2 d2 ks2) h', ev]) (by simp [results, Tryz.results16, go_sem, ndV, r0, r1, r2, r3, r4, r5, r6, r7]) rfl ⟨⟨h', by rw [HXN.out, HEV.out], by rw [HXN.out]; exact hN7⟩, hB7⟩
end Go.Proofs.YtlbabnffiibnpaaGreat
namespace Go.Proofs.YtlbabnffiibnpaaGreat
open Go.RowKit
def UpR (us gs : List Rg) (xs : List Nd) (names : List ByteArray) (U : Nd) : Except Int Nd := if stackP xs names = [] then .error 5 else upN us gs xs names U names.length
theorem nZ (c : Mem) : NdV c zN zH := ndV_iff.2 ⟨.inl rfl, ⟨Nat.le_refl _, by decide⟩, ⟨Nat.le_refl _, by decide⟩, .inl rfl⟩
theorem two_up (W A B : World) (ua ga : Option Addr) (nu ng uc gc : Nat) (hA : A = W.alloc (.cells #[.slice ua nu uc, .slice ga ng gc] 25)) (hB : B = A.alloc (.cells #[.int .i64 0, .int .i64 0, .int .i64 0, .int .i64 0, .bool false, .slice none 0 0, .string ⟨#[]⟩, .slice none 0 0] 34)) :
    B.cell? ⟨W.heap.size, 0, none⟩ = some (.slice ua nu uc) ∧ B.cell? ⟨W.heap.size, 1, none⟩ = some (.slice ga ng gc) ∧ NBw B (W.heap.size + 1) zN zH ∧ Below W.heap.size W B ∧ B.heap.size = W.heap.size + 1 + 1 := by
  have s1 : A.heap.size = W.heap.size + 1 := by rw [hA, World.size_alloc]
  have s2 : B.heap.size = W.heap.size + 1 + 1 := by rw [hB, World.size_alloc, s1]
  have bA : Below W.heap.size W A := by rw [hA]; exact (Below.refl _ _).alloc (Nat.le_refl _) _
  have bB : Below A.heap.size A B := by rw [hB]; exact (Below.refl _ _).alloc (Nat.le_refl _) _
  have c0 : A.cell? ⟨W.heap.size, 0, none⟩ = some (.slice ua nu uc) := by rw [hA]; exact World.cell?_alloc_at _ _ _ _ rfl
  have c1 : A.cell? ⟨W.heap.size, 1, none⟩ = some (.slice ga ng gc) := by rw [hA]; exact World.cell?_alloc_at _ _ _ _ rfl
  have nB := NBw.zero A
  rw [← hB, s1] at nB
  exact ⟨mle_below bB _ _ c0, mle_below bB _ _ c1, nB, bA.trans (bB.mono bA.size), s2⟩
theorem alloc_bel (w : World) (o : Obj) : Below w.heap.size w (w.alloc o) := (Below.refl _ _).alloc (Nat.le_refl _) _
end Go.Proofs.YtlbabnffiibnpaaGreat
namespace Go.Proofs.YtlbabnffiibnpaaGreat
open Go.RowKit
def Dj (q r : Rg) : Prop := (q.i + q.n ≤ r.i ∨ r.i + r.n ≤ q.i) ∧ (q.o + q.n ≤ r.o ∨ r.o + r.n ≤ q.o)
theorem Dj.symm {q r : Rg} (h : Dj q r) : Dj r q := by unfold Dj at *; omega
theorem meetR_dj (p r : Rg) : meetR p r = false ↔ Dj p r := by
  unfold meetR meetB Dj
  rw [Bool.or_eq_false_iff, decide_eq_false_iff_not, decide_eq_false_iff_not]
  omega
theorem dj_of_mapF {L : List Rg} (h : mapF L = 0) : L.Pairwise Dj := by
  rw [List.pairwise_iff_getElem]
  intro i j hi hj hij
  have hs := (mapF_zero h).2 j hj
  have hr : L[j]? = some L[j] := List.getElem?_eq_getElem hj
  have hb := bnd_of_step hr hs
  have hm : (L.take j).any (fun p => meetR p L[j]) = false := by
    by_cases e : (L.take j).any (fun p => meetR p L[j]) = true
    · rw [stepM_meet hr hb e] at hs; omega
    · simpa using e
  rw [List.any_eq_false] at hm
  have := hm L[i] (by rw [List.mem_take_iff_getElem]; exact ⟨i, by omega, rfl⟩)
  exact (meetR_dj _ _).1 (by simpa using this)
theorem pair_mem {α : Type} {R : α → α → Prop} (hs : ∀ a b, R a b → R b a) {l : List α} (h : l.Pairwise R) : ∀ a ∈ l, ∀ b ∈ l, a = b ∨ R a b := by
  induction h with
  | nil => intro a ha; cases ha
  | cons hx _ ih =>
    intro a ha b hb
    rcases List.mem_cons.1 ha with ea | ha2
    · rcases List.mem_cons.1 hb with eb | hb2
      · exact .inl (ea.trans eb.symm)
      · rw [ea]; exact .inr (hx b hb2)
    · rcases List.mem_cons.1 hb with eb | hb2
      · rw [eb]; exact .inr (hs _ _ (hx a ha2))
      · exact ih a ha2 b hb2
theorem walk_mem {fr tg : Rg → Int} {x y : Int} : ∀ {L : List Rg}, walkM fr tg L x = some y → ∃ r ∈ L, fr r ≤ x ∧ x - fr r < r.n ∧ y = tg r + x - fr r
  | [], h => by cases h
  | r :: l, h => by
    by_cases e : fr r ≤ x ∧ x - fr r < r.n
    · rw [walkM_hit e.1 e.2] at h; cases h; exact ⟨r, by simp, e.1, e.2, rfl⟩
    · rw [walkM_miss e] at h
      obtain ⟨q, hq, hh⟩ := walk_mem h
      exact ⟨q, by simp [hq], hh⟩
theorem walk_of {fr tg : Rg → Int} {x : Int} : ∀ {L : List Rg}, (∀ r ∈ L, ∀ q ∈ L, (fr r ≤ x ∧ x - fr r < r.n) → (fr q ≤ x ∧ x - fr q < q.n) → r = q) → ∀ r ∈ L, fr r ≤ x → x - fr r < r.n → walkM fr tg L x = some (tg r + x - fr r)
  | [], _, r, hr, _, _ => by cases hr
  | p :: l, hd, r, hr, h1, h2 => by
    by_cases e : fr p ≤ x ∧ x - fr p < p.n
    · have := hd p (by simp) r hr e ⟨h1, h2⟩
      subst this
      exact walkM_hit h1 h2
    · rw [walkM_miss e]
      rcases List.mem_cons.1 hr with rfl | hr
      · exact absurd ⟨h1, h2⟩ e
      · exact walk_of (fun a ha b hb => hd a (by simp [ha]) b (by simp [hb])) r hr h1 h2
theorem to_from {L : List Rg} {x y : Int} (h : toM L x = some y) : fromM L y = some x := by
  unfold toM at h
  unfold fromM
  by_cases hm : mapF L = 0
  · rw [if_pos hm] at h ⊢
    obtain ⟨r, hr, h1, h2, rfl⟩ := walk_mem h
    have hd := pair_mem (fun _ _ => Dj.symm) (dj_of_mapF hm)
    have h3 := walk_of (fr := (·.o)) (tg := (·.i)) (x := r.o + x - r.i) (L := L) (fun a ha b hb ea eb => by
      rcases hd a ha b hb with e | e
      · exact e
      · unfold Dj at e; omega) r hr (by omega) (by omega)
    rw [h3]; congr 1; omega
  · rw [if_neg hm] at h; cases h
/-- What went out comes back. -/
theorem mv_back {us gs : List Rg} {x y : Nd} (h : mvF true us gs x = some y) : mvF false us gs y = some x := by
  obtain ⟨k, m, u, g, o, at_, d, ks⟩ := x
  rw [mvF] at h
  simp only [if_true] at h
  split at h
  · rename_i u' g' e1 e2
    cases h
    rw [mvF]
    have h1 := to_from e1
    have h2 := to_from e2
    simp only [Bool.false_eq_true, if_false, h1, h2]
  · cases h
theorem bare_nak (x : Nd) : bareN x = nakN x := by obtain ⟨k, m, u, g, o, at_, d, ks⟩ := x; rfl
theorem mv_opq {out : Bool} {us gs : List Rg} {x y : Nd} (h : mvF out us gs x = some y) : y.opq = x.opq := by
  obtain ⟨k, m, u, g, o, at_, d, ks⟩ := x
  rw [mvF] at h
  split at h
  · cases h; rfl
  · cases h
theorem nak_self {x : Nd} (h1 : x.opq = false) (h2 : x.kids = []) : nakN x = x := by
  obtain ⟨k, m, u, g, o, at_, d, ks⟩ := x
  have h1 : o = false := h1
  have h2 : ks = [] := h2
  subst h1 h2
  rfl
/-- Each node as it is within: the upper's ids are turned. -/
def fW (us gs : List Rg) : Nd → Nat → Nd := fun x ly => if 0 < ly then x else (mvF false us gs x).getD zN
theorem fW_up {us gs : List Rg} {q y : Nd} {ly : Nat} (hl : ly ≠ 0) (h : mvF true us gs (bareN q) = some y) : fW us gs (nakN y) 0 = fW us gs (nakN q) ly := by
  have h1 : y.opq = false := (mv_opq h).trans (by rw [bare_nak]; exact bareN_opq q)
  have h2 : y.kids = [] := (mv_keep h).2.trans (bare_kids q)
  unfold fW
  rw [if_neg (by omega), if_pos (by omega), nak_self h1 h2, mv_back h, bare_nak]
  rfl
theorem flatD_same {f : Nd → Nat → Nd} {a b : Fls} {q q' : Nd × Nat} {r r' : Fls} (ea : a = q :: r) (eb : b = q' :: r') (hq : f (nakN q.1) q.2 = f (nakN q'.1) q'.2) (h : ∀ nm, flatD f (nxt a nm) = flatD f (nxt b nm) ∧ (nxt a nm = [] ↔ nxt b nm = [])) : flatD f a = flatD f b := by
  have hl : listP a = listP b := rise_one (listP_rise _) (listP_rise _) fun nm => by rw [mem_listP, mem_listP, ne_eq, ne_eq, (h nm).2]
  rw [ea, eb, flatD_cons, flatD_cons, ← ea, ← eb, hl, hq]
  congr 2
  exact List.map_congr_left fun nm _ => by rw [(h nm).1]
theorem kidsP_cons2 (nm : ByteArray) (q : Nd × Nat) (l : Fls) : kidsP nm (q :: l) = (match kidO nm q.1 with | none => kidsP nm l | some y => (y, q.2) :: kidsP nm l) := by
  unfold kidsP
  rw [List.filterMap_cons]
  cases kidO nm q.1 <;> rfl
theorem kidO_dir {x : Nd} (h : x.kind = 2) (nm : ByteArray) : kidO nm x = fk nm x.kids := by rw [kidO_fk, if_neg (by simp [h])]
theorem kidO_empty {x : Nd} (h : x.kids = []) (nm : ByteArray) : kidO nm x = none := by
  rw [kidO_fk, h]
  split <;> rfl
theorem kidsP_low {nm : ByteArray} {l : Fls} (h : ∀ q ∈ l, q.2 ≠ 0) : ∀ q ∈ kidsP nm l, q.2 ≠ 0 := fun q hq => by
  obtain ⟨p, hp, e⟩ := List.mem_filterMap.1 hq
  obtain ⟨z, _, rfl⟩ := Option.map_eq_some_iff.1 e
  exact h p hp
theorem shP_low {l : Fls} (h : ∀ q ∈ l, q.2 ≠ 0) : ∀ q ∈ shP l, q.2 ≠ 0 := fun q hq => h q ((shP_sl l).subset hq)
theorem dirP_low {l : Fls} (h : ∀ q ∈ l, q.2 ≠ 0) : ∀ q ∈ dirP l, q.2 ≠ 0 := fun q hq => h q ((dirP_sl l).subset hq)
theorem nxt_file {q : Nd × Nat} (h : q.1.kind = 1) (nm : ByteArray) : nxt [q] nm = [] := by
  unfold nxt
  rw [kidsP_cons2, kidO_fk, if_pos (by rw [h]; decide)]
  rfl
/-- What comes up: names, what is seen (with what is below), the branch. -/
def Chain (us gs : List Rg) : List ByteArray → Fls → ByteArray → List (Nd × ByteArray) → Prop
  | [], s0, nm, L => ∃ q r y, shP s0 = q :: r ∧ mvF true us gs (bareN q.1) = some y ∧ L = [(y, nm)]
  | n :: ns, s0, nm, L => ∃ q r y L', shP s0 = q :: r ∧ mvF true us gs (bareN q.1) = some y ∧ Chain us gs ns (kidsP n (q :: r)) n L' ∧ L = (y, nm) :: L'
theorem chain_head {us gs : List Rg} {nm : ByteArray} {L : List (Nd × ByteArray)} : ∀ {ns : List ByteArray} {s0 : Fls}, Chain us gs ns s0 nm L → shP s0 ≠ [] ∧ ∃ y L', L = (y, nm) :: L'
  | [], s0, h => by
    obtain ⟨q, r, y, h1, _, h3⟩ := h
    exact ⟨by rw [h1]; simp, y, [], h3⟩
  | n :: ns, s0, h => by
    obtain ⟨q, r, y, L', h1, _, _, h3⟩ := h
    exact ⟨by rw [h1]; simp, y, L', h3⟩
/-- A branch over what it came from. -/
theorem chain_over {us gs : List Rg} : ∀ (ns : List ByteArray) (s0 : Fls) (nm : ByteArray) (L : List (Nd × ByteArray)), (∀ q ∈ s0, q.2 ≠ 0) → Chain us gs ns s0 nm L →
    flatD (fW us gs) (shP ((chainF L, 0) :: s0)) = flatD (fW us gs) (shP s0) ∧ shP ((chainF L, 0) :: s0) ≠ [] ∧ ∃ z r, ns.foldl nxt (shP ((chainF L, 0) :: s0)) = (z, 0) :: r
  | [], s0, nm, L, hlow, h => by
    obtain ⟨q, r, y, h1, h2, rfl⟩ := h
    show flatD (fW us gs) (shP ((y, 0) :: s0)) = _ ∧ shP ((y, 0) :: s0) ≠ [] ∧ ∃ z r, shP ((y, 0) :: s0) = (z, 0) :: r
    have hyk : y.kind = q.1.kind := (mv_keep h2).1.trans (bare_kind _)
    have hyo : y.opq = false := (mv_opq h2).trans (by rw [bare_nak]; exact bareN_opq q.1)
    have hys : y.kids = [] := (mv_keep h2).2.trans (bare_kids q.1)
    obtain ⟨⟨t, rfl⟩, hk⟩ := shP_head h1
    have hq0 : q.2 ≠ 0 := hlow q (List.mem_cons_self ..)
    have hfw := fW_up (us := us) (gs := gs) hq0 h2
    rcases hk with hk | ⟨hk, rfl⟩
    · have e1 : dirP (q :: t) = q :: r := by rw [shP, if_neg (by rw [hk]; decide)] at h1; exact h1
      have e : shP ((y, 0) :: q :: t) = (y, 0) :: q :: r := by
        rw [shP, if_neg (by simp only [hyk, hk]; decide), dirP, if_neg (by simp [hyk, hk]), if_neg (by simp [hyo]), e1]
      rw [e, h1]
      refine ⟨flatD_same rfl rfl hfw fun n => ?_, by simp, y, q :: r, rfl⟩
      have : nxt ((y, 0) :: q :: r) n = nxt (q :: r) n := by
        unfold nxt
        rw [kidsP_cons2, kidO_empty hys]
      rw [this]
      exact ⟨rfl, Iff.rfl⟩
    · have e : shP ((y, 0) :: q :: t) = [(y, 0)] := by rw [shP, if_pos (hyk.trans hk)]
      rw [e, h1]
      refine ⟨flatD_same rfl rfl hfw fun n => ?_, by simp, y, [], rfl⟩
      rw [nxt_file (hyk.trans hk), nxt_file hk]
      exact ⟨rfl, Iff.rfl⟩
  | n :: ns, s0, nm, L, hlow, h => by
    obtain ⟨q, r, y, L', h1, h2, h3, rfl⟩ := h
    obtain ⟨hs3, y1, L1, rfl⟩ := chain_head h3
    show flatD (fW us gs) (shP ((y.with [(n, chainF ((y1, n) :: L1))], 0) :: s0)) = _ ∧ shP ((y.with [(n, chainF ((y1, n) :: L1))], 0) :: s0) ≠ [] ∧ ∃ z r, ns.foldl nxt (nxt (shP ((y.with [(n, chainF ((y1, n) :: L1))], 0) :: s0)) n) = (z, 0) :: r
    generalize hC : chainF ((y1, n) :: L1) = C
    have hyk : y.kind = q.1.kind := (mv_keep h2).1.trans (bare_kind _)
    have hyo : y.opq = false := (mv_opq h2).trans (by rw [bare_nak]; exact bareN_opq q.1)
    obtain ⟨⟨t, rfl⟩, hk⟩ := shP_head h1
    have hq0 : q.2 ≠ 0 := hlow q (List.mem_cons_self ..)
    have hfw := fW_up (us := us) (gs := gs) hq0 h2
    have hk2 : q.1.kind = 2 := by
      rcases hk with hk | ⟨hk, rfl⟩
      · exact hk
      · exfalso
        exact hs3 (nxt_file hk n)
    have hlow2 : ∀ p ∈ kidsP n (q :: r), p.2 ≠ 0 := kidsP_low (by rw [← h1]; exact shP_low hlow)
    obtain ⟨i1, i2, z, rz, i3⟩ := chain_over ns (kidsP n (q :: r)) n ((y1, n) :: L1) hlow2 h3
    rw [hC] at i1 i2 i3
    have e1 : dirP (q :: t) = q :: r := by rw [shP, if_neg (by rw [hk2]; decide)] at h1; exact h1
    have hBk : (y.with [(n, C)]).kind = 2 := by rw [with_kind, hyk, hk2]
    have e : shP ((y.with [(n, C)], 0) :: q :: t) = (y.with [(n, C)], 0) :: q :: r := by
      rw [shP, if_neg (by simp only [hBk]; decide), dirP, if_neg (by simp [hBk]), if_neg (by simp [with_opq, hyo]), e1]
    have hn : nxt ((y.with [(n, C)], 0) :: q :: r) n = shP ((C, 0) :: kidsP n (q :: r)) := by
      unfold nxt
      rw [kidsP_cons2, kidO_dir hBk, with_kids]
      simp [fk]
    rw [e, h1, hn]
    refine ⟨flatD_same rfl rfl (by show fW us gs (nakN (y.with [(n, C)])) 0 = _; rw [bareN_with]; exact hfw) fun m => ?_, by simp, z, rz, i3⟩
    by_cases hm : m = n
    · subst hm
      rw [hn]
      exact ⟨i1, ⟨fun e => absurd e i2, fun e => absurd e hs3⟩⟩
    · have : nxt ((y.with [(n, C)], 0) :: q :: r) m = nxt (q :: r) m := by
        unfold nxt
        rw [kidsP_cons2, kidO_dir hBk, with_kids]
        simp [fk, Ne.symm hm]
      rw [this]
      exact ⟨rfl, Iff.rfl⟩
/-- The way along names, the upper's as far as it has them, then the branch. -/
def tlP (x : Nd) (t : Fls) : Fls := if x.opq = true then [] else dirP t
def LowP (us gs : List Rg) (ns : List ByteArray) (L : List (Nd × ByteArray)) : List ByteArray → Nd → Fls → Prop
  | [], _, _ => False
  | [m], x, t => x.kind = 2 ∧ fk m x.kids = none ∧ Chain us gs ns (kidsP m (tlP x t)) m L
  | m :: m' :: N, x, t => x.kind = 2 ∧ ∃ y, fk m x.kids = some y ∧ (y.kind = 1 ∨ y.kind = 2) ∧ LowP us gs ns L (m' :: N) y (kidsP m (tlP x t))
theorem shP_dir {x : Nd} (h : x.kind = 2) (t : Fls) : shP ((x, 0) :: t) = (x, 0) :: tlP x t := by
  rw [shP, if_neg (by simp only [h]; decide), dirP, if_neg (by simp [h])]
  unfold tlP
  split <;> rfl
theorem tl_low {x : Nd} {t : Fls} (h : ∀ q ∈ t, q.2 ≠ 0) : ∀ q ∈ tlP x t, q.2 ≠ 0 := by
  unfold tlP
  split
  · intro q hq; cases hq
  · exact dirP_low h
theorem fW_with (us gs : List Rg) (x : Nd) (ks : Kds) : fW us gs (nakN (x.with ks)) 0 = fW us gs (nakN x) 0 := by rw [bareN_with]
/-- What is put there is seen as it was. -/
theorem low_put {us gs : List Rg} {ns : List ByteArray} {L : List (Nd × ByteArray)} : ∀ (N : List ByteArray) (x : Nd) (t : Fls) (V : Nd), (∀ q ∈ t, q.2 ≠ 0) → LowP us gs ns L N x t → chgF (some (chainF L)) N x = .ok V →
    flatD (fW us gs) (shP ((V, 0) :: t)) = flatD (fW us gs) (shP ((x, 0) :: t)) ∧ V.kind = 2 ∧ x.kind = 2 ∧ ∃ z r, (N ++ ns).foldl nxt (shP ((V, 0) :: t)) = (z, 0) :: r
  | [], x, t, V, _, h, _ => h.elim
  | [m], x, t, V, hlow, h, hc => by
    obtain ⟨hk, hf, hch⟩ := h
    rw [chg_one, if_neg (by simp [hk])] at hc
    simp only [lastG] at hc
    split at hc
    · cases hc
    try rw [if_pos hf] at hc
    have hc : Except.ok (x.with (insk m (chainF L) x.kids)) = Except.ok V := hc
    injection hc with hc
    subst hc
    generalize hC : chainF L = C at *
    have hVk : (x.with (insk m C x.kids)).kind = 2 := by rw [with_kind, hk]
    have htl : tlP (x.with (insk m C x.kids)) t = tlP x t := by unfold tlP; rw [with_opq]
    obtain ⟨i1, i2, z, rz, i3⟩ := chain_over ns (kidsP m (tlP x t)) m L (kidsP_low (tl_low hlow)) hch
    rw [hC] at i1 i2 i3
    have hn : nxt ((x.with (insk m C x.kids), 0) :: tlP x t) m = shP ((C, 0) :: kidsP m (tlP x t)) := by
      unfold nxt
      rw [kidsP_cons2, kidO_dir hVk, with_kids, fk_ins hf]
    have ho : nxt ((x, 0) :: tlP x t) m = shP (kidsP m (tlP x t)) := by
      unfold nxt
      rw [kidsP_cons2, kidO_dir hk, hf]
    rw [shP_dir hVk, shP_dir hk, htl]
    refine ⟨flatD_same rfl rfl (fW_with us gs x _) fun n => ?_, hVk, hk, z, rz, ?_⟩
    · by_cases hm : n = m
      · subst hm
        rw [hn, ho]
        exact ⟨i1, ⟨fun e => absurd e i2, fun e => absurd e (chain_head hch).1⟩⟩
      · have : nxt ((x.with (insk m C x.kids), 0) :: tlP x t) n = nxt ((x, 0) :: tlP x t) n := by
          unfold nxt
          rw [kidsP_cons2, kidsP_cons2, kidO_dir hVk, kidO_dir hk, with_kids, fk_ins_ne hm]
        rw [this]
        exact ⟨rfl, Iff.rfl⟩
    · show ns.foldl nxt (nxt _ m) = _
      rw [hn]; exact i3
  | m :: m' :: N, x, t, V, hlow, h, hc => by
    obtain ⟨hk, y, hf, hyk, hl⟩ := h
    rw [chg_fk, if_neg (by simp [hk]), hf] at hc
    dsimp only at hc
    cases hz : chgF (some (chainF L)) (m' :: N) y with
    | error f => rw [hz] at hc; cases hc
    | ok z =>
      rw [hz] at hc
      have hc : Except.ok (x.with (setk m z x.kids)) = Except.ok V := hc
      injection hc with hc
      subst hc
      obtain ⟨i1, i2, i3, w, rw', i4⟩ := low_put (m' :: N) y (kidsP m (tlP x t)) z (kidsP_low (tl_low hlow)) hl hz
      have hVk : (x.with (setk m z x.kids)).kind = 2 := by rw [with_kind, hk]
      have htl : tlP (x.with (setk m z x.kids)) t = tlP x t := by unfold tlP; rw [with_opq]
      have hn : nxt ((x.with (setk m z x.kids), 0) :: tlP x t) m = shP ((z, 0) :: kidsP m (tlP x t)) := by
        unfold nxt
        rw [kidsP_cons2, kidO_dir hVk, with_kids, fk_set (by rw [hf]; simp)]
      have ho : nxt ((x, 0) :: tlP x t) m = shP ((y, 0) :: kidsP m (tlP x t)) := by
        unfold nxt
        rw [kidsP_cons2, kidO_dir hk, hf]
      rw [shP_dir hVk, shP_dir hk, htl]
      refine ⟨flatD_same rfl rfl (fW_with us gs x _) fun n => ?_, hVk, hk, w, rw', ?_⟩
      · by_cases hm : n = m
        · subst hm
          rw [hn, ho]
          refine ⟨i1, ?_⟩
          rw [shP_dir i2, shP_dir i3]
          simp
        · have : nxt ((x.with (setk m z x.kids), 0) :: tlP x t) n = nxt ((x, 0) :: tlP x t) n := by
            unfold nxt
            rw [kidsP_cons2, kidsP_cons2, kidO_dir hVk, kidO_dir hk, with_kids, fk_set_ne hm]
          rw [this]
          exact ⟨rfl, Iff.rfl⟩
      · show (m' :: N ++ ns).foldl nxt (nxt _ m) = _
        rw [hn]; exact i4
end Go.Proofs.YtlbabnffiibnpaaGreat
namespace Go.Proofs.YtlbabnffiibnpaaGreat
open Go.RowKit
/-- A tree that may be, of whatever depth. -/
def VV (x : Nd) : Prop := ∃ up deep, Val up deep x
theorem valL_fk2 {up : Bool} {deep : Nat} {m : ByteArray} {y : Nd} : ∀ {p : Option ByteArray} {ks : Kds}, ValL up deep p ks → fk m ks = some y → nameB m = true ∧ Val up deep y
  | _, [], _, h => by cases h
  | p, (n, x) :: l, hv, h => by
    rw [ValL] at hv
    rw [fk] at h
    split at h
    · rename_i e
      cases h
      rw [← e]
      exact ⟨hv.1, hv.2.2.1⟩
    · exact valL_fk2 hv.2.2.2 h
theorem VV.kid {x y : Nd} {m : ByteArray} (h : VV x) (hf : fk m x.kids = some y) : nameB m = true ∧ VV y := by
  obtain ⟨up, deep, hv⟩ := h
  obtain ⟨h1, h2⟩ := valL_fk2 (val_kids hv) hf
  exact ⟨h1, up, deep + 1, h2⟩
theorem vv_kids {l : Fls} (h : ∀ q ∈ l, VV q.1) (nm : ByteArray) : ∀ q ∈ kidsP nm l, nameB nm = true ∧ VV q.1 := fun q hq => by
  obtain ⟨p, hp, e⟩ := List.mem_filterMap.1 hq
  obtain ⟨z, hz, rfl⟩ := Option.map_eq_some_iff.1 e
  rw [kidO_fk] at hz
  split at hz
  · cases hz
  · exact (h p hp).kid hz
theorem vv_stack {xs : List Nd} (h : ∀ x ∈ xs, VV x) : ∀ names : List ByteArray, ∀ q ∈ stackP xs names, VV q.1 := by
  intro names
  unfold stackP
  have h0 : ∀ q ∈ shP (layP xs), VV q.1 := fun q hq => by
    have := (shP_sl _).subset hq
    obtain ⟨i, hi⟩ := List.getElem?_of_mem this
    unfold layP at hi
    rw [List.getElem?_zipIdx] at hi
    obtain ⟨y, hy, rfl⟩ := Option.map_eq_some_iff.1 hi
    exact h y (List.mem_of_getElem? hy)
  generalize shP (layP xs) = l at h0
  induction names generalizing l with
  | nil => exact h0
  | cons nm names ih =>
    rw [List.foldl_cons]
    exact ih _ fun q hq => (vv_kids h0 nm q ((shP_sl _).subset hq)).2
theorem seen_name {xs : List Nd} (h : ∀ x ∈ xs, VV x) {names : List ByteArray} {H : Nat → Nd × Nat} (hs : Sees xs names H) {i : Nat} (hi : i < names.length) : nameB names[i] = true := by
  have e : names[i]? = some names[i] := List.getElem?_eq_getElem hi
  obtain ⟨r, hr⟩ := hs (i + 1) (by omega)
  rw [stackP_next e] at hr
  have : H (i + 1) ∈ kidsP names[i] (stackP xs (names.take i)) := (shP_sl _).subset (by rw [hr]; exact List.mem_cons_self ..)
  exact (vv_kids (vv_stack h _) _ _ this).1
theorem brF_map {us gs : List Rg} : ∀ {A L : List (Nd × ByteArray)}, brF us gs A = .ok L → (∀ p ∈ A, ∃ y, mvF true us gs p.1 = some y) ∧ L = A.map fun p => ((mvF true us gs p.1).getD zN, p.2)
  | [], L, h => by
    rw [brF] at h
    injection h with h
    subst h
    exact ⟨fun p hp => (by cases hp), rfl⟩
  | (x, m) :: r, L, h => by
    rw [brF] at h
    cases hm : mvF true us gs x with
    | none => rw [hm] at h; cases h
    | some y =>
      rw [hm] at h
      dsimp only at h
      split at h
      · cases h
      cases hr : brF us gs r with
      | error f => rw [hr] at h; cases h
      | ok L' =>
        rw [hr] at h
        dsimp only at h
        injection h with h
        subst h
        obtain ⟨h1, h2⟩ := brF_map hr
        refine ⟨fun p hp => ?_, ?_⟩
        · rcases List.mem_cons.1 hp with rfl | hp
          · exact ⟨y, hm⟩
          · exact h1 p hp
        · rw [List.map_cons, hm, ← h2]; rfl
theorem brF_err2 {us gs : List Rg} {f : Int} : ∀ {A : List (Nd × ByteArray)}, (∀ p ∈ A, nameB p.2 = true) → brF us gs A = .error f → f = 11
  | [], _, h => by rw [brF] at h; cases h
  | (x, m) :: r, hn, h => by
    rw [brF] at h
    cases hm : mvF true us gs x with
    | none => rw [hm] at h; injection h with h; exact h.symm
    | some y =>
      rw [hm] at h
      dsimp only at h
      rw [if_neg (by rw [hn (x, m) (List.mem_cons_self ..)]; decide)] at h
      cases hr : brF us gs r with
      | error f' =>
        rw [hr] at h
        injection h with h
        subst h
        exact brF_err2 (fun p hp => hn p (List.mem_cons_of_mem _ hp)) hr
      | ok L' => rw [hr] at h; cases h
/-- The branch from place j on. -/
def brT (us gs : List Rg) (H : Nat → Nd × Nat) (names : List ByteArray) (j d : Nat) : List (Nd × ByteArray) := (List.range' j d).map fun i => ((mvF true us gs (bareN (H i).1)).getD zN, names.getD (i - 1) ⟨#[]⟩)
theorem chain_sees {us gs : List Rg} {xs : List Nd} {names : List ByteArray} {H : Nat → Nd × Nat} (hs : Sees xs names H) : ∀ (d j : Nat) (s0 : Fls), 1 ≤ j → j + d = names.length → shP s0 = stackP xs (names.take j) → (∀ i, j ≤ i → i ≤ names.length → ∃ y, mvF true us gs (bareN (H i).1) = some y) →
    Chain us gs (names.drop j) s0 (names.getD (j - 1) ⟨#[]⟩) (brT us gs H names j (d + 1))
  | 0, j, s0, hj1, hj, he, hm => by
    rw [List.drop_eq_nil_of_le (by omega)]
    obtain ⟨r, hr⟩ := hs j (by omega)
    obtain ⟨y, hy⟩ := hm j (Nat.le_refl _) (by omega)
    refine ⟨H j, r, y, he.trans hr, hy, ?_⟩
    simp [brT, hy]
  | d + 1, j, s0, hj1, hj, he, hm => by
    have hlt : j < names.length := by omega
    have e : names[j]? = some names[j] := List.getElem?_eq_getElem hlt
    rw [List.drop_eq_getElem_cons hlt]
    obtain ⟨r, hr⟩ := hs j (by omega)
    obtain ⟨y, hy⟩ := hm j (Nat.le_refl _) (by omega)
    have ih := chain_sees (us := us) (gs := gs) hs d (j + 1) (kidsP names[j] (H j :: r)) (by omega) (by omega) (by rw [stackP_next e, hr]) (fun i h1 h2 => hm i (by omega) h2)
    rw [show j + 1 - 1 = j by omega, show names.getD j ⟨#[]⟩ = names[j] by simp [hlt]] at ih
    refine ⟨H j, r, y, brT us gs H names (j + 1) (d + 1), he.trans hr, hy, ih, ?_⟩
    unfold brT
    rw [show List.range' j (d + 1 + 1) = j :: List.range' (j + 1) (d + 1) from rfl, List.map_cons, hy]
    rfl
theorem low_sees {us gs : List Rg} {xs : List Nd} {names : List ByteArray} {H : Nat → Nd × Nat} (hs : Sees xs names H) {k : Nat} (hk : k < names.length) (hz : ∀ j, j ≤ k → (H j).2 = 0) (hn : (H (k + 1)).2 ≠ 0) (hm : ∀ i, k + 1 ≤ i → i ≤ names.length → ∃ y, mvF true us gs (bareN (H i).1) = some y) :
    ∀ (d i : Nat) (t : Fls), i + d = k → shP ((((H i).1, 0) :: t) : Fls) = stackP xs (names.take i) → LowP us gs (names.drop (k + 1)) (brT us gs H names (k + 1) (names.length - k)) ((names.take (k + 1)).drop i) (H i).1 t := by
  intro d
  induction d with
  | zero =>
    intro i t hi he
    have hik : i = k := by omega
    subst hik
    have e : names[i]? = some names[i] := List.getElem?_eq_getElem hk
    obtain ⟨h1, _, h3, _⟩ := sees_step hs e
    have ed : (names.take (i + 1)).drop i = [names[i]] := by
      rw [List.drop_take, show i + 1 - i = 1 by omega, List.drop_eq_getElem_cons hk]; rfl
    rw [ed]
    have h3 := h3 (hz i (Nat.le_refl _)) hn
    refine ⟨h1, h3, ?_⟩
    have hch := chain_sees (us := us) (gs := gs) hs (names.length - i - 1) (i + 1) (kidsP names[i] (tlP (H i).1 t)) (by omega) (by omega) (by
      rw [stackP_next e, ← he, shP_dir h1, kidsP_cons2, kidO_dir h1, h3]) hm
    rw [show i + 1 - 1 = i by omega, show names.getD i ⟨#[]⟩ = names[i] by simp [hk], show names.length - i - 1 + 1 = names.length - i by omega] at hch
    exact hch
  | succ d ih =>
    intro i t hi he
    have hlt : i < names.length := by omega
    have e : names[i]? = some names[i] := List.getElem?_eq_getElem hlt
    obtain ⟨h1, _, _, h4⟩ := sees_step hs e
    have h4 := h4 (hz i (by omega)) (hz (i + 1) (by omega))
    have hst : shP ((((H (i + 1)).1, 0) :: kidsP names[i] (tlP (H i).1 t)) : Fls) = stackP xs (names.take (i + 1)) := by
      rw [stackP_next e, ← he, shP_dir h1, kidsP_cons2, kidO_dir h1, h4]
    have h5 := ih (i + 1) _ (by omega) hst
    have ed : (names.take (k + 1)).drop i = names[i] :: (names.take (k + 1)).drop (i + 1) := by
      rw [List.drop_eq_getElem_cons (by rw [List.length_take]; omega)]
      simp
    have ed2 : (names.take (k + 1)).drop (i + 1) = names[i + 1]'(by omega) :: (names.take (k + 1)).drop (i + 1 + 1) := by
      rw [List.drop_eq_getElem_cons (by rw [List.length_take]; omega)]
      simp
    rw [ed, ed2]
    rw [ed2] at h5
    refine ⟨h1, (H (i + 1)).1, h4, ?_, h5⟩
    obtain ⟨r, hr⟩ := hs (i + 1) (by omega)
    rw [← hst] at hr
    rcases (shP_head hr).2 with q | q
    · exact .inr q
    · exact .inl q.1
/-- What is seen at each beginning. -/
theorem sees_of_stack {xs : List Nd} {names : List ByteArray} (h : stackP xs names ≠ []) : ∃ H, Sees xs names H := by
  have hall : ∀ i, i ≤ names.length → stackP xs (names.take i) ≠ [] := fun i hi e => by
    apply h
    have : stackP xs names = (names.drop i).foldl (fun l nm => shP (kidsP nm l)) (stackP xs (names.take i)) := by
      unfold stackP
      rw [← List.foldl_append, List.take_append_drop]
    rw [this, e]
    exact seen_nil _
  refine ⟨fun i => (stackP xs (names.take i)).headD (zN, 0), fun i hi => ?_⟩
  cases hc : stackP xs (names.take i) with
  | nil => exact absurd hc (hall i hi)
  | cons q r => exact ⟨r, by simp [hc]⟩
/-- What came up: seen as it was, and the upper's. -/
theorem up_seen {us gs : List Rg} {x0 : Nd} {rest : List Nd} {names : List ByteArray} (hv : ∀ x ∈ x0 :: rest, VV x) (hk : x0.kind = 2) :
    (∀ V, UpR us gs (x0 :: rest) names x0 = .ok V → flatD (fW us gs) (shP (layP (V :: rest))) = flatD (fW us gs) (shP (layP (x0 :: rest))) ∧ shP (layP (V :: rest)) ≠ [] ∧ ∃ z r, stackP (V :: rest) names = (z, 0) :: r) ∧
    (∀ f, UpR us gs (x0 :: rest) names x0 = .error f → f = 5 ∨ f = 11) := by
  unfold UpR
  by_cases hst : stackP (x0 :: rest) names = []
  · rw [if_pos hst]
    exact ⟨fun V h => (by cases h), fun f h => (by injection h with h; exact .inl h.symm)⟩
  rw [if_neg hst]
  obtain ⟨H, hs⟩ := sees_of_stack hst
  have h0 := sees_zero hs
  have hH0 : (H 0).1 = x0 := by
    have := h0.2
    simp at this
    exact this.symm
  have hlay : ∀ V : Nd, layP (V :: rest) = (V, 0) :: rest.zipIdx 1 := fun V => rfl
  have hlow : ∀ q ∈ rest.zipIdx 1, q.2 ≠ 0 := fun q hq => by
    have := (List.mem_zipIdx hq).1
    omega
  by_cases hall : ∀ j, j ≤ names.length → (H j).2 = 0
  · have e := upN_low (us := us) (gs := gs) (U := x0) hs names.length (Nat.le_refl _) hall
    rw [e]
    refine ⟨fun V h => ?_, fun f h => (by cases h)⟩
    injection h with h
    subst h
    refine ⟨rfl, by rw [hlay, shP_dir hk]; simp, ?_⟩
    obtain ⟨r, hr⟩ := hs names.length (Nat.le_refl _)
    rw [List.take_length] at hr
    exact ⟨(H names.length).1, r, by rw [hr, ← hall names.length (Nat.le_refl _)]⟩
  · obtain ⟨k, hkn, hz, hn⟩ : ∃ k, k < names.length ∧ (∀ j, j ≤ k → (H j).2 = 0) ∧ (H (k + 1)).2 ≠ 0 := by
      have : ∃ n, n ≤ names.length ∧ (H n).2 ≠ 0 := by
        by_cases e : ∃ n, n ≤ names.length ∧ (H n).2 ≠ 0
        · exact e
        · exfalso
          exact hall fun j hj => by
            by_cases q : (H j).2 = 0
            · exact q
            · exact absurd ⟨j, hj, q⟩ e
      obtain ⟨n, hn1, hn2⟩ := this
      clear hall
      induction n with
      | zero => exact absurd h0.1 hn2
      | succ n ih =>
        by_cases q : ∀ j, j ≤ n → (H j).2 = 0
        · exact ⟨n, by omega, q, hn2⟩
        · by_cases q2 : (H n).2 = 0
          · have : ∃ j, j ≤ n ∧ (H j).2 ≠ 0 := by
              by_cases e : ∃ j, j ≤ n ∧ (H j).2 ≠ 0
              · exact e
              · exfalso
                exact q fun j hj => by
                  by_cases q3 : (H j).2 = 0
                  · exact q3
                  · exact absurd ⟨j, hj, q3⟩ e
            obtain ⟨j, hj, hj2⟩ := this
            have up : ∀ i, j ≤ i → i ≤ n → (H i).2 ≠ 0 := by
              intro i hji
              induction hji with
              | refl => exact fun _ => hj2
              | @step m hji ih2 =>
                intro hle
                have e : names[m]? = some (names[m]'(by omega)) := List.getElem?_eq_getElem (by omega)
                exact (sees_step hs e).2.1 (ih2 (by omega))
            exact absurd q2 (up n hj (Nat.le_refl _))
          · exact ih (by omega) q2
    have e := up_eq (us := us) (gs := gs) hs hkn hz hn (names.length - k - 1) (by omega)
    rw [show k + (names.length - k - 1) + 1 = names.length by omega, show names.length - k - 1 + 1 = names.length - k by omega, hH0] at e
    rw [e]
    have hnm : ∀ p ∈ brL H names k (names.length - k), nameB p.2 = true := fun p hp => by
      obtain ⟨i, hi, rfl⟩ := List.mem_map.1 hp
      rw [List.mem_range'_1] at hi
      have h1 := seen_name hv hs (i := i - 1) (by omega)
      show nameB (names.getD (i - 1) ⟨#[]⟩) = true
      rw [show names.getD (i - 1) ⟨#[]⟩ = names[i - 1] by rw [List.getD_eq_getElem?_getD, List.getElem?_eq_getElem (by omega)]; rfl]
      exact h1
    cases hb : brF us gs (brL H names k (names.length - k)) with
    | error f =>
      refine ⟨fun V h => (by cases h), fun f' h => ?_⟩
      injection h with h
      subst h
      exact .inr (brF_err2 hnm hb)
    | ok L =>
      dsimp only
      obtain ⟨hm, hL⟩ := brF_map hb
      have hL2 : L = brT us gs H names (k + 1) (names.length - k) := by
        rw [hL]
        unfold brL brT
        rw [List.map_map]
        rfl
      have hm2 : ∀ i, k + 1 ≤ i → i ≤ names.length → ∃ y, mvF true us gs (bareN (H i).1) = some y := fun i h1 h2 =>
        hm (bareN (H i).1, names.getD (i - 1) ⟨#[]⟩) (List.mem_map.2 ⟨i, by rw [List.mem_range'_1]; omega, rfl⟩)
      have hlo := low_sees (us := us) (gs := gs) hs hkn hz hn hm2 k 0 (rest.zipIdx 1) (by omega) (by rw [hH0]; rfl)
      rw [List.drop_zero, hH0, ← hL2] at hlo
      have ek : names[k]? = some names[k] := List.getElem?_eq_getElem hkn
      have hfind := sees_find hs k (by omega) hz
      have hdir := (sees_step hs ek).1
      obtain ⟨V0, hV0⟩ := (chg_name (x := chainF L) hfind hdir).2 (by rw [seen_name hv hs hkn]; decide)
      rw [← take_next2 ek, hH0] at hV0
      rw [hV0]
      refine ⟨fun V h => ?_, fun f h => (by cases h)⟩
      injection h with h
      subst h
      obtain ⟨i1, i2, _, z, r, i4⟩ := low_put _ x0 (rest.zipIdx 1) V0 hlow hlo hV0
      refine ⟨i1, by rw [hlay, shP_dir i2]; simp, z, r, ?_⟩
      rw [List.take_append_drop] at i4
      exact i4
end Go.Proofs.YtlbabnffiibnpaaGreat
namespace Go.Proofs.YtlbabnffiibnpaaGreat
open Go.RowKit
theorem cloneK_nil (w : World) : Calls Tryz.prog 49 #[.slice none 0 0] w fun e w' => e = .returned (.slice none 0 0) ∧ w = w' := by
  have hnil := fun (W : World) (n c : Nat) => Lib.run_eql_slice_nil (P := Tryz.prog) W 32 61 none n c 0 0 Tryz.underlying32
  go_enter Tryz.func49, Tryz.ntmps49
  go_wp2
  go_ret
  exact ⟨rfl, rfl⟩
set_option maxRecDepth 100000 in
set_option maxHeartbeats 2000000 in
theorem apartN_any {W : World} {S : Nat → Bool} (hS : ∀ k, S k = true → k < W.heap.size) {k m u g : Int} {o : Bool} {at_ : List Kv} {d : ByteArray} {aa : Option Addr} {ca : Nat} (ha : Kvm (offS W.cell? S) aa at_) (hla : at_.length ≤ 1000) :
    Calls Tryz.prog 27 #[.agg #[.int .i64 k, .int .i64 m, .int .i64 u, .int .i64 g, .bool o, .slice aa at_.length ca, .string d, .slice none 0 0]] W fun e W' => ∃ a2 c2, e = .returned (.agg #[.int .i64 k, .int .i64 m, .int .i64 u, .int .i64 g, .bool o, .slice a2 at_.length c2, .string d, .slice none 0 0]) ∧ at_.length ≤ c2 ∧ c2 ≤ 9223372036854775807 ∧ Kvm (offS W'.cell? S) a2 at_ ∧ Below W.heap.size W W' := by
  have B0 := NBw.new W k m u g o at_ d [] ⟨aa, ca, none, 0⟩
  simp only [List.length_nil] at B0
  have hB0 : Below W.heap.size W (W.alloc (.cells #[.int .i64 k, .int .i64 m, .int .i64 u, .int .i64 g, .bool o, .slice aa at_.length ca, .string d, .slice none 0 0] 34)) := (Below.refl _ _).alloc (Nat.le_refl _) _
  have R1 := NBw.zero (W.alloc (.cells #[.int .i64 k, .int .i64 m, .int .i64 u, .int .i64 g, .bool o, .slice aa at_.length ca, .string d, .slice none 0 0] 34))
  rw [World.size_alloc] at R1
  have B1 := B0.below ((Below.refl _ _).alloc (Nat.le_refl _) (.cells #[.int .i64 0, .int .i64 0, .int .i64 0, .int .i64 0, .bool false, .slice none 0 0, .string ⟨#[]⟩, .slice none 0 0] 34))
  have hB1 : Below W.heap.size W ((W.alloc (.cells #[.int .i64 k, .int .i64 m, .int .i64 u, .int .i64 g, .bool o, .slice aa at_.length ca, .string d, .slice none 0 0] 34)).alloc (.cells #[.int .i64 0, .int .i64 0, .int .i64 0, .int .i64 0, .bool false, .slice none 0 0, .string ⟨#[]⟩, .slice none 0 0] 34)) := hB0.alloc hB0.size _
  have ha1 := (ha.on (offS_le _ _)).below hB1
  have hs1 : W.heap.size + 2 ≤ ((W.alloc (.cells #[.int .i64 k, .int .i64 m, .int .i64 u, .int .i64 g, .bool o, .slice aa at_.length ca, .string d, .slice none 0 0] 34)).alloc (.cells #[.int .i64 0, .int .i64 0, .int .i64 0, .int .i64 0, .bool false, .slice none 0 0, .string ⟨#[]⟩, .slice none 0 0] 34)).heap.size := by simp
  obtain ⟨⟨y0, y1, y2, y3, y4, y5, y6, y7⟩, y8⟩ := id B1
  simp only [List.length_nil] at y7
  clear B0 hB0 ha
  go_enter Tryz.func27, Tryz.ntmps27
  go_wp2_with fail
  refine (cloneA_any aa ca at_ _ hla ha1).mono ?_
  rintro e w2 ⟨⟨vA, rfl, hA2⟩, b2⟩
  have B2 := B1.below b2
  have R2 := R1.below b2
  have hB2 := hB1.trans (b2.mono hB1.size)
  have hs2 := Nat.le_trans hs1 b2.size
  generalize ((W.alloc (.cells #[.int .i64 k, .int .i64 m, .int .i64 u, .int .i64 g, .bool o, .slice aa at_.length ca, .string d, .slice none 0 0] 34)).alloc (.cells #[.int .i64 0, .int .i64 0, .int .i64 0, .int .i64 0, .bool false, .slice none 0 0, .string ⟨#[]⟩, .slice none 0 0] 34)).heap.size = base at hs1 hA2
  clear y0 y1 y2 y3 y4 y5 y6 y7 y8 B1 R1 hB1 b2 ha1
  generalize hsz : W.heap.size = nb at B2 R2 hs1 hs2 ⊢
  obtain ⟨a2, c2, hv2, hc2, hc2', hA2'⟩ := kvm_of_owns hA2
  rw [hv2] at hA2 ⊢
  clear hv2
  have B3 := B2.set5 a2 c2
  have R3 := R2.other (p := ⟨nb, 5, none⟩) (by simp) (.slice a2 at_.length c2)
  have hA3 := owns_set hA2 (p := ⟨nb, 5, none⟩) (show nb < base by omega) (.slice a2 at_.length c2)
  have hB3 := hB2.setCell (p := ⟨nb, 5, none⟩) (by show W.heap.size ≤ nb; omega) (.slice a2 at_.length c2)
  obtain ⟨⟨y0, y1, y2, y3, y4, y5, y6, y7⟩, y8⟩ := B2
  have z7 := B3.1.2.2.2.2.2.2.2
  simp only [List.length_nil] at z7 y7
  clear hA2 hA2' R2 hB2 hs2
  go_wp2_with fail
  refine (cloneK_nil _).mono ?_
  rintro e w4 ⟨rfl, rfl⟩
  have B5 := B3.set7 [] none 0
  have R5 := R3.other (p := ⟨nb, 7, none⟩) (by simp) (.slice none 0 0)
  have hA5 := owns_set hA3 (p := ⟨nb, 7, none⟩) (show nb < base by omega) (.slice none 0 0)
  have hB5 := hB3.setCell (p := ⟨nb, 7, none⟩) (by show W.heap.size ≤ nb; omega) (.slice none 0 0)
  simp only [List.length_nil] at B5
  obtain ⟨⟨x0, x1, x2, x3, x4, x5, x6, x7⟩, x8⟩ := id B5
  obtain ⟨⟨z0, z1, z2, z3, z4, z5, z6, z7'⟩, z8⟩ := id R5
  have R6 := R5.store (.mk k m u g o at_ d []) ⟨a2, c2, none, 0⟩
  have b6 : But (nb + 1) ((w2.setCell ⟨nb, 5, none⟩ (.slice a2 at_.length c2)).setCell ⟨nb, 7, none⟩ (.slice none 0 0)) (stB ((w2.setCell ⟨nb, 5, none⟩ (.slice a2 at_.length c2)).setCell ⟨nb, 7, none⟩ (.slice none 0 0)) (nb + 1) (.mk k m u g o at_ d []) ⟨a2, c2, none, 0⟩) := stB_but
  have hA6 := owns_but hA5 b6 (by omega)
  have hB6 := hB5.trans (b6.below (B := W.heap.size) (by omega) (by have := hB5.size; omega))
  generalize hw6 : stB ((w2.setCell ⟨nb, 5, none⟩ (.slice a2 at_.length c2)).setCell ⟨nb, 7, none⟩ (.slice none 0 0)) (nb + 1) (.mk k m u g o at_ d []) ⟨a2, c2, none, 0⟩ = w6 at R6 b6 hA6 hB6
  have HW6 : Hid (stB ((w2.setCell ⟨nb, 5, none⟩ (.slice a2 at_.length c2)).setCell ⟨nb, 7, none⟩ (.slice none 0 0)) (nb + 1) (.mk k m u g o at_ d []) ⟨a2, c2, none, 0⟩ = w6) := hw6
  clear hw6 b6 hA5 hA3 hB5 hB3 R5 R3 B3
  go_wp2
  have hw6 := HW6.out
  simp only [stB, List.length_nil] at hw6
  rw [hw6]
  clear hw6 HW6 x0 x1 x2 x3 x4 x5 x6 x7 x8 y0 y1 y2 y3 y4 y5 y6 y7 y8 z0 z1 z2 z3 z4 z5 z6 z7 z8 z7'
  obtain ⟨a7, c7, e7, h71, h72, hA7⟩ := kvm_of_ownsS (S := S) (fun k hk => by have := hS k hk; omega) hA6
  simp only [Value.slice.injEq, true_and] at e7
  obtain ⟨rfl, rfl⟩ := e7
  obtain ⟨r0, r1, r2, r3, r4, r5, r6, r7⟩ := R6.1
  simp only [List.length_nil] at r7
  refine bodyPost_ret (v := .agg #[.int .i64 k, .int .i64 m, .int .i64 u, .int .i64 g, .bool o, .slice a2 at_.length c2, .string d, .slice none 0 0]) (by simp [results, Tryz.results27, go_sem, r0, r1, r2, r3, r4, r5, r6, r7]) rfl ⟨a2, c2, rfl, h71, h72, hA7, hB6⟩
end Go.Proofs.YtlbabnffiibnpaaGreat
namespace Go.Proofs.YtlbabnffiibnpaaGreat
open Go.RowKit
def lenOf : Value → Nat
  | .slice _ n _ => n
  | _ => 0
set_option maxRecDepth 100000 in
set_option maxHeartbeats 2000000 in
theorem ownN_any {W : World} {S : Nat → Bool} (hS : ∀ k, S k = true → k < W.heap.size) {k m u g : Int} {o : Bool} {at_ : List Kv} {d : ByteArray} {aa : Option Addr} {ca : Nat} (ha : Kvm (offS W.cell? S) aa at_) (hla : at_.length ≤ 1000) :
    Calls Tryz.prog 14 #[.agg #[.int .i64 k, .int .i64 m, .int .i64 u, .int .i64 g, .bool o, .slice aa at_.length ca, .string d, .slice none 0 0]] W fun e W' => ∃ a2 c2, e = .returned (.agg #[.int .i64 k, .int .i64 m, .int .i64 u, .int .i64 g, .bool o, .slice a2 at_.length c2, .string d, .slice none 0 0]) ∧ at_.length ≤ c2 ∧ c2 ≤ 9223372036854775807 ∧ Kvm (offS W'.cell? S) a2 at_ ∧ Below W.heap.size W W' := by
  have B0 := NBw.new W k m u g o at_ d [] ⟨aa, ca, none, 0⟩
  simp only [List.length_nil] at B0
  have hB0 : Below W.heap.size W (W.alloc (.cells #[.int .i64 k, .int .i64 m, .int .i64 u, .int .i64 g, .bool o, .slice aa at_.length ca, .string d, .slice none 0 0] 34)) := (Below.refl _ _).alloc (Nat.le_refl _) _
  have R1 := NBw.zero (W.alloc (.cells #[.int .i64 k, .int .i64 m, .int .i64 u, .int .i64 g, .bool o, .slice aa at_.length ca, .string d, .slice none 0 0] 34))
  rw [World.size_alloc] at R1
  have B1 := B0.below ((Below.refl _ _).alloc (Nat.le_refl _) (.cells #[.int .i64 0, .int .i64 0, .int .i64 0, .int .i64 0, .bool false, .slice none 0 0, .string ⟨#[]⟩, .slice none 0 0] 34))
  have hB1 : Below W.heap.size W ((W.alloc (.cells #[.int .i64 k, .int .i64 m, .int .i64 u, .int .i64 g, .bool o, .slice aa at_.length ca, .string d, .slice none 0 0] 34)).alloc (.cells #[.int .i64 0, .int .i64 0, .int .i64 0, .int .i64 0, .bool false, .slice none 0 0, .string ⟨#[]⟩, .slice none 0 0] 34)) := hB0.alloc hB0.size _
  have HP : Hid (Calls Tryz.prog 27 #[.agg #[.int .i64 k, .int .i64 m, .int .i64 u, .int .i64 g, .bool o, .slice aa at_.length ca, .string d, .slice none 0 0]] ((W.alloc (.cells #[.int .i64 k, .int .i64 m, .int .i64 u, .int .i64 g, .bool o, .slice aa at_.length ca, .string d, .slice none 0 0] 34)).alloc (.cells #[.int .i64 0, .int .i64 0, .int .i64 0, .int .i64 0, .bool false, .slice none 0 0, .string ⟨#[]⟩, .slice none 0 0] 34)) _) := apartN_any (S := fun k => (k == W.heap.size || k == W.heap.size + 1) || S k) (fun k hk => by
      simp at hk
      rcases hk with (q | q) | q
      · simp; omega
      · simp; omega
      · have := hS k q; simp; omega) (ha.on (mle_step fun k hk hs => ⟨by simp [hs]; omega, hB1.block k hk⟩)) hla
  have HS : Hid (∀ k, S k = true → k < W.heap.size) := hS
  obtain ⟨⟨y0, y1, y2, y3, y4, y5, y6, y7⟩, y8⟩ := id B1
  simp only [List.length_nil] at y7
  clear B0 hB0 hS ha
  go_enter Tryz.func14, Tryz.ntmps14
  go_wp2_with fail
  refine Calls.mono HP.out ?_
  rintro e w2 ⟨a2, c2, rfl, hc1, hc2, hk2, b2⟩
  have B2 := B1.below b2
  have R2 := R1.below b2
  have hB2 := hB1.trans (b2.mono hB1.size)
  have hs2 : W.heap.size + 1 < w2.heap.size := R2.1.lt
  clear y0 y1 y2 y3 y4 y5 y6 y7 y8 B1 R1 hB1 b2 HP
  generalize hsz : W.heap.size = nb at B2 R2 hk2 hs2 ⊢
  have B3 := B2.store (.mk k m u g o at_ d []) ⟨a2, c2, none, 0⟩
  have b3 : But nb w2 (stB w2 nb (.mk k m u g o at_ d []) ⟨a2, c2, none, 0⟩) := stB_but
  have R3 := R2.but b3 (by omega)
  have hB3 := hB2.trans (b3.below (B := W.heap.size) (by omega) hB2.size)
  have hk3 := hk2.on (mle_step (w := w2) (w' := stB w2 nb (.mk k m u g o at_ d []) ⟨a2, c2, none, 0⟩) (S' := fun k => (k == nb || k == nb + 1) || S k) fun q hq hs => ⟨hs, b3.block q hq (by simp at hs; exact hs.1.1)⟩)
  obtain ⟨⟨y0, y1, y2, y3, y4, y5, y6, y7⟩, y8⟩ := id B2
  obtain ⟨⟨z0, z1, z2, z3, z4, z5, z6, z7⟩, z8⟩ := id B3
  simp only [List.length_nil] at y7 z7
  generalize hw3 : stB w2 nb (.mk k m u g o at_ d []) ⟨a2, c2, none, 0⟩ = w3 at B3 R3 hB3 hk3 z0 z1 z2 z3 z4 z5 z6 z7 z8
  clear hk2 R2 hB2 B2 b3
  simp only [stB, List.length_nil] at hw3
  go_wp2
  clear hw3 y0 y1 y2 y3 y4 y5 y6 y7 y8 z0 z1 z2 z3 z4 z5 z6 z7 z8
  have hal : Below w3.heap.size w3 (w3.alloc (.cells #[.slice none 0 0] 32)) := (Below.refl _ _).alloc (Nat.le_refl _) _
  have B4 := B3.below hal
  have R4 := R3.below hal
  have hB4 := hB3.trans (hal.mono hB3.size)
  have hk4 := hk3.on (mle_S hal)
  have hcell := cell_one_new w3 (.slice none 0 0) 32 0 (.slice none 0 0) rfl
  have hcell : (w3.alloc (.cells #[.slice none 0 0] 32)).cell? ⟨w3.heap.size, 0, none⟩ = some (.slice none 0 0) := World.cell?_alloc_at _ _ _ _ rfl
  generalize w3.alloc (.cells #[.slice none 0 0] 32) = w4 at B4 R4 hB4 hk4 hcell ⊢
  generalize w3.heap.size = gw at hcell ⊢
  clear hal B3 R3 hB3 hk3
  go_loopw [3] (fun v wr => (v = .slice (some ⟨gw, 0, none⟩) 1 1 ∨ v = .slice (some ⟨gw, 0, none⟩) 0 1) ∧ w4 = wr) (fun v _ => lenOf v)
  case atStart => exact ⟨.inl rfl, rfl⟩
  case round =>
    obtain ⟨(rfl | rfl), rfl⟩ := hrel
    · go_wp2
      go_loopw [27, 3] (fun i v w' => i = .int .i64 0 ∧ v = .slice (some ⟨gw, 0, none⟩) 0 1 ∧ w4 = w') (fun _ _ _ => 0)
      case atStart => exact ⟨rfl, rfl, rfl⟩
      case round =>
        obtain ⟨rfl, rfl, rfl⟩ := hrel
        go_wp2
        go_roundw
        case rel => exact ⟨.inr rfl, by first | exact rfl | trivial⟩
        case measure => simp [lenOf]
    · obtain ⟨⟨y0, y1, y2, y3, y4, y5, y6, y7⟩, y8⟩ := id B4
      obtain ⟨⟨z0, z1, z2, z3, z4, z5, z6, z7⟩, z8⟩ := id R4
      simp only [List.length_nil] at y7
      have R6 := R4.store (.mk k m u g o at_ d []) ⟨a2, c2, none, 0⟩
      have b6 : But (nb + 1) w4 (stB w4 (nb + 1) (.mk k m u g o at_ d []) ⟨a2, c2, none, 0⟩) := stB_but
      have hB6 := hB4.trans (b6.below (B := W.heap.size) (by omega) hB4.size)
      have hk6 := hk4.on (mle_step (w := w4) (w' := stB w4 (nb + 1) (.mk k m u g o at_ d []) ⟨a2, c2, none, 0⟩) (S' := S) fun q hq hs => ⟨by simp at hs; exact hs.2, b6.block q hq (by simp at hs; exact hs.1.2)⟩)
      generalize hw6 : stB w4 (nb + 1) (.mk k m u g o at_ d []) ⟨a2, c2, none, 0⟩ = w6 at R6 hB6 hk6
      have HW6 : Hid (stB w4 (nb + 1) (.mk k m u g o at_ d []) ⟨a2, c2, none, 0⟩ = w6) := hw6
      clear hw6 b6 B4 R4 hB4 hk4
      go_wp2
      have hw6 := HW6.out
      simp only [stB, List.length_nil] at hw6
      rw [hw6]
      obtain ⟨r0, r1, r2, r3, r4, r5, r6, r7⟩ := R6.1
      simp only [List.length_nil] at r7
      refine bodyPost_ret (v := .agg #[.int .i64 k, .int .i64 m, .int .i64 u, .int .i64 g, .bool o, .slice a2 at_.length c2, .string d, .slice none 0 0]) (by simp [results, Tryz.results14, go_sem, r0, r1, r2, r3, r4, r5, r6, r7]) rfl ⟨a2, c2, rfl, hc1, hc2, hk6, by rw [← hsz]; exact hB6⟩
end Go.Proofs.YtlbabnffiibnpaaGreat
