/-
  Along: the walk.
-/
import Derived.Test.YtkkhfnkmfkdhiabUhX
import Derived.Test.YtkkhfnkmfkdhiabMjY
namespace Go.Proofs.Ytkkhfnkmfkdhiab
open Go.RowKit Go.Shelf
attribute [local go_sem] Oper.semAt_some

theorem AlJ.put {S : Nat → Bool} {w A : World} {xs : List Nd} {names : List ByteArray} {st : Loop} {i : Nat} {Sx : Nat → Bool} (h : AlJ S w A xs names st i Sx) (st' : Loop) : AlJ S w (A.putObj (w.heap.size + 1 + 1 + 1 + 1 + 1) (.loop st')) xs names st' i Sx := by
  obtain ⟨vn, vf, L, h1, h2, h3, h4, h5, h6⟩ := h.bx
  have hm := mle_putS (S := alS w.heap.size vn vf S) h.lk rfl (.loop st')
  exact ⟨h.low.trans (below_put h.low.size (by omega) _), ⟨vn, vf, L, boxed_putL h1 h.lk _, boxed_putL h2 h.lk _, ⟨ownsRow_putObj h3.rn _ h.lk rfl, ownsRow_putObj h3.rf _ h.lk rfl, h3.ne, fun f hf => (h3.nd f hf).on hm⟩, h4, h5, h6⟩, (World.putObj_heap_other (by omega)).trans h.dk, World.putObj_heap_same (Array.getElem?_eq_some_iff.1 h.lk).1⟩
theorem nd_nokids {c : Mem} {k m u g : Int} {o : Bool} {at_ : List Kv} {d : ByteArray} {ks : Kds} {h : Hd} (hN : NdV c (.mk k m u g o at_ d ks) h) : NdV c (.mk k m u g o at_ d []) ⟨h.aa, h.ca, none, 0⟩ := by
  obtain ⟨h1, h2, _, _⟩ := ndV_iff.1 hN
  exact ndV_iff.2 ⟨h1, h2, ⟨Nat.le_refl _, by simp⟩, .inl rfl⟩
theorem AlR.put {S : Nat → Bool} {n₀ : Nat} {A : World} {vn vf : Value} {L L2 : List Fl} (h : AlR S n₀ A vn vf L L2) {l : Nat} {o : Obj} (hl : A.heap[l]? = some o) (ho : o.isCells = false) (o' : Obj) : AlR S n₀ (A.putObj l o') vn vf L L2 :=
  ⟨ownsRow_putObj h.rn o' hl ho, ownsRow_putObj h.rf o' hl ho, h.ne, fun f hf => (h.nd f hf).on (mle_putS hl ho o')⟩
theorem along_end {w V : World} {S : Nat → Bool} {xs : List Nd} {names : List ByteArray} {act : Act} {vn vf : Value} {L : List Fl} (h4 : act.tmps[4]? = some vn) (h5 : act.tmps[5]? = some vf) (hd : act.defers = [{ target := .collected (w.heap.size + 1 + 1 + 1 + 1), args := #[] }]) (hK : V.heap[w.heap.size + 1 + 1 + 1 + 1]? = some (.deferred (some []))) (hR : AlR S w.heap.size V vn vf L L) (hQ : ∀ (j : Nat) f, L[j]? = some f → ∃ q r, stackP xs (names.take j) = q :: r ∧ f.x = q.1.with [] ∧ f.ly = q.2) (hE : L.length = names.length + 1 ∨ L.length ≤ names.length ∧ stackP xs (names.take L.length) = []) (hB : Below w.heap.size w V) :
    bodyPostM Fence.wide 0 Try.prog Try.f90 (fun e w' => (∃ vn vf L, e = .returned (.tuple #[vn, vf]) ∧ AlR S w.heap.size w' vn vf L L ∧ (∀ (j : Nat) f, L[j]? = some f → ∃ q r, stackP xs (names.take j) = q :: r ∧ f.x = q.1.with [] ∧ f.ly = q.2) ∧ (L.length = names.length + 1 ∨ L.length ≤ names.length ∧ stackP xs (names.take L.length) = [])) ∧ Below w.heap.size w w') .ret act V := by
  show LeavesInM Fence.wide 0 Try.prog Try.f90 act.tmps _ act.defers .returning V
  rw [hd]
  refine ⟨by simp, .inl ⟨_, _, rfl, run_takeDeferred hK, ?_⟩⟩
  refine ⟨.tuple #[vn, vf], by simp [results, Try.results90, go_sem, h4, h5], ⟨vn, vf, L, rfl, hR.put hK rfl _, hQ, hE⟩, hB.trans (below_put (l := w.heap.size + 1 + 1 + 1 + 1) hB.size (by omega) _)⟩
theorem XA.toJ {S : Nat → Bool} {w A : World} {Sx : Nat → Bool} {st : Loop} {vn vf : Value} {L : List Fl} {W : World} {xs : List Nd} {names : List ByteArray} {i : Nat} (h : XA S w A Sx st vn vf L L vn vf W) (hl : L.length = i) (hQ : ∀ (j : Nat) f, L[j]? = some f → ∃ q r, stackP xs (names.take j) = q :: r ∧ f.x = q.1.with [] ∧ f.ly = q.2) : AlJ S w W xs names st i (alS w.heap.size vn vf S) := ⟨h.low, ⟨vn, vf, L, h.bn, h.bf, h.r, hl, hQ, rfl⟩, h.dk, h.lk⟩
theorem AlSt.init {S : Nat → Bool} {w A : World} {Sx : Nat → Bool} {st : Loop} {vn vf : Value} {L : List Fl} {N : Nd} {hb : Hd} {ly nbx vb vo : Nat} {vs : Value} {t24 t25 t26 t27 t28 t29 t30 t31 t32 t33 t34 t35 : Value} {W : World} (hX : XA S w A Sx st vn vf L L vn vf W) (hb1 : NBw W nbx N hb) (hn : NdV (offS W.cell? (alS w.heap.size vn vf S)) N hb) : AlSt S w A Sx st vn vf L N hb ly nbx vb vo vs false false false false false false false false false false false false false false t24 t25 t26 t27 t28 t29 t30 t31 t32 t33 t34 t35 W :=
  ⟨(fun e => by cases e), (fun e => by cases e), (fun e => by cases e), (fun e => by cases e), (fun e => by cases e), (fun e => by cases e), (fun e => by cases e), (fun e => by cases e), (fun e => by cases e), (fun e => by cases e), (fun e => by cases e), (fun e => by cases e), (fun e => by cases e), (fun e => by cases e), fun _ => ⟨hX, hb1, hn⟩, (fun e => by cases e), (fun e => by cases e), (fun e => by cases e), (fun e => by cases e), (fun e => by cases e), (fun e => by cases e), (fun e => by cases e)⟩
set_option maxRecDepth 100000 in
set_option maxHeartbeats 4000000 in
theorem along_any {w : World} {S : Nat → Bool} (hS0 : ∀ k, S k = true → k < w.heap.size) {a : Option Addr} {cap : Nat} {xs : List Nd} {an : Option Addr} {capn : Nat} {names : List ByteArray} (hx : NsV (offS w.cell? S) a xs) (hs : Strs (offS w.cell? S) an names) (hlx : xs.length ≤ 1000) (hln : names.length ≤ 1000) (hsm : SmallP (layP xs)) (hlim : LimP (layP xs)) :
    Calls Try.prog 90 #[.slice a xs.length cap, .slice an names.length capn] w fun e w' => (∃ vn vf L, e = .returned (.tuple #[vn, vf]) ∧ AlR S w.heap.size w' vn vf L L ∧ (∀ (j : Nat) f, L[j]? = some f → ∃ q r, stackP xs (names.take j) = q :: r ∧ f.x = q.1.with [] ∧ f.ly = q.2) ∧ (L.length = names.length + 1 ∨ L.length ≤ names.length ∧ stackP xs (names.take L.length) = [])) ∧ Below w.heap.size w w' := by
  refine (callsIn_wide (n := 0)).1 ?_
  refine callsIn_of_wp_marks Try.func90 rfl trivial ?_ rfl
  simp only [Try.ntmps90, List.size_toArray, List.length_cons, List.length_nil, Nat.reduceAdd, Nat.reduceSub, Array.replicate_succ, Array.replicate_zero, List.push_toArray, List.append_toArray, List.nil_append, List.cons_append]
  gi_wp2_with fail
  refine ⟨trivial, rfl, CallsIn.mono (callsIn_wide.2 (steps_any _ a an xs.length cap names.length capn)) ?_⟩
  rintro e w1 ⟨rfl, hw1⟩
  rw [World.size_alloc, World.size_alloc]
  have bA := (Below.refl _ w).alloc (Nat.le_refl _) (.cells #[.slice none 0 0] 50)
  have bB := bA.alloc bA.size (.cells #[.slice none 0 0] 80)
  have s2 : ((w.alloc (.cells #[.slice none 0 0] 50)).alloc (.cells #[.slice none 0 0] 80)).heap.size = w.heap.size + 1 + 1 := by rw [World.size_alloc, World.size_alloc]
  have hB0 : Below w.heap.size w w1 := by rw [hw1]; exact (bB.alloc bB.size _).alloc (by rw [World.size_alloc, s2]; omega) _
  have hz : w1.heap.size = w.heap.size + 1 + 1 + 1 + 1 := by rw [hw1, World.size_alloc, World.size_alloc, s2]
  have bx0 : Boxed w1 w.heap.size 50 (.slice none 0 0) := by rw [hw1]; exact (((Boxed.new w _ _).alloc _).alloc _).alloc _
  have bx1 : Boxed w1 (w.heap.size + 1) 80 (.slice none 0 0) := by
    rw [hw1]
    have := ((Boxed.new (w.alloc (.cells #[.slice none 0 0] 50)) 80 (.slice none 0 0)).alloc (.cells #[.slice a xs.length cap] 50)).alloc (.cells #[.slice an names.length capn] 43)
    rwa [World.size_alloc] at this
  have bx2 : Boxed w1 (w.heap.size + 1 + 1) 50 (.slice a xs.length cap) := by
    rw [hw1]
    have := (Boxed.new ((w.alloc (.cells #[.slice none 0 0] 50)).alloc (.cells #[.slice none 0 0] 80)) 50 (.slice a xs.length cap)).alloc (.cells #[.slice an names.length capn] 43)
    rwa [s2] at this
  have bx3 : Boxed w1 (w.heap.size + 1 + 1 + 1) 43 (.slice an names.length capn) := by
    rw [hw1]
    have := Boxed.new (((w.alloc (.cells #[.slice none 0 0] 50)).alloc (.cells #[.slice none 0 0] 80)).alloc (.cells #[.slice a xs.length cap] 50)) 43 (.slice an names.length capn)
    rwa [World.size_alloc, s2] at this
  clear hw1 bA bB s2
  gi_wp2_with fail
  refine range_at (gf := 138) (lb := #[.pointer (some ⟨w.heap.size + 1 + 1, 0, none⟩), .pointer (some ⟨w.heap.size + 1 + 1 + 1, 0, none⟩)]) rfl (enters_of Try.func138 (by kernel_rfl) rfl) ?_
  intro fn rec hrec W1 hB1 hs1 hl1 hd1
  rw [hz] at hB1 hs1 hl1 hd1 ⊢
  have hB1' : Below w1.heap.size w1 W1 := by rw [hz]; exact hB1
  have hSf : ∀ k, w.heap.size ≤ k → S k = false := fun k hk => by
    cases hh : S k with
    | false => rfl
    | true => have := hS0 k hh; omega
  have h0 : AlJ S w W1 xs names (rec .ready none) 0 (alS w.heap.size (.slice none 0 0) (.slice none 0 0) S) := ⟨hB0.trans (hB1.mono (by omega)), ⟨_, _, [], boxed_bel bx0 hB1', boxed_bel bx1 hB1', ⟨World.ownsRow_nil _ _ _ _, World.ownsRow_nil _ _ _ _, fun g e => by simp [Value.ownBlock] at e, fun f hf => by cases hf⟩, rfl, fun j f hj => by simp at hj, rfl⟩, hd1, hl1⟩
  have hW : MLe (offS w.cell? S) (offS W1.cell? (alS w.heap.size (.slice none 0 0) (.slice none 0 0) S)) := mle_step fun k hk hs => ⟨by simp [alS, hs, Value.ownBlock]; omega, h0.low.block k hk⟩
  have k2 : offS W1.cell? (alS w.heap.size (.slice none 0 0) (.slice none 0 0) S) ⟨w.heap.size + 1 + 1, 0, none⟩ = some (.slice a xs.length cap) := by rw [offS_ne (by simp [alS, Value.ownBlock]; exact ⟨by omega, hSf _ (by omega)⟩)]; exact (boxed_bel bx2 hB1').cell
  have k3 : offS W1.cell? (alS w.heap.size (.slice none 0 0) (.slice none 0 0) S) ⟨w.heap.size + 1 + 1 + 1, 0, none⟩ = some (.slice an names.length capn) := by rw [offS_ne (by simp [alS, Value.ownBlock]; exact ⟨by omega, hSf _ (by omega)⟩)]; exact (boxed_bel bx3 hB1').cell
  clear hB0 hB1 hB1' hs1 hl1 hd1 bx0 bx1 bx2 bx3
  refine (steps1_any (w.heap.size + 1 + 1) (w.heap.size + 1 + 1 + 1) a cap xs an capn names (w.heap.size + 1 + 1 + 1 + 1 + 1) (fun i S' A => AlJ S w A xs names (rec .ready none) i S') (fun A => ∃ i Sx, i ≤ names.length ∧ stackP xs (names.take i) = [] ∧ AlJ S w A xs names (rec .done (some (.exit 0))) i Sx) W1 _ k2 k3 (hx.on hW) (hs.on hW) hlx hln hsm
    (fun i S' A h => h.hid hS0) (fun i S' A B h hb => h.keep hb) ?rounds h0).mono ?after
  case rounds =>
    intro i S' v A hi hA hv
    have hsmS := stackP_small hsm (names.take i)
    have hliS := stackP_lim hlim (names.take i)
    obtain ⟨va, vc, D, rfl, g1, g2, g3, g4, g5⟩ := hv
    obtain ⟨vn, vf, L, hbn, hbf, hR, hL, hQ, rfl⟩ := hA.bx
    refine round_at hrec hA.lk rfl ?_
    gi_wp2
    refine ⟨hA.lk, ?_⟩
    have hlt : w.heap.size + 1 + 1 + 1 + 1 + 1 < A.heap.size := (Array.getElem?_eq_some_iff.1 hA.lk).1
    cases D with
    | nil =>
      have hst : stackP xs (names.take i) = [] := by rw [← g5]; rfl
      gi_wp2
      exact ⟨World.putObj_heap_same hlt, .inr ⟨rfl, i, hi, hst, _, (hA.put (rec .busy none)).put (rec .done (some (.exit 0)))⟩⟩
    | cons s D =>
      obtain ⟨sb, sp, ly, ⟨k, m, u, g, o, at_, d, ks⟩, h⟩ := s
      have hsp := g4 _ (List.mem_cons_self ..)
      obtain ⟨vb, vo, rfl, hrow⟩ : ∃ b off, va = some ⟨b, off, none⟩ ∧ ∀ j d', ((⟨sb, sp, ly, (.mk k m u g o at_ d ks), h⟩ : Sp) :: D)[j]? = some d' → offS A.cell? (alS w.heap.size vn vf S) ⟨b, off + j * 2, none⟩ = some (.pointer (some ⟨d'.b, d'.p, none⟩)) ∧ offS A.cell? (alS w.heap.size vn vf S) ⟨b, off + j * 2 + 1, none⟩ = some (.int .i64 d'.ly) := by
        rcases g3 with e | e
        · cases e
        · exact e
      obtain ⟨r0, r1⟩ := hrow 0 _ rfl
      dsimp only at r0 r1
      rw [Nat.zero_mul, Nat.add_zero] at r0 r1
      have hq : ((.mk k m u g o at_ d ks), ly) ∈ stackP xs (names.take i) := by rw [← g5]; exact List.mem_cons_self ..
      have HLQ : Hid (∃ r, stackP xs (names.take i) = ((.mk k m u g o at_ d ks), ly) :: r) := ⟨_, g5.symm⟩
      have hlim1 : Lim (.mk k m u g o at_ d []) := by have e := hliS _ hq; rw [Lim] at e ⊢; exact ⟨e.1, by simp, by rw [LimL]; trivial⟩
      have hcnt1 : cnt (.mk k m u g o at_ d []) ≤ 1000 := by rw [cnt, cntL]; omega
      have hm1 : MLe (offS A.cell? (alS w.heap.size vn vf S)) (offS (A.putObj (w.heap.size + 1 + 1 + 1 + 1 + 1) (.loop (rec .busy none))).cell? (alS w.heap.size vn vf S)) := mle_putS hA.lk rfl _
      have hX : XA S w A (alS w.heap.size vn vf S) (rec .busy none) vn vf L L vn vf (A.putObj (w.heap.size + 1 + 1 + 1 + 1 + 1) (.loop (rec .busy none))) := ⟨hA.low.trans (below_put hA.low.size (by omega) _), by rw [World.putObj_size]; exact Nat.le_refl _, boxed_putL hbn hA.lk _, boxed_putL hbf hA.lk _, ⟨ownsRow_putObj hR.rn _ hA.lk rfl, ownsRow_putObj hR.rf _ hA.lk rfl, hR.ne, fun f hf => (hR.nd f hf).on hm1⟩, hm1, (World.putObj_heap_other (by omega)).trans hA.dk, World.putObj_heap_same hlt⟩
      have hbA : ∀ g, vn.ownBlock = some g → g < A.heap.size := fun g e => (hR.rn.lt g e).2
      have hns : NAt (offS (A.putObj (w.heap.size + 1 + 1 + 1 + 1 + 1) (.loop (rec .busy none))).cell? (alS w.heap.size vn vf S)) sb sp (.mk k m u g o at_ d ks) h := hsp.1.on hm1
      have HNS : Hid (NdV (offS (A.putObj (w.heap.size + 1 + 1 + 1 + 1 + 1) (.loop (rec .busy none))).cell? (alS w.heap.size vn vf S)) (.mk k m u g o at_ d ks) h) := hsp.2.on hm1
      have r01 := hm1 _ _ r0
      have r11 := hm1 _ _ r1
      have hsz1 : (A.putObj (w.heap.size + 1 + 1 + 1 + 1 + 1) (.loop (rec .busy none))).heap.size = A.heap.size := World.putObj_size ..
      have HAZ : Hid (A.heap.size = A.heap.size) := rfl
      generalize A.putObj (w.heap.size + 1 + 1 + 1 + 1 + 1) (.loop (rec .busy none)) = A1 at hX hns HNS r01 r11 hsz1 ⊢
      have t0 := offS_le _ _ _ _ r01
      have t1 := offS_le _ _ _ _ r11
      obtain ⟨n0, n1, n2, n3, n4, n5, n6, n7⟩ := hns.on (offS_le _ _)
      have hb2 : Below A1.heap.size A1 (A1.alloc (.cells #[.int .i64 k, .int .i64 m, .int .i64 u, .int .i64 g, .bool o, .slice h.aa at_.length h.ca, .string d, .slice none 0 0] 25)) := (Below.refl _ _).alloc (Nat.le_refl _) _
      have NB := NBw.new A1 k m u g o at_ d [] ⟨h.aa, h.ca, none, 0⟩
      rw [hsz1] at NB
      have hX2 := hX.below hb2
      have hn2 : NdV (offS (A1.alloc (.cells #[.int .i64 k, .int .i64 m, .int .i64 u, .int .i64 g, .bool o, .slice h.aa at_.length h.ca, .string d, .slice none 0 0] 25)).cell? (alS w.heap.size vn vf S)) (.mk k m u g o at_ d []) ⟨h.aa, h.ca, none, 0⟩ := (nd_nokids HNS.out).on (mle_S hb2)
      have HX2 : Hid _ := hX2
      have HN2 : Hid _ := hn2
      have HNB : Hid _ := NB
      clear hX2 hn2 NB hX HNS hb2
      gi_wp2
      refine al8 (S := S) (w := w) (A := A) (Sx := alS w.heap.size vn vf S) (st := rec .busy none) (vn := vn) (vf := vf) (L := L) (N := .mk k m u g o at_ d []) (hb := ⟨h.aa, h.ca, none, 0⟩) (ly := ly) (nbx := A.heap.size) (vb := vb) (vo := vo) (dl := D.length) (vc := vc) hS0 hlim1 hcnt1 hbA (by omega) r1 rfl (AlSt.init (HX2.out.below (Below.refl _ _).drew) HNB.out HN2.out) ?_
      intro act W' t28 t35 h' hX'
      have hJ := (hX'.toJ (xs := xs) (names := names) (i := i + 1) (by rw [List.length_append, hL]; rfl) (fun j f hj => by
        rw [List.getElem?_append] at hj
        split at hj
        · exact hQ j f hj
        · rename_i hge
          have e : j - L.length = 0 := by
            rcases Nat.eq_zero_or_pos (j - L.length) with e | e
            · exact e
            · rw [List.getElem?_eq_none (by simp; omega)] at hj; cases hj
          rw [e] at hj
          simp at hj
          subst hj
          obtain ⟨r, hr⟩ := HLQ.out
          have e2 : j = i := by omega
          rw [e2]
          exact ⟨_, r, hr, rfl, rfl⟩)).put (rec .ready none)
      exact ⟨hX'.lk, .inl ⟨rfl, _, hJ, hX'.ml.trans (mle_putS hX'.lk rfl _)⟩⟩
  case after =>
    rintro e W2 ⟨⟨v, rfl⟩, (⟨S', hJ⟩ | ⟨i, S', hi, hst, hJ⟩)⟩
    · refine ⟨⟨_, rfl⟩, .inl ⟨hJ.lk, ?_⟩⟩
      have hJ2 := hJ.put (rec .exhausted none)
      generalize W2.putObj (w.heap.size + 1 + 1 + 1 + 1 + 1) (.loop (rec .exhausted none)) = W3 at hJ2 ⊢
      obtain ⟨vn, vf, L, hbn, hbf, hR, hL, hQ, _⟩ := hJ2.bx
      have hcn := hbn.cell
      have hcf := hbf.cell
      gi_wp2
      gi_quiet (fail)
      all_goals
        gi_wp2
        exact along_end rfl rfl rfl hJ2.dk (hR.below (bdN (Below.refl _ _) _)) hQ (.inl hL) (bdN hJ2.low _)
    · refine ⟨⟨_, rfl⟩, .inr ⟨.exit 0, hJ.lk, ?_⟩⟩
      have hJ2 := hJ.put (rec .exhausted (some (.exit 0)))
      generalize W2.putObj (w.heap.size + 1 + 1 + 1 + 1 + 1) (.loop (rec .exhausted (some (.exit 0)))) = W3 at hJ2 ⊢
      obtain ⟨vn, vf, L, hbn, hbf, hR, hL, hQ, _⟩ := hJ2.bx
      have hcn := hbn.cell
      have hcf := hbf.cell
      gi_wp2
      gi_quiet (fail)
      all_goals
        gi_wp2
        exact along_end rfl rfl rfl hJ2.dk (hR.below (bdN (Below.refl _ _) _)) hQ (.inr ⟨by rw [hL]; exact hi, by rw [hL]; exact hst⟩) (bdN hJ2.low _)
end Go.Proofs.Ytkkhfnkmfkdhiab
