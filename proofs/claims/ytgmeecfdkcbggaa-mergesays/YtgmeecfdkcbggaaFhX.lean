/-
  WHAT places GATHERS: its first loops: the walk.
  WHAT slices.SortFunc DOES, at places: the library contract, applied.
  PLACES SORTED BY THEIR NAMES: the library contract, applied.
  WHAT IS SHOWN AT PLACES; places with nothing in them: the walks.
-/
import Derived.Test.YtgmeecfdkcbggaaFfX
import Derived.Maps.OwnOps
import Derived.Deep.RegionHeld3
import Derived.BigQuiet
import Derived.Shelf.SlSortCmp.WholeK
import Derived.Shelf.SlSortCmp.NoneTotal
import Derived.Test.YtgmeecfdkcbggaaProg
namespace Go.Proofs.Ytgmeecfdkcbggaa
open Go.RowKit Go.Maps
/-- The kids of a spot, with their names. -/
def KOf (c : Mem) (d : Sp) (k : List KSf) : Prop := k.length = d.x.dirKs.length ∧ ∀ (j : Nat) p, d.x.dirKs[j]? = some p → ∃ (kb ko : Nat) (s : Sp), d.h.ak = some ⟨kb, ko, none⟩ ∧ k[j]? = some (p.1, s) ∧ s.b = kb ∧ s.p = ko + j * 9 + 1 ∧ s.ly = d.ly ∧ s.x = p.2 ∧ c ⟨kb, ko + j * 9, none⟩ = some (.string p.1) ∧ SpAt c s
theorem kof_of {c : Mem} {d : Sp} (h : SpAt c d) : ∃ k, KOf c d k := by
  obtain ⟨b, p, ly, ⟨kk, m, u, g, o, at_, dd, ks⟩, hd⟩ := d
  by_cases hk : kk = 2
  · obtain ⟨_, _, _, hK⟩ := ndV_iff.1 h.2
    have e0 : (Nd.mk kk m u g o at_ dd ks).dirKs = ks := if_pos hk
    rcases hK with e | ⟨kb, ko, e, f, hf⟩
    · refine ⟨[], ?_⟩
      unfold KOf
      rw [show (Sp.mk b p ly (.mk kk m u g o at_ dd ks) hd).x.dirKs = ks from e0, e]
      exact ⟨rfl, fun j p hj => by simp at hj⟩
    · refine ⟨ks.mapIdx fun j p => (p.1, ⟨kb, ko + j * 9 + 1, ly, p.2, f j⟩), ?_⟩
      unfold KOf
      rw [show (Sp.mk b p ly (.mk kk m u g o at_ dd ks) hd).x.dirKs = ks from e0]
      refine ⟨by simp, fun j q hj => ⟨kb, ko, ⟨kb, ko + j * 9 + 1, ly, q.2, f j⟩, e, ?_, rfl, rfl, rfl, rfl, (hf j q.1 q.2 hj).1.1, (hf j q.1 q.2 hj).1.2, (hf j q.1 q.2 hj).2⟩⟩
      rw [List.getElem?_mapIdx, hj]; rfl
  · refine ⟨[], ?_⟩
    unfold KOf
    rw [show (Sp.mk b p ly (.mk kk m u g o at_ dd ks) hd).x.dirKs = [] from if_neg hk]
    exact ⟨rfl, fun j p hj => by simp at hj⟩
theorem kof_all {c : Mem} {D : List Sp} (hD : ∀ d ∈ D, SpAt c d) : ∃ K : List (List KSf), K.length = D.length ∧ ∀ (i : Nat) d, D[i]? = some d → ∃ k, K[i]? = some k ∧ KOf c d k := by
  induction D with
  | nil => exact ⟨[], rfl, fun i d hi => by simp at hi⟩
  | cons d D ih =>
    obtain ⟨K, h1, h2⟩ := ih fun e he => hD e (List.mem_cons_of_mem _ he)
    obtain ⟨k, hk⟩ := kof_of (hD d (List.mem_cons_self ..))
    refine ⟨k :: K, by simp [h1], fun i e hi => ?_⟩
    cases i with
    | zero => simp at hi; subst hi; exact ⟨k, rfl, hk⟩
    | succ i => exact h2 i e (by simpa using hi)
theorem fstS_kof {c : Mem} {d : Sp} {k : List KSf} (h : KOf c d k) (nm : ByteArray) : (fstS nm k).map Sp.pr = (kidO nm d.x).map fun y => (y, d.ly) := by
  rw [kidO_eq]
  obtain ⟨h1, h2⟩ := h
  generalize d.x.dirKs = ks at h1 h2
  have key : ∀ (ks : Kds) (k : List KSf), k.length = ks.length → (∀ (j : Nat) p, ks[j]? = some p → ∃ s : Sp, k[j]? = some (p.1, s) ∧ s.ly = d.ly ∧ s.x = p.2) → (fstS nm k).map Sp.pr = (fstK nm ks).map fun y => (y, d.ly) := by
    intro ks
    induction ks with
    | nil =>
      intro k hk _
      rw [List.eq_nil_of_length_eq_zero hk]; rfl
    | cons p ks ih =>
      intro k hk hj
      cases k with
      | nil => simp at hk
      | cons q k =>
        obtain ⟨s, e1, e2, e3⟩ := hj 0 p rfl
        simp at e1
        subst e1
        rw [fstS, fstK]
        split
        · simp [Sp.pr, e2, e3]
        · exact ih k (by simpa using hk) fun j p' hp' => by
            obtain ⟨s', f1, f2⟩ := hj (j + 1) p' (by simpa using hp')
            exact ⟨s', by simpa using f1, f2⟩
  exact key ks k h1 fun j p hj => by
    obtain ⟨_, _, s, _, e1, _, _, e2, e3, _⟩ := h2 j p hj
    exact ⟨s, e1, e2, e3⟩
theorem wnt_kof {c : Mem} {D : List Sp} {K : List (List KSf)} (hl : K.length = D.length) (h : ∀ (i : Nat) d, D[i]? = some d → ∃ k, K[i]? = some k ∧ KOf c d k) (nm : ByteArray) : (wnt nm K []).map Sp.pr = kidsP nm (D.map Sp.pr) := by
  unfold wnt kidsP
  show (K.filterMap (fstS nm) ++ []).map Sp.pr = _
  rw [List.append_nil]
  induction D generalizing K with
  | nil => rw [List.eq_nil_of_length_eq_zero hl]; rfl
  | cons d D ih =>
    cases K with
    | nil => simp at hl
    | cons k K =>
      obtain ⟨k', e1, hk⟩ := h 0 d rfl
      simp at e1
      subst e1
      have ih2 := ih (K := K) (by simpa using hl) fun i e hi => by
        obtain ⟨k2, f1, f2⟩ := h (i + 1) e (by simpa using hi)
        exact ⟨k2, by simpa using f1, f2⟩
      have e2 := fstS_kof hk nm
      rw [List.filterMap_cons, List.map_cons, List.filterMap_cons]
      have e3 : Option.map (fun y => (y, d.pr.snd)) (kidO nm d.pr.fst) = (fstS nm k).map Sp.pr := e2.symm
      rw [e3]
      cases fstS nm k with
      | none => exact ih2
      | some s => simp only [List.map_cons, Option.map_some]; rw [ih2]
/-- The kids that are asked for, as a slice. -/
theorem kidsS_any {w : World} {d : Sp} (hs : SpAt w.cell? d) : ∃ ka kc, (d.x.dirKs ≠ [] → ka = d.h.ak) ∧
    Calls Try.prog 40 #[.agg #[.pointer (some ⟨d.b, d.p, none⟩), .int .i64 d.ly]] w fun e w' => e = .returned (.slice ka d.x.dirKs.length kc) ∧ Below w.heap.size w w' := by
  have h := kids_any hs
  by_cases hk : d.x.kind = 2
  · refine ⟨d.h.ak, d.h.ck, fun _ => rfl, ?_⟩
    rw [if_pos hk] at h
    have e : d.x.dirKs = d.x.kids := if_pos hk
    rw [e]; exact h
  · refine ⟨none, 0, fun hne => absurd (if_neg hk) hne, ?_⟩
    rw [if_neg hk] at h
    have e : d.x.dirKs = [] := if_neg hk
    rw [e]; exact h
/-- What is gathered so far, as it stands in memory. -/
def pls (E : List Pe) : Pls := E.map Pe.pl
theorem pls_n (E : List Pe) : (pls E).map (·.1) = E.map (·.n) := by unfold pls; rw [List.map_map]; rfl
theorem pls_get {E : List Pe} {i : Nat} {e : Pe} (h : E[i]? = some e) : (pls E)[i]? = some (e.n, e.L) := by unfold pls; rw [List.getElem?_map, h]; rfl
theorem pls_set (E : List Pe) (i : Nat) (e : Pe) : pls (E.set i e) = (pls E).set i (e.n, e.L) := by unfold pls; rw [List.map_set]; rfl
theorem pls_app (E : List Pe) (e : Pe) : pls (E ++ [e]) = pls E ++ [(e.n, e.L)] := by unfold pls; rw [List.map_append]; rfl
theorem Try.infoP : (Try.prog.info? 67).map (fun i => (i.zero, i.size, i.bytes)) = some (some (.agg #[.string ⟨#[]⟩, .slice none 0 0]), 2, 40) := by kernel_rfl
/-- How much is gathered. -/
def gat : List Pe → Nat
  | [] => 0
  | e :: r => e.L.length + gat r
theorem gat_app : ∀ (A : List Pe) (e : Pe), gat (A ++ [e]) = gat A + e.L.length
  | [], e => by simp [gat]
  | a :: A, e => by simp [gat, gat_app A e]; omega
theorem gat_len : ∀ {E : List Pe}, (∀ e ∈ E, e.L ≠ []) → E.length ≤ gat E
  | [], _ => Nat.le_refl _
  | e :: E, h => by
    have h1 := gat_len fun f hf => h f (List.mem_cons_of_mem _ hf)
    have h2 := List.length_pos_iff.2 (h e (List.mem_cons_self ..))
    simp [gat]; omega
theorem gat_mem : ∀ {E : List Pe} {e : Pe}, e ∈ E → e.L.length ≤ gat E
  | [], _, h => by cases h
  | a :: E, e, h => by
    rcases List.mem_cons.1 h with q | q
    · rw [q]; simp [gat]
    · have := gat_mem q; simp [gat]; omega
theorem gat_set : ∀ {E : List Pe} {i : Nat} {e e' : Pe}, E[i]? = some e → e'.L.length = e.L.length + 1 → gat (E.set i e') = gat E + 1
  | [], i, e, e', h, _ => by simp at h
  | a :: E, 0, e, e', h, k => by simp at h; subst h; simp [gat, k]; omega
  | a :: E, i + 1, e, e', h, k => by have := gat_set (E := E) (i := i) (by simpa using h) k; simp [gat, this]; omega
def kc (K : List (List KSf)) : Nat := (K.map List.length).sum
theorem kc_snoc (K : List (List KSf)) (k : List KSf) : kc (K ++ [k]) = kc K + k.length := by simp [kc]
theorem kc_take {K : List (List KSf)} {j : Nat} {k : List KSf} (h : K[j]? = some k) : kc (K.take j) + k.length ≤ kc K := by
  have e : K = K.take j ++ k :: K.drop (j + 1) := take_nextM h
  have e2 : kc K = kc (K.take j ++ k :: K.drop (j + 1)) := by rw [← e]
  rw [e2]
  simp [kc]
theorem kc_tot {c : Mem} {D : List Sp} {K : List (List KSf)} (hl : K.length = D.length) (h : ∀ (i : Nat) d, D[i]? = some d → ∃ k, K[i]? = some k ∧ KOf c d k) : kc K ≤ tot (D.map Sp.pr) := by
  induction D generalizing K with
  | nil => rw [List.eq_nil_of_length_eq_zero hl]; exact Nat.zero_le _
  | cons d D ih =>
    cases K with
    | nil => simp at hl
    | cons k K =>
      obtain ⟨k', e1, hk⟩ := h 0 d rfl
      simp at e1
      subst e1
      have ih2 := ih (K := K) (by simpa using hl) fun i e hi => by
        obtain ⟨k2, f1, f2⟩ := h (i + 1) e (by simpa using hi)
        exact ⟨k2, by simpa using f1, f2⟩
      have h1 := hk.1
      have h2 := cnt_kidsN d.x
      have h3 := cntL_len d.x.dirKs
      have e4 : cnt d.pr.1 = cnt d.x := rfl
      simp only [kc, List.map_cons, List.sum_cons, tot] at ih2 ⊢
      omega
end Go.Proofs.Ytgmeecfdkcbggaa
namespace Go.Proofs
open Go.Shelf
def Try.sortL_ren : Go.Shelf.Ren := ⟨fun | 6 => 45 | 14 => 59 | 15 => 60 | 20 => 66 | 21 => 67 | 22 => 68 | 23 => 69 | 24 => 70 | 25 => 71 | 26 => 72 | 27 => 73 | 28 => 74 | 29 => 75 | 46 => 78 | 47 => 79 | 48 => 80 | 49 => 81 | 50 => 82 | 57 => 83 | n => n, fun | 0 => 0 | 3 => 3 | 4 => 4 | 5 => 5 | 9 => 9 | 22 => 64 | 25 => 98 | 39 => 109 | 45 => 113 | 46 => 114 | 50 => 92 | 53 => 120 | 55 => 122 | 66 => 128 | 70 => 132 | 76 => 134 | 77 => 135 | 24 => 67 | n => n, fun n => n⟩
theorem Try.sortL : Go.Proofs.SlLaysF0.n6 Try.prog Try.sortL_ren := {
  mixed := by kernel_rfl
  f6 := ⟨ "slices.SortFunc[[]idshift/merge.place,idshift/merge.place]", by decide, Try.func45.trans (congrArg some (by kernel_rfl))⟩
  f14 := ⟨ "slices.pdqsortCmpFunc[idshift/merge.place]", by decide, Try.func59.trans (congrArg some (by kernel_rfl))⟩
  f15 := Try.func60.trans (congrArg some (by kernel_rfl))
  f20 := ⟨ "slices.insertionSortCmpFunc[idshift/merge.place]", by decide, Try.func66.trans (congrArg some (by kernel_rfl))⟩
  f21 := ⟨ "slices.heapSortCmpFunc[idshift/merge.place]", by decide, Try.func67.trans (congrArg some (by kernel_rfl))⟩
  f22 := ⟨ "slices.breakPatternsCmpFunc[idshift/merge.place]", by decide, Try.func68.trans (congrArg some (by kernel_rfl))⟩
  f23 := ⟨ "slices.choosePivotCmpFunc[idshift/merge.place]", by decide, Try.func69.trans (congrArg some (by kernel_rfl))⟩
  f24 := ⟨ "slices.reverseRangeCmpFunc[idshift/merge.place]", by decide, Try.func70.trans (congrArg some (by kernel_rfl))⟩
  f25 := ⟨ "slices.partialInsertionSortCmpFunc[idshift/merge.place]", by decide, Try.func71.trans (congrArg some (by kernel_rfl))⟩
  f26 := ⟨ "slices.partitionEqualCmpFunc[idshift/merge.place]", by decide, Try.func72.trans (congrArg some (by kernel_rfl))⟩
  f27 := ⟨ "slices.partitionCmpFunc[idshift/merge.place]", by decide, Try.func73.trans (congrArg some (by kernel_rfl))⟩
  f28 := Try.func74.trans (congrArg some (by kernel_rfl))
  f29 := Try.func75.trans (congrArg some (by kernel_rfl))
  f46 := ⟨ "slices.siftDownCmpFunc[idshift/merge.place]", by decide, Try.func78.trans (congrArg some (by kernel_rfl))⟩
  f47 := Try.func79.trans (congrArg some (by kernel_rfl))
  f48 := Try.func80.trans (congrArg some (by kernel_rfl))
  f49 := ⟨ "slices.medianAdjacentCmpFunc[idshift/merge.place]", by decide, Try.func81.trans (congrArg some (by kernel_rfl))⟩
  f50 := ⟨ "slices.medianCmpFunc[idshift/merge.place]", by decide, Try.func82.trans (congrArg some (by kernel_rfl))⟩
  f57 := ⟨ "slices.order2CmpFunc[idshift/merge.place]", by decide, Try.func83.trans (congrArg some (by kernel_rfl))⟩
  t0 := Try.underlying0
  a0 := Try.isAgg0
  z0 := Try.sizeOf0
  v0 := Try.zeroValue0
  t3 := Try.underlying3
  a3 := Try.isAgg3
  z3 := Try.sizeOf3
  v3 := Try.zeroValue3
  t4 := Try.underlying4
  a4 := Try.isAgg4
  z4 := Try.sizeOf4
  v4 := Try.zeroValue4
  t5 := Try.underlying5
  a5 := Try.isAgg5
  z5 := Try.sizeOf5
  v5 := Try.zeroValue5
  t9 := Try.underlying9
  a9 := Try.isAgg9
  z9 := Try.sizeOf9
  v9 := Try.zeroValue9
  t22 := Try.underlying64
  a22 := Try.isAgg64
  z22 := Try.sizeOf64
  v22 := Try.zeroValue64
  t25 := Try.underlying98
  a25 := Try.isAgg98
  z25 := Try.sizeOf98
  v25 := Try.zeroValue98
  t39 := Try.underlying109
  a39 := Try.isAgg109
  z39 := Try.sizeOf109
  v39 := Try.zeroValue109
  t45 := Try.underlying113
  a45 := Try.isAgg113
  z45 := Try.sizeOf113
  v45 := Try.zeroValue113
  t46 := Try.underlying114
  a46 := Try.isAgg114
  z46 := Try.sizeOf114
  v46 := Try.zeroValue114
  t50 := Try.underlying92
  a50 := Try.isAgg92
  z50 := Try.sizeOf92
  v50 := Try.zeroValue92
  t53 := Try.underlying120
  a53 := Try.isAgg120
  z53 := Try.sizeOf120
  v53 := Try.zeroValue120
  t55 := Try.underlying122
  a55 := Try.isAgg122
  z55 := Try.sizeOf122
  v55 := Try.zeroValue122
  t66 := Try.underlying128
  a66 := Try.isAgg128
  z66 := Try.sizeOf128
  v66 := Try.zeroValue128
  t70 := Try.underlying132
  a70 := Try.isAgg132
  z70 := Try.sizeOf132
  v70 := Try.zeroValue132
  t76 := Try.underlying134
  a76 := Try.isAgg134
  z76 := Try.sizeOf134
  v76 := Try.zeroValue134
  t77 := Try.underlying135
  a77 := Try.isAgg135
  z77 := Try.sizeOf135
  v77 := Try.zeroValue135 }
end Go.Proofs
namespace Go.Proofs.Ytgmeecfdkcbggaa
open Go.RowKit Go.Shelf Go.Sort
instance : Inhabited Pe := ⟨⟨⟨#[]⟩, none, 0, []⟩⟩
def encPe (e : Pe) : List Value := [.string e.n, .slice e.a e.L.length e.c]
def cfPe (x y : Pe) : Int := cmpB x.n y.n
theorem ltPe (x y : Pe) : ltOf cfPe x y = ltB x.n y.n := by
  unfold ltOf cfPe cmpB
  cases h1 : ltB x.n y.n with
  | true => rfl
  | false =>
    cases h2 : ltB y.n x.n with
    | true => rfl
    | false => rfl
theorem swoPe : SWO (ltOf cfPe) where
  irrefl x := by rw [ltPe]; exact ltB_irrefl _
  trans x y z h1 h2 := by rw [ltPe] at *; exact ltB_trans h1 h2
  ntrans x y z h1 h2 := by
    rw [ltPe] at *
    cases h : ltB x.n z.n with
    | false => rfl
    | true =>
      rcases ltB_total x.n y.n with e | e | e
      · rw [h1] at e; cases e
      · rw [← e, h] at h2; cases h2
      · rw [ltB_trans e h] at h2; cases h2
theorem holds_pe {w : World} {b : Nat} {G : List Pe} (h : PRow w b G) : HoldsK encPe 2 w b 0 G.toArray := by
  intro j hj
  rw [size_flatK] at hj
  rw [get_flatK _ _ _ _ hj]
  have hi : j / 2 < G.length := by simp at hj; omega
  obtain ⟨c0, c1⟩ := h.cell (j / 2) G[j / 2] (List.getElem?_eq_getElem hi)
  have e1 : G.toArray[j / 2]! = G[j / 2] := by simp [hi]
  rw [e1]
  refine ⟨?_, h.free _⟩
  rw [Nat.zero_add]
  generalize G[j / 2] = x at c0 c1
  rcases Nat.mod_two_eq_zero_or_one j with e | e
  · rw [e]
    rw [show j / 2 * 2 = j by omega] at c0
    exact c0
  · rw [e]
    rw [show j / 2 * 2 + 1 = j by omega] at c1
    exact c1
theorem heap_sw {w : World} {b off m : Nat} {d : Array Pe} {os : Array Obj} (k : Nat) (hk : k < w.heap.size) (hne : k ≠ b) : (sortWorldK encPe 2 w b off m d os).heap[k]? = w.heap[k]? := by
  unfold sortWorldK grow putRowK putRow mapBlock
  show ((w.heap.modify b _) ++ os)[k]? = _
  rw [Array.getElem?_append_left (by rw [Array.size_modify]; exact hk), Array.getElem?_modify, if_neg (fun e => hne e.symm)]
theorem mv_sw {w : World} {b off m : Nat} {d : Array Pe} {os : Array Obj} : Mv (fun k => k = b) w (sortWorldK encPe 2 w b off m d os) := by
  refine ⟨rfl, rfl, rfl, ?_, fun k hk hs => heap_sw k hk hs⟩
  unfold sortWorldK grow putRowK putRow mapBlock
  show _ ≤ ((w.heap.modify b _) ++ os).size
  rw [Array.size_append, Array.size_modify]
  omega
set_option maxRecDepth 100000 in
theorem sortP_any {w : World} {b cap : Nat} {G : List Pe} (h : PRow w b G) (hl : G.length ≤ 1000) :
    Calls Try.prog 45 #[.slice (some ⟨b, 0, none⟩) G.length cap, .func (.func 46) #[] #[]] w fun e w' => e = .returned (.tuple #[]) ∧ Mv (fun k => k = b) w w' ∧ ∃ G' : List Pe, G'.Perm G ∧ G'.Pairwise (fun a b => ltB b.n a.n = false) ∧ ∀ (i : Nat) e, G'[i]? = some e → w'.cell? ⟨b, i * 2, none⟩ = some (.string e.n) ∧ w'.cell? ⟨b, i * 2 + 1, none⟩ = some (.slice e.a e.L.length e.c) := by
  have eg : ∀ args w, (callFunc 46 args).run Try.prog w = .ok (.enter 46 args) w := enters_of Try.func46 (by kernel_rfl) rfl
  have hcmp : CmpLays Try.prog 46 #[] encPe 2 cfPe b 0 G.toArray.size w := fun m os dk _ x y => by
    refine (order_any x.n y.n x.a y.a x.L.length x.c y.L.length y.c _).mono ?_
    rintro e w' ⟨rfl, rfl⟩
    exact ⟨rfl, 0, _, by rw [alloc_eq_grow, alloc_eq_grow, grow_grow]; rfl⟩
  have hcon := AnyQ.slices_SortFunc Try.sortL 2 Try.isAgg67 Try.sizeOf67 encPe (fun _ => rfl) (fun x v hv => by simp [encPe] at hv; rcases hv with rfl | rfl <;> rfl) cfPe swoPe 46 #[] b 0 cap G.toArray w eg hcmp (holds_pe h) h.lt (by simp; omega)
  have hcon2 : Calls Try.prog 45 #[.slice (some ⟨b, 0, none⟩) G.length cap, .func (.func 46) #[] #[]] w _ := hcon
  refine hcon2.mono ?_
  rintro e w' ⟨rfl, d', n, os, hp, hs, rfl⟩
  obtain ⟨hp1, _, hp3⟩ := hp
  have hsz : d'.size = G.length := by rw [hp1]; simp
  refine ⟨rfl, mv_sw, d'.toList, ?_, ?_, fun i e hi => ?_⟩
  · have e1 : d'.extract 0 G.toArray.size = d' := by rw [← hp1]; simp
    have e2 : G.toArray.extract 0 G.toArray.size = G.toArray := by simp
    rw [e1, e2] at hp3
    exact hp3
  · rw [List.pairwise_iff_getElem]
    intro i j hi hj hij
    have hj' : j < d'.size := by simpa using hj
    have := hs i j (Nat.zero_le _) hij (by rw [← hp1]; exact hj')
    rw [ltPe] at this
    rw [getElem!_pos d' j hj', getElem!_pos d' i (by omega)] at this
    simpa using this
  · have hH : HoldsK encPe 2 (sortWorldK encPe 2 w b 0 n d' os) b 0 d' := by
      unfold sortWorldK
      refine holdsK_grow _ _ _ _ _ _ _ ?_ (holdsK_putRowK _ _ _ _ _ G.toArray _ (holdsK_ahead _ _ _ _ _ _ _ (holds_pe h)) hp1)
      show b < (putRowK encPe 2 (Go.Sort.ahead w n) b 0 d').heap.size
      unfold putRowK putRow mapBlock
      show b < (w.heap.modify b _).size
      rw [Array.size_modify]; exact h.lt
    have hi2 : i < d'.size := by have := (List.getElem?_eq_some_iff.1 hi).1; simpa using this
    have e1 : d'[i]! = e := by
      rw [getElem!_pos d' i hi2]
      have := (List.getElem?_eq_some_iff.1 hi).2
      simpa using this
    have c0 := hH.cell hi2 (show 0 < 2 by omega)
    have c1 := hH.cell hi2 (show 1 < 2 by omega)
    rw [e1] at c0 c1
    simp only [Nat.zero_add, Nat.add_zero] at c0 c1
    exact ⟨c0.1, c1.1⟩
end Go.Proofs.Ytgmeecfdkcbggaa
namespace Go.Proofs.Ytgmeecfdkcbggaa
open Go.RowKit Go.Shelf
/-- shown(slices.Values(l)), the second call. -/
theorem showV_any {A : World} {S : Nat → Bool} (hS : ∀ k, S k = true → k < A.heap.size) {a : Option Addr} {cap : Nat} {D : List Sp} (hr : SpRow (offS A.cell? S) a D) (hD : ∀ s ∈ D, SpAt (offS A.cell? S) s) (hlen : D.length ≤ 1000) :
    Calls Try.prog 26 #[.func (.func 57) #[] #[.pointer (some ⟨A.heap.size, 0, none⟩)]] (A.alloc (.cells #[.slice a D.length cap] 51)) fun e B => ∃ a' cap', e = .returned (.slice a' (shS D).length cap') ∧ (shS D).length ≤ cap' ∧ cap' ≤ 9223372036854775807 ∧ SpRow (offS B.cell? S) a' (shS D) ∧ Below A.heap.size A B := by
  have hB1 : Below A.heap.size A (A.alloc (.cells #[.slice a D.length cap] 51)) := (Below.refl _ A).alloc (Nat.le_refl _) _
  have hm1 := mle_below hB1
  have hle := offS_le A.cell? S
  have c0 : (A.alloc (.cells #[.slice a D.length cap] 51)).cell? ⟨A.heap.size, 0, none⟩ = some (.slice a D.length cap) := World.cell?_alloc_at _ _ _ _ rfl
  have hits := values1_any A.heap.size _ a cap D _ rfl c0 hlen ((hr.on hle).on hm1)
  refine (shown_any hits (enters_of Try.func57 (by kernel_rfl) rfl) (fun s hs => ((hD s hs).on hle).on hm1) hlen).mono ?_
  rintro e B ⟨a', cap', rfl, h1, h2, h3, h4, hB⟩
  refine ⟨a', cap', rfl, h1, h2, ?_, hB1.trans (hB.mono hB1.size)⟩
  rcases h3 with e | ⟨b, off, e, h3⟩
  · exact .inl e
  · rcases h4 with e2 | ⟨g, o2, e2, hg⟩
    · exact .inl e2
    · rw [e] at e2
      simp only [Option.some.injEq, Addr.mk.injEq] at e2
      refine .inr ⟨b, off, e, fun i d hi => ?_⟩
      have hb : S b = false := by
        cases hh : S b with
        | false => rfl
        | true => have := hS b hh; have := hB1.size; omega
      rw [offS_ne (show S (⟨b, off + i * 2, none⟩ : Addr).block = false from hb), offS_ne (show S (⟨b, off + i * 2 + 1, none⟩ : Addr).block = false from hb)]
      exact h3 i d hi
theorem indexP_nil (a : Option Addr) (cap : Nat) (w : World) :
    Calls Try.prog 58 #[.slice a 0 cap, .func (.func 44) #[] #[]] w fun e w' => e = .returned (.int .i64 (-1)) ∧ w = w' := by
  go_enter Try.func58, Try.ntmps58
  go_wp2
  go_loop [8] (fun i => i = .int .i64 0) (fun _ => 0)
  case atStart => rfl
  case round =>
    subst hrel
    go_wp2
    go_ret
    exact ⟨rfl, rfl⟩
theorem delP_nil (a : Option Addr) (cap : Nat) (w : World) :
    Calls Try.prog 43 #[.slice a 0 cap, .func (.func 44) #[] #[]] w fun e w' => e = .returned (.slice a 0 cap) ∧ w = w' := by
  have HI : Hid _ := indexP_nil a cap w
  go_enter Try.func43, Try.ntmps43
  go_wp2_with fail
  refine Calls.mono HI.out ?_
  rintro e w1 ⟨rfl, rfl⟩
  go_wp2
  go_ret
  exact ⟨rfl, rfl⟩
theorem sortP_nil (a : Option Addr) (cap : Nat) (fv : Value) (w : World) :
    Calls Try.prog 45 #[.slice a 0 cap, fv] w fun e w' => e = .returned (.tuple #[]) ∧ w' = w := AnyF.slices_SortFunc_none Try.sortL a cap fv w
/-- A slice of places: names, and what is seen there. -/
def PlL (c : Mem) (v : Value) (M : List (ByteArray × Fls)) : Prop := ∃ (a : Option Addr) (cap : Nat) (G : List Pe), v = .slice a G.length cap ∧ G.length ≤ cap ∧ cap ≤ 9223372036854775807 ∧
  (G = [] ∨ ∃ b, a = some ⟨b, 0, none⟩ ∧ ∀ (i : Nat) e, G[i]? = some e → c ⟨b, i * 2, none⟩ = some (.string e.n) ∧ c ⟨b, i * 2 + 1, none⟩ = some (.slice e.a e.L.length e.c)) ∧
  (∀ e ∈ G, SpL c (.slice e.a e.L.length e.c) (e.L.map Sp.pr)) ∧ (pls G).map plP = M
theorem PlL.on {c c' : Mem} {v : Value} {M : List (ByteArray × Fls)} (h : PlL c v M) (hb : MLe c c') : PlL c' v M := by
  obtain ⟨a, cap, G, h1, h2, h3, h4, h5, h6⟩ := h
  refine ⟨a, cap, G, h1, h2, h3, ?_, fun e he => (h5 e he).on hb, h6⟩
  rcases h4 with e | ⟨b, e, h⟩
  · exact .inl e
  · exact .inr ⟨b, e, fun i e hi => ⟨hb _ _ (h i e hi).1, hb _ _ (h i e hi).2⟩⟩
structure GOK (c : Mem) (e : Pe) : Prop where
  row : SpRow c e.a e.L
  at_ : ∀ s ∈ e.L, SpAt c s
  cap : e.L.length ≤ e.c
  cap2 : e.c ≤ 9223372036854775807
  len : e.L.length ≤ 1000
theorem GOK.on {c c' : Mem} {e : Pe} (h : GOK c e) (hb : MLe c c') : GOK c' e := ⟨h.row.on hb, fun s hs => (h.at_ s hs).on hb, h.cap, h.cap2, h.len⟩
theorem GOK.spl {c : Mem} {e : Pe} (h : GOK c e) : SpL c (.slice e.a e.L.length e.c) (e.L.map Sp.pr) := ⟨e.a, e.c, e.L, rfl, h.cap, h.cap2, h.row, h.at_, rfl⟩
theorem PRow.set1 {w : World} {b : Nat} {G : List Pe} (h : PRow w b G) {i : Nat} {o : Pe} (hi : G[i]? = some o) (e : Pe) (hn : e.n = o.n) : PRow (w.setCell ⟨b, i * 2 + 1, none⟩ (.slice e.a e.L.length e.c)) b (G.set i e) := by
  obtain ⟨o1, o2⟩ := h.cell i o hi
  have hlt := (List.getElem?_eq_some_iff.1 hi).1
  refine ⟨fun j f hj => ?_, fun j => by rw [World.frozen?_setCell]; exact h.free j, by rw [World.size_setCell]; exact h.lt⟩
  rw [List.getElem?_set] at hj
  split at hj
  · rename_i e1
    subst e1
    cases hj
    refine ⟨?_, World.cell?_setCell_same _ _ _ o2⟩
    rw [World.cell?_setCell_other _ _ _ _ (by simp), hn]
    exact o1
  · rename_i e1
    obtain ⟨q1, q2⟩ := h.cell j f hj
    refine ⟨?_, ?_⟩
    · rw [World.cell?_setCell_other _ _ _ _ (fun e => by have := (Addr.mk.inj e).2.1; omega)]; exact q1
    · rw [World.cell?_setCell_other _ _ _ _ (fun e => by have := (Addr.mk.inj e).2.1; omega)]; exact q2
theorem pls_some (G : List Pe) : pls (someP G) = (pls G).filter fun p => !p.2.isEmpty := by
  unfold pls someP
  rw [List.filter_map]
  rfl
def shE (p : ByteArray × List Sp) : ByteArray × List Sp := (p.1, shS p.2)
theorem set_map {A : Pls} {j : Nat} {p : ByteArray × List Sp} (h : A[j]? = some p) : ((A.take j).map shE ++ A.drop j).set j (shE p) = (A.take (j + 1)).map shE ++ A.drop (j + 1) := by
  obtain ⟨hlt, e⟩ := List.getElem?_eq_some_iff.1 h
  have hl : ((A.take j).map shE).length = j := by rw [List.length_map, List.length_take]; omega
  rw [List.set_append_right _ _ (by omega), hl, Nat.sub_self, List.drop_eq_getElem_cons hlt, List.set_cons_zero, List.take_add_one, h, List.map_append]
  simp
end Go.Proofs.Ytgmeecfdkcbggaa
