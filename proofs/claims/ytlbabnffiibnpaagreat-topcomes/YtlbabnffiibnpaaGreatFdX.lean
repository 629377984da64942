/-
  A TREE WITH PLACES THAT WAIT: the facts of no program.
  WHAT Flat HOLDS WHILE IT WORKS: no walk.
  WHAT Flat HOLDS WHEN A PLACE IS DONE: no walk.
  WHAT Flat HOLDS AT ITS BEGINNING; THE MARKS: no walk.
  WHAT STANDS WHILE KIDS ARE PUT ON THE WORK: no walk.
  ALONG: what stands between its rounds; no walk.
  A REGION THAT DRAWS ITS ORDER, BY WHAT IS KEPT; what is kept while Along lays what it saw into its rows.
-/
import Derived.Test.YtlbabnffiibnpaaGreatNpX
import Derived.Test.YtlbabnffiibnpaaGreatWoX
import Derived.Test.YtlbabnffiibnpaaGreatFoY
import Derived.Test.YtlbabnffiibnpaaGreatFnY
import Derived.Test.YtlbabnffiibnpaaGreatUbX
import Derived.Test.YtlbabnffiibnpaaGreatMiX
import Derived.OrdersIn
namespace Go.Proofs.YtlbabnffiibnpaaGreat
open Go.RowKit
/-- A place that waits, and what will be there. -/
structure Tk where
  b : Nat
  p : Nat
  x : Nd
def Tk.has (t : Tk) (q : Addr) : Bool := q.block == t.b && (decide (t.p ≤ q.off) && decide (q.off < t.p + 8))
def inT (T : List Tk) (q : Addr) : Bool := T.any fun t => t.has q
/-- A memory but some blocks, and the places that wait. -/
def offT (c : Mem) (S : Nat → Bool) (T : List Tk) : Mem := fun q => if (S q.block || inT T q) = true then none else c q
theorem offT_ne {c : Mem} {S : Nat → Bool} {T : List Tk} {q : Addr} (h1 : S q.block = false) (h2 : inT T q = false) : offT c S T q = c q := by unfold offT; rw [h1, h2]; rfl
theorem offT_off {c : Mem} {S : Nat → Bool} {T : List Tk} {q : Addr} {v : Value} (h : offT c S T q = some v) : S q.block = false ∧ inT T q = false ∧ c q = some v := by
  unfold offT at h
  cases h1 : S q.block with
  | true => rw [h1] at h; cases h
  | false =>
    cases h2 : inT T q with
    | true => rw [h1, h2] at h; cases h
    | false => rw [h1, h2] at h; exact ⟨rfl, rfl, h⟩
theorem offT_le (c : Mem) (S : Nat → Bool) (T : List Tk) : MLe (offT c S T) c := fun _ _ h => (offT_off h).2.2
theorem offT_nil (c : Mem) (S : Nat → Bool) : MLe (offT c S []) (offS c S) := fun q v h => by
  obtain ⟨h1, _, h2⟩ := offT_off h
  rw [offS_ne h1]; exact h2
/-- The blocks with places that wait are hidden whole. -/
def blkT (S : Nat → Bool) (T : List Tk) : Nat → Bool := fun k => S k || T.any fun t => k == t.b
theorem blkT_no {S : Nat → Bool} {T : List Tk} {k : Nat} : blkT S T k = false ↔ S k = false ∧ ∀ t ∈ T, k ≠ t.b := by simp [blkT]
theorem inT_blk {T : List Tk} {q : Addr} (h : ∀ t ∈ T, q.block ≠ t.b) : inT T q = false := by
  unfold inT
  rw [List.any_eq_false]
  intro t ht
  simp [Tk.has, h t ht]
theorem offS_offT (c : Mem) (S : Nat → Bool) (T : List Tk) : MLe (offS c (blkT S T)) (offT c S T) := fun q v h => by
  have hs := offS_off h
  rw [offS_ne hs] at h
  obtain ⟨h1, h2⟩ := blkT_no.1 hs
  rw [offT_ne h1 (inT_blk h2)]; exact h
/-- A tree in memory, but for the places that wait. -/
inductive Part (c : Mem) (T : List Tk) : Nd → Nat → Nat → Prop
  | hole {x : Nd} {b p : Nat} (h : (⟨b, p, x⟩ : Tk) ∈ T) : Part c T x b p
  | node {k m u g : Int} {o : Bool} {at_ : List Kv} {d : ByteArray} {ks : Kds} {h : Hd} {b p : Nat} (kb ko : Nat) (hn : NAt c b p (.mk k m u g o at_ d ks) h) (ha : Kvm c h.aa at_) (hca : at_.length ≤ h.ca ∧ h.ca ≤ 9223372036854775807) (hck : ks.length ≤ h.ck ∧ h.ck ≤ 9223372036854775807)
      (hak : ks = [] ∨ h.ak = some ⟨kb, ko, none⟩) (hc : ∀ i n y, ks[i]? = some (n, y) → c ⟨kb, ko + i * 9, none⟩ = some (.string n)) (hr : ∀ i n y, ks[i]? = some (n, y) → Part c T y kb (ko + i * 9 + 1)) : Part c T (.mk k m u g o at_ d ks) b p
theorem Part.step {c c' : Mem} {T T' : List Tk} (hm : MLe c c') (hT : ∀ t ∈ T, t ∈ T' ∨ Part c' T' t.x t.b t.p) {x : Nd} {b p : Nat} (h : Part c T x b p) : Part c' T' x b p := by
  induction h with
  | hole h =>
    rcases hT _ h with e | e
    · exact .hole e
    · exact e
  | node kb ko hn ha hca hck hak hc _ ih => exact .node kb ko (hn.on hm) (ha.on hm) hca hck hak (fun i n y hi => hm _ _ (hc i n y hi)) ih
theorem Part.done {c : Mem} {x : Nd} {b p : Nat} (h : Part c [] x b p) : ∃ hd, NAt c b p x hd ∧ NdV c x hd := by
  induction h with
  | hole h => cases h
  | @node k m u g o at_ d ks h b p kb ko hn ha hca hck hak hc _ ih =>
    obtain ⟨F, hF⟩ : ∃ F : Nat → Hd, ∀ i n y, ks[i]? = some (n, y) → NAt c kb (ko + i * 9 + 1) y (F i) ∧ NdV c y (F i) := by
      refine ⟨fun i => if hi : i < ks.length then Classical.choose (ih i ks[i].1 ks[i].2 (List.getElem?_eq_getElem hi)) else h, fun i n y hi => ?_⟩
      obtain ⟨hlt, he⟩ := List.getElem?_eq_some_iff.1 hi
      simp only [hlt, dite_true]
      have := Classical.choose_spec (ih i ks[i].1 ks[i].2 (List.getElem?_eq_getElem hlt))
      simp only [he] at this ⊢
      exact this
    exact ⟨h, hn, .mk kb ko F ha hca hck hak (fun i n y hi => ⟨hc i n y hi, (hF i n y hi).1⟩) (fun i n y hi => (hF i n y hi).2)⟩
/-- Places that wait do not meet. -/
def Apt (T : List Tk) : Prop := T.Pairwise fun a b => a.b ≠ b.b ∨ a.p + 8 ≤ b.p ∨ b.p + 8 ≤ a.p
theorem apt_has {T : List Tk} {t : Tk} (h : Apt (T ++ [t])) (j : Nat) (hj : j < 8) : inT T ⟨t.b, t.p + j, none⟩ = false := by
  unfold inT
  rw [List.any_eq_false]
  intro s hs
  have h1 := (List.pairwise_append.1 h).2.2 s hs t (List.mem_singleton.2 rfl)
  simp [Tk.has]
  intro e h2
  rcases h1 with h1 | h1 | h1
  · exact absurd e.symm h1
  · omega
  · omega
theorem inT_app {A B : List Tk} {q : Addr} : inT (A ++ B) q = (inT A q || inT B q) := by unfold inT; rw [List.any_append]
theorem inT_one {t : Tk} {q : Addr} : inT [t] q = t.has q := by unfold inT; simp
/-- The last place is done: kids of it wait in a new row. -/
theorem part_next {c c' : Mem} {S S' : Nat → Bool} {T N : List Tk} {t : Tk} {n0 g : Nat} {k m u gg : Int} {o : Bool} {at_ : List Kv} {d : ByteArray} {ks : Kds} {h : Hd}
    (hT : t.x = .mk k m u gg o at_ d ks) (hA : Apt (T ++ [t])) (hlo : ∀ q v, c q = some v → q.block < n0) (hTb : ∀ s ∈ T ++ [t], s.b < n0 ∧ S s.b = false) (hg : n0 ≤ g) (hNb : ∀ s ∈ N, s.b = g)
    (hS : ∀ k, k < n0 → S k = false → S' k = false) (hk : MLe (offT c S (T ++ [t])) c')
    (hn : NAt c' t.b t.p (.mk k m u gg o at_ d ks) h) (ha : Kvm (offT c' S' (T ++ N)) h.aa at_) (hca : at_.length ≤ h.ca ∧ h.ca ≤ 9223372036854775807) (hck : ks.length ≤ h.ck ∧ h.ck ≤ 9223372036854775807) (hak : ks = [] ∨ (h.ak = some ⟨g, 0, none⟩ ∧ S' g = false))
    (hc : ∀ i nm y, ks[i]? = some (nm, y) → c' ⟨g, i * 9, none⟩ = some (.string nm) ∧ (⟨g, i * 9 + 1, y⟩ : Tk) ∈ N) (hN : ∀ s ∈ N, ∃ i, s.p = i * 9 + 1)
    {x : Nd} {b p : Nat} (hp : Part (offT c S (T ++ [t])) (T ++ [t]) x b p) : Part (offT c' S' (T ++ N)) (T ++ N) x b p := by
  have hm : MLe (offT c S (T ++ [t])) (offT c' S' (T ++ N)) := fun q v hq => by
    obtain ⟨h1, h2, h3⟩ := offT_off hq
    have hlt := hlo q v h3
    rw [inT_app] at h2
    have h4 : inT T q = false := (Bool.or_eq_false_iff.1 h2).1
    rw [offT_ne (hS _ hlt h1) (by rw [inT_app, h4, inT_blk fun s hs e => by rw [hNb s hs] at e; omega]; rfl)]
    exact hk q v hq
  refine hp.step hm fun s hs => ?_
  rcases List.mem_append.1 hs with e | e
  · exact .inl (List.mem_append.2 (.inl e))
  rw [List.mem_singleton] at e
  subst e
  right
  rw [hT]
  have hb := hTb s (List.mem_append.2 (.inr (List.mem_singleton.2 rfl)))
  have hvis : ∀ j, j < 8 → inT (T ++ N) ⟨s.b, s.p + j, none⟩ = false := fun j hj => by
    rw [inT_app, apt_has hA j hj, inT_blk fun t ht e => by rw [hNb t ht] at e; have e : s.b = g := e; omega]; rfl
  have hsee : ∀ j v, j < 8 → c' ⟨s.b, s.p + j, none⟩ = some v → offT c' S' (T ++ N) ⟨s.b, s.p + j, none⟩ = some v := fun j v hj hv => by
    rw [offT_ne (hS _ hb.1 hb.2) (hvis j hj)]; exact hv
  refine .node g 0 (h := h) ?_ ha hca hck (hak.imp id fun e => e.1) (fun i nm y hi => ?_) (fun i nm y hi => .hole ?_)
  · obtain ⟨e0, e1, e2, e3, e4, e5, e6, e7⟩ := hn
    exact ⟨hsee 0 _ (by omega) e0, hsee 1 _ (by omega) e1, hsee 2 _ (by omega) e2, hsee 3 _ (by omega) e3, hsee 4 _ (by omega) e4, hsee 5 _ (by omega) e5, hsee 6 _ (by omega) e6, hsee 7 _ (by omega) e7⟩
  · have hne : ks ≠ [] := fun e => by rw [e] at hi; simp at hi
    have hSg := (hak.resolve_left hne).2
    rw [Nat.zero_add]
    rw [offT_ne hSg]
    · exact (hc i nm y hi).1
    · rw [inT_app, inT_blk fun t ht e => by have h1 := (hTb t (List.mem_append.2 (.inl ht))).1; have e : g = t.b := e; omega]
      show inT N _ = false
      unfold inT
      rw [List.any_eq_false]
      intro t ht
      obtain ⟨i', e⟩ := hN t ht
      simp [Tk.has]
      intro _ h2
      omega
  · rw [Nat.zero_add]
    exact List.mem_append.2 (.inr (hc i nm y hi).2)
end Go.Proofs.YtlbabnffiibnpaaGreat
namespace Go.Proofs.YtlbabnffiibnpaaGreat
open Go.RowKit Go.Shelf
/-- A place that waits, with what is seen there. -/
structure Ft where
  b : Nat
  p : Nat
  a : Option Addr
  c : Nat
  l : Fls
def Ft.tk (F : Nd → Nat → Nd) (t : Ft) : Tk := ⟨t.b, t.p, flatD F t.l⟩
abbrev tks (F : Nd → Nat → Nd) (T : List Ft) : List Tk := T.map (Ft.tk F)
def flT : List Ft → List Value
  | [] => []
  | t :: r => .pointer (some ⟨t.b, t.p, none⟩) :: .slice t.a t.l.length t.c :: flT r
theorem flT_app : ∀ A B : List Ft, flT (A ++ B) = flT A ++ flT B
  | [], _ => rfl
  | e :: r, B => by simp [flT, flT_app r B]
theorem flT_len : ∀ A : List Ft, (flT A).length = A.length * 2
  | [] => rfl
  | e :: r => by simp [flT, flT_len r]; omega
theorem flT_last (T : List Ft) (t : Ft) : (flT (T ++ [t]))[T.length * 2]? = some (.pointer (some ⟨t.b, t.p, none⟩)) ∧ (flT (T ++ [t]))[T.length * 2 + 1]? = some (.slice t.a t.l.length t.c) := by
  rw [flT_app, List.getElem?_append_right (by rw [flT_len]; omega), List.getElem?_append_right (by rw [flT_len]; omega), flT_len, Nat.sub_self, Nat.add_sub_cancel_left]
  exact ⟨rfl, rfl⟩
/-- What is seen may be gone over. -/
structure SeenOk (l : Fls) : Prop where
  ne : l ≠ []
  ly : (l.map (·.2)).Nodup
  lil : ∀ q ∈ l, Lil q.1
  lim : ∀ q ∈ l, Lim q.1
  tot : tot l ≤ 1000
  ids : ∀ q ∈ l, IdN q.1
theorem dirP_pre : ∀ l : Fls, (dirP l).Sublist l
  | [] => List.Sublist.refl _
  | q :: r => by
    rw [dirP]
    split
    · exact List.nil_sublist _
    split
    · exact List.Sublist.cons_cons _ (List.nil_sublist _)
    · exact List.Sublist.cons_cons _ (dirP_pre r)
theorem shP_pre (l : Fls) : (shP l).Sublist l := by
  cases l with
  | nil => exact List.Sublist.refl _
  | cons q r =>
    rw [shP]
    split
    · exact List.Sublist.cons_cons _ (List.nil_sublist _)
    · exact dirP_pre _
theorem kidsP_ly (nm : ByteArray) : ∀ l : Fls, ((kidsP nm l).map (·.2)).Sublist (l.map (·.2))
  | [] => List.Sublist.refl _
  | q :: r => by
    have ih := kidsP_ly nm r
    unfold kidsP at ih ⊢
    rw [List.filterMap_cons]
    cases kidO nm q.1 with
    | none => exact List.Sublist.cons _ ih
    | some y => exact List.Sublist.cons_cons _ ih
theorem lil_kid {x y : Nd} {nm : ByteArray} (h : Lil x) (hy : kidO nm x = some y) : Lil y := by
  rw [kidO_eq] at hy
  obtain ⟨i, hi⟩ := List.getElem?_of_mem (dirKs_sub (fstK_mem hy))
  obtain ⟨k, m, u, g, o, at_, d, ks⟩ := x
  rw [Lil] at h
  exact (lilL_get h.2.2 hi).2
theorem lim_kid {x y : Nd} {nm : ByteArray} (h : Lim x) (hy : kidO nm x = some y) : Lim y := by
  rw [kidO_eq] at hy
  obtain ⟨i, hi⟩ := List.getElem?_of_mem (dirKs_sub (fstK_mem hy))
  obtain ⟨k, m, u, g, o, at_, d, ks⟩ := x
  rw [Lim] at h
  exact limL_get h.2.2 hi
theorem nxt_mem {l : Fls} {nm : ByteArray} {q : Nd × Nat} (h : q ∈ nxt l nm) : ∃ p ∈ l, kidO nm p.1 = some q.1 := by
  obtain ⟨p, hp, e⟩ := List.mem_filterMap.1 (shP_sub _ _ h)
  obtain ⟨y, hy, rfl⟩ := Option.map_eq_some_iff.1 e
  exact ⟨p, hp, hy⟩
theorem SeenOk.next {l : Fls} (h : SeenOk l) {nm : ByteArray} (hn : nxt l nm ≠ []) : SeenOk (nxt l nm) := by
  refine ⟨hn, ?_, fun q hq => ?_, fun q hq => ?_, ?_, fun q hq => ?_⟩
  · exact (h.ly.sublist (kidsP_ly nm l)).sublist ((shP_pre _).map _)
  · obtain ⟨p, hp, e⟩ := nxt_mem hq
    exact lil_kid (h.lil p hp) e
  · obtain ⟨p, hp, e⟩ := nxt_mem hq
    exact lim_kid (h.lim p hp) e
  · have := tot_nxt1 l nm; have := h.tot; omega
  · exact IdP.sh (IdP.kid h.ids nm) q hq
theorem ly_of {D : List Sp} {l : Fls} (h : D.map Sp.pr = l) (hl : (l.map (·.2)).Nodup) : ∀ (i j : Nat) a b, D[i]? = some a → D[j]? = some b → i ≠ j → a.ly ≠ b.ly := by
  subst h
  intro i j a b hi hj hij e
  have h2 : (D.map (·.ly)).Nodup := by rw [List.map_map] at hl; exact hl
  have h3 := List.pairwise_iff_getElem.1 h2
  obtain ⟨hi1, hi2⟩ := List.getElem?_eq_some_iff.1 hi
  obtain ⟨hj1, hj2⟩ := List.getElem?_eq_some_iff.1 hj
  rcases Nat.lt_or_gt_of_ne hij with q | q
  · exact h3 i j (by simpa using hi1) (by simpa using hj1) q (by simp [hi2, hj2, e])
  · exact h3 j i (by simpa using hj1) (by simpa using hi1) q (by simp [hi2, hj2, e])
/-- What is hidden: the result's box, the work's box and row. -/
def flS (nb wb : Nat) (vw : Value) (S : Nat → Bool) : Nat → Bool := fun k => ((k == nb || k == wb) || some k == vw.ownBlock) || S k
theorem flS_no {nb wb k : Nat} {vw : Value} {S : Nat → Bool} : flS nb wb vw S k = false ↔ k ≠ nb ∧ k ≠ wb ∧ some k ≠ vw.ownBlock ∧ S k = false := by simp [flS, and_assoc]
/-- The place itself. -/
structure PlcOk (w W : World) (nb : Nat) (t : Ft) : Prop where
  lo : w.heap.size ≤ t.b
  ne : t.b ≠ nb
  typ : ∃ cs ty, W.heap[t.b]? = some (.cells cs ty (0, 0)) ∧ (ty = 34 ∨ ty = 61)
  cell : NAt W.cell? t.b t.p zN zH
/-- What stands between two rounds. -/
structure FJ (F : Nd → Nat → Nd) (S : Nat → Bool) (w W : World) (fb ab wb : Nat) (fv vw : Value) (T : List Ft) (top : Fls) : Prop where
  low : Below w.heap.size w W
  res : NBw W w.heap.size zN zH
  rty : ∃ cs, W.heap[w.heap.size]? = some (.cells cs 34 (0, 0))
  fbx : W.heap[fb]? = some (.cells #[fv] 66 (0, 0))
  fbl : w.heap.size ≤ fb
  wbx : Boxed W wb 87 vw
  wbl : w.heap.size ≤ wb
  row : W.ownsRow w.heap.size 86 2 vw T.length (flT T)
  plc : ∀ t ∈ T, PlcOk w W w.heap.size t
  apt : Apt (tks F T)
  see : ∀ t ∈ T, SeenOk t.l ∧ SpL (offS W.cell? (blkT (flS w.heap.size wb vw S) (tks F T))) (.slice t.a t.l.length t.c) t.l
  prt : Part (offT W.cell? (flS w.heap.size wb vw S) (tks F T)) (tks F T) (flatD F top) ab 0
/-- What a round keeps of what it began with. -/
structure RR (w W0 W : World) (H : Nat → Bool) (t : Tk) : Prop where
  low : Below w.heap.size w W
  siz : W0.heap.size ≤ W.heap.size
  res : W.heap[w.heap.size]? = W0.heap[w.heap.size]?
  blk : ∀ k, k < W0.heap.size → H k = false → k ≠ t.b → W.heap[k]? = W0.heap[k]?
  cel : ∀ q : Addr, q.block = t.b → t.has q = false → W.cell? q = W0.cell? q
  typ : ∃ cs ty, W.heap[t.b]? = some (.cells cs ty (0, 0)) ∧ (ty = 34 ∨ ty = 61)
theorem fro_cells {W : World} {b : Nat} {cs : Array Value} {ty : TypeId} (h : W.heap[b]? = some (.cells cs ty (0, 0))) (j : Nat) : W.frozen? ⟨b, j, none⟩ = false := by simp [World.frozen?, h]
theorem RR.start {w W0 : World} {H : Nat → Bool} {t : Tk} (hl : Below w.heap.size w W0) (ht : ∃ cs ty, W0.heap[t.b]? = some (.cells cs ty (0, 0)) ∧ (ty = 34 ∨ ty = 61)) : RR w W0 W0 H t :=
  ⟨hl, Nat.le_refl _, rfl, fun _ _ _ _ => rfl, fun _ _ _ => rfl, ht⟩
theorem RR.mv {w W0 W W' : World} {H : Nat → Bool} {t : Tk} (h : RR w W0 W H t) (htb : t.b < W0.heap.size ∧ H t.b = false) (hnb : w.heap.size < W0.heap.size) (hs : W.heap.size ≤ W'.heap.size) (hl : Below w.heap.size W W') (hb : ∀ k, k < W0.heap.size → (H k = false ∨ k = w.heap.size) → W'.heap[k]? = W.heap[k]?) : RR w W0 W' H t := by
  have hbt := hb t.b htb.1 (.inl htb.2)
  refine ⟨h.low.trans hl, Nat.le_trans h.siz hs, (hb _ hnb (.inr rfl)).trans h.res, fun k hk hH hne => (hb k hk (.inl hH)).trans (h.blk k hk hH hne), fun q hq hh => ?_, ?_⟩
  · exact (World.cell?_of_block (w := W) (by rw [hq]; exact hbt)).trans (h.cel q hq hh)
  · rw [hbt]; exact h.typ
theorem RR.below {w W0 W W' : World} {H : Nat → Bool} {t : Tk} (h : RR w W0 W H t) (htb : t.b < W0.heap.size ∧ H t.b = false) (hnb : w.heap.size < W0.heap.size) (hb : Below W.heap.size W W') : RR w W0 W' H t :=
  h.mv htb hnb hb.size (hb.mono h.low.size) fun k hk _ => hb.block k (Nat.lt_of_lt_of_le hk h.siz)
theorem RR.set {w W0 W : World} {H : Nat → Bool} {t : Tk} (h : RR w W0 W H t) (htb : t.b < W0.heap.size ∧ H t.b = false) (hnb : w.heap.size < W0.heap.size) {p : Addr} (hp : w.heap.size < p.block) (hp2 : W0.heap.size ≤ p.block ∨ H p.block = true) (v : Value) : RR w W0 (W.setCell p v) H t := by
  refine h.mv htb hnb (by rw [World.size_setCell]; exact Nat.le_refl _) ((Below.refl _ W).setCell (p := p) (by omega) v) fun k hk hH => Below.heap_setCell _ _ _ _ fun e => ?_
  subst e
  rcases hp2 with q | q
  · omega
  · rcases hH with r | r
    · rw [q] at r; cases r
    · omega
theorem typ_set {W : World} {b j : Nat} {v : Value} (h : ∃ cs ty, W.heap[b]? = some (.cells cs ty (0, 0)) ∧ (ty = 34 ∨ ty = 61)) : ∃ cs ty, (W.setCell ⟨b, j, none⟩ v).heap[b]? = some (.cells cs ty (0, 0)) ∧ (ty = 34 ∨ ty = 61) := by
  obtain ⟨cs, ty, hh, ht⟩ := h
  refine ⟨cs.setIfInBounds j v, ty, ?_, ht⟩
  obtain ⟨hlt, hk⟩ := Array.getElem?_eq_some_iff.1 hh
  show (W.heap.modify b _)[b]? = _
  rw [Array.getElem?_eq_getElem (by rw [Array.size_modify]; exact hlt), Array.getElem_modify_self, hk]
  rfl
theorem RR.own {w W0 W : World} {H : Nat → Bool} {t : Tk} (h : RR w W0 W H t) (htl : w.heap.size < t.b) (j : Nat) (hj : j < 8) (v : Value) : RR w W0 (W.setCell ⟨t.b, t.p + j, none⟩ v) H t := by
  refine ⟨h.low.setCell (p := ⟨t.b, t.p + j, none⟩) (Nat.le_of_lt htl) v, by rw [World.size_setCell]; exact h.siz, ?_, fun k hk hH hne => ?_, fun q hq hh => ?_, typ_set h.typ⟩
  · rw [Below.heap_setCell _ _ _ _ (by show w.heap.size ≠ t.b; omega)]; exact h.res
  · rw [Below.heap_setCell _ _ _ _ (by exact hne)]; exact h.blk k hk hH hne
  · rw [World.cell?_setCell_other _ _ _ _ (fun e => ?_)]
    · exact h.cel q hq hh
    · subst e
      simp [Tk.has] at hh
      omega
theorem RR.st8 {w W0 W : World} {H : Nat → Bool} {t : Tk} (h : RR w W0 W H t) (htl : w.heap.size < t.b) (x : Nd) (hd : Hd) : RR w W0 (Go.Proofs.YtlbabnffiibnpaaGreat.st8 W t.b t.p x hd) H t := by
  obtain ⟨k, m, u, g, o, at_, d, ks⟩ := x
  exact ((((((((h.own htl 0 (by omega) _).own htl 1 (by omega) _).own htl 2 (by omega) _).own htl 3 (by omega) _).own htl 4 (by omega) _).own htl 5 (by omega) _).own htl 6 (by omega) _).own htl 7 (by omega) _)
/-- What could be seen can be seen still. -/
theorem RR.mle {w W0 W : World} {H : Nat → Bool} {t : Tk} {T : List Tk} (h : RR w W0 W H t) : MLe (offT W0.cell? H (T ++ [t])) W.cell? := fun q v hq => by
  obtain ⟨h1, h2, h3⟩ := offT_off hq
  have hlt := World.block_lt_of_cell? _ _ h3
  by_cases e : q.block = t.b
  · rw [inT_app, inT_one] at h2
    exact (h.cel q e (Bool.or_eq_false_iff.1 h2).2).trans h3
  · exact (World.cell?_of_block (w := W0) (h.blk _ hlt h1 e)).trans h3
end Go.Proofs.YtlbabnffiibnpaaGreat
namespace Go.Proofs.YtlbabnffiibnpaaGreat
open Go.RowKit Go.Shelf
theorem nat_other {c c' : Mem} {b p : Nat} {x : Nd} {h : Hd} (hn : NAt c b p x h) (hc : ∀ j, j < 8 → c' ⟨b, p + j, none⟩ = c ⟨b, p + j, none⟩) : NAt c' b p x h := by
  obtain ⟨k, m, u, g, o, at_, d, ks⟩ := x
  obtain ⟨h0, h1, h2, h3, h4, h5, h6, h7⟩ := hn
  exact ⟨(hc 0 (by omega)).trans h0, (hc 1 (by omega)).trans h1, (hc 2 (by omega)).trans h2, (hc 3 (by omega)).trans h3, (hc 4 (by omega)).trans h4, (hc 5 (by omega)).trans h5, (hc 6 (by omega)).trans h6, (hc 7 (by omega)).trans h7⟩
theorem FJ.tb {F : Nd → Nat → Nd} {S : Nat → Bool} (_hS : ∀ _w : World, True) {w W : World} {fb ab wb : Nat} {fv vw : Value} {T : List Ft} {top : Fls} (h : FJ F S w W fb ab wb fv vw T top) (hS0 : ∀ k, S k = true → k < w.heap.size) {t : Ft} (ht : t ∈ T) : w.heap.size < t.b ∧ t.b < W.heap.size ∧ flS w.heap.size wb vw S t.b = false ∧ t.b ≠ fb := by
  have hp := h.plc t ht
  obtain ⟨cs, ty, hh, hty⟩ := hp.typ
  have hlt := (Array.getElem?_eq_some_iff.1 hh).1
  have hlo := hp.lo
  have hne := hp.ne
  have hwb : t.b ≠ wb := fun e => by
    have := h.wbx
    unfold Boxed at this
    rw [← e, hh] at this
    simp at this
    rcases hty with q | q
    · rw [q] at this; exact absurd this.2 (by decide)
    · rw [q] at this; exact absurd this.2 (by decide)
  have hfb : t.b ≠ fb := fun e => by
    have := h.fbx
    rw [← e, hh] at this
    simp at this
    rcases hty with q | q
    · rw [q] at this; exact absurd this.2 (by decide)
    · rw [q] at this; exact absurd this.2 (by decide)
  have hrw : some t.b ≠ vw.ownBlock := fun e => by
    rcases h.row.2 with ⟨e1, _⟩ | ⟨g, cap, cur, e1, _, hg, _⟩
    · rw [e1] at e; cases e
    · rw [e1] at e
      simp [Value.ownBlock] at e
      rw [← e, hh] at hg
      simp at hg
      rcases hty with q | q
      · rw [q] at hg; exact absurd hg.2 (by decide)
      · rw [q] at hg; exact absurd hg.2 (by decide)
  refine ⟨by omega, hlt, flS_no.2 ⟨hne, hwb, hrw, ?_⟩, hfb⟩
  cases hh2 : S t.b with
  | false => rfl
  | true => have := hS0 _ hh2; omega
theorem FJ.next {F : Nd → Nat → Nd} {S : Nat → Bool} {w W0 W : World} {fb ab wb wb' : Nat} {fv vw vw' : Value} {T N : List Ft} {t : Ft} {top : Fls} (h : FJ F S w W0 fb ab wb fv vw (T ++ [t]) top) (hS0 : ∀ k, S k = true → k < w.heap.size) (r : RR w W0 W (flS w.heap.size wb vw S) (t.tk F))
    (hwb : Boxed W wb' 87 vw') (hwl : W0.heap.size ≤ wb') (hrow : W.ownsRow w.heap.size 86 2 vw' (T ++ N).length (flT (T ++ N))) (hvw : vw'.ownBlock = vw.ownBlock ∨ ∃ s, vw'.ownBlock = some s ∧ W0.heap.size ≤ s)
    {g : Nat} (hg : W0.heap.size ≤ g) (hNb : ∀ s ∈ N, s.b = g ∧ (∃ i, s.p = i * 9 + 1) ∧ (∃ cs, W.heap[g]? = some (.cells cs 61 (0, 0))) ∧ NAt W.cell? s.b s.p zN zH) (hNa : Apt (tks F N))
    {k m u gg : Int} {o : Bool} {at_ : List Kv} {d : ByteArray} {ks : Kds} {hd : Hd} (hx : flatD F t.l = .mk k m u gg o at_ d ks) (hn : NAt W.cell? t.b t.p (.mk k m u gg o at_ d ks) hd) (ha : Kvm (offS W.cell? (blkT (flS w.heap.size wb' vw' S) (tks F (T ++ N)))) hd.aa at_) (hca : at_.length ≤ hd.ca ∧ hd.ca ≤ 9223372036854775807) (hck : ks.length ≤ hd.ck ∧ hd.ck ≤ 9223372036854775807)
    (hak : ks = [] ∨ (hd.ak = some ⟨g, 0, none⟩ ∧ ∃ cs, W.heap[g]? = some (.cells cs 61 (0, 0)))) (hc : ∀ (i : Nat) nm y, ks[i]? = some (nm, y) → W.cell? ⟨g, i * 9, none⟩ = some (.string nm) ∧ (⟨g, i * 9 + 1, y⟩ : Tk) ∈ tks F N)
    (hsee : ∀ s ∈ N, SeenOk s.l ∧ SpL (offS W.cell? (blkT (flS w.heap.size wb' vw' S) (tks F (T ++ N)))) (.slice s.a s.l.length s.c) s.l) :
    FJ F S w W fb ab wb' fv vw' (T ++ N) top := by
  have tb := fun s hs => h.tb (fun _ => trivial) hS0 (t := s) hs
  have htm : t ∈ T ++ [t] := List.mem_append.2 (.inr (List.mem_singleton.2 rfl))
  obtain ⟨t1, t2, t3, t4⟩ := tb t htm
  have hnb : w.heap.size < W0.heap.size := by omega
  -- blocks that can be seen
  have vis : ∀ q, q < W0.heap.size → flS w.heap.size wb vw S q = false → flS w.heap.size wb' vw' S q = false := fun q hq hf => by
    obtain ⟨h1, _, h3, h4⟩ := flS_no.1 hf
    refine flS_no.2 ⟨h1, by omega, fun e => ?_, h4⟩
    rcases hvw with q1 | ⟨s, q1, q2⟩
    · exact h3 (e.trans q1)
    · rw [q1] at e
      simp at e
      omega
  have hgS : (∃ cs, W.heap[g]? = some (.cells cs 61 (0, 0))) → flS w.heap.size wb' vw' S g = false := fun ⟨cs, hh⟩ => by
    refine flS_no.2 ⟨by omega, fun e => ?_, fun e => ?_, ?_⟩
    · unfold Boxed at hwb
      rw [← e, hh] at hwb
      simp at hwb
    · rcases hrow.2 with ⟨e1, _⟩ | ⟨g', cap, cur, e1, _, hg', _⟩
      · rw [e1] at e; cases e
      · rw [e1] at e
        simp [Value.ownBlock] at e
        rw [← e, hh] at hg'
        simp at hg'
    · cases hh2 : S g with
      | false => rfl
      | true => have := hS0 _ hh2; omega
  have cellT : ∀ s ∈ T, ∀ j, j < 8 → W.cell? ⟨s.b, s.p + j, none⟩ = W0.cell? ⟨s.b, s.p + j, none⟩ := fun s hs j hj => by
    obtain ⟨s1, s2, s3, s4⟩ := tb s (List.mem_append.2 (.inl hs))
    by_cases e : s.b = t.b
    · refine r.cel _ e ?_
      have ha2 := h.apt
      unfold tks at ha2
      rw [List.map_append] at ha2
      have h1 := (List.pairwise_append.1 ha2).2.2 (s.tk F) (List.mem_map_of_mem hs) (t.tk F) (by simp)
      simp only [Ft.tk] at h1
      have h3 : (decide (t.p ≤ s.p + j) && decide (s.p + j < t.p + 8)) = false := by
        rcases h1 with q | q | q
        · exact absurd e q
        · rw [decide_eq_false (show ¬ t.p ≤ s.p + j by omega)]; rfl
        · rw [decide_eq_false (show ¬ s.p + j < t.p + 8 by omega), Bool.and_false]
      show ((s.b == t.b) && (decide (t.p ≤ s.p + j) && decide (s.p + j < t.p + 8))) = false
      rw [h3, Bool.and_false]
    · exact World.cell?_of_block (w := W0) (r.blk s.b s2 s3 e)
  have ety : tks F (T ++ [t]) = tks F T ++ [t.tk F] := by unfold tks; rw [List.map_append]; rfl
  have etN : tks F (T ++ N) = tks F T ++ tks F N := by unfold tks; rw [List.map_append]
  have mS : MLe (offS W0.cell? (blkT (flS w.heap.size wb vw S) (tks F (T ++ [t])))) (offS W.cell? (blkT (flS w.heap.size wb' vw' S) (tks F (T ++ N)))) := fun q v hq => by
    have hs := offS_off hq
    obtain ⟨b1, b2⟩ := blkT_no.1 hs
    have hq2 := offS_offT _ _ _ _ _ hq
    have hc0 := (offT_off hq2).2.2
    have hlt := World.block_lt_of_cell? _ _ hc0
    rw [offS_ne]
    · rw [ety] at hq2
      exact r.mle q v hq2
    · refine blkT_no.2 ⟨vis _ hlt b1, fun s hs e => ?_⟩
      rw [etN] at hs
      rcases List.mem_append.1 hs with hs | hs
      · exact b2 s (by rw [ety]; exact List.mem_append.2 (.inl hs)) e
      · obtain ⟨s0, hs0, rfl⟩ := List.mem_map.1 hs
        have := (hNb s0 hs0).1
        simp only [Ft.tk] at e
        omega
  refine ⟨r.low, ?_, ?_, ?_, h.fbl, hwb, by omega, hrow, ?_, ?_, ?_, ?_⟩
  · have hr := h.res
    refine ⟨?_, fun j => (World.frozen?_of_block (w := W0) r.res).trans (hr.2 j)⟩
    obtain ⟨e0, e1, e2, e3, e4, e5, e6, e7⟩ := hr.1
    have ce : ∀ j, W.cell? ⟨w.heap.size, j, none⟩ = W0.cell? ⟨w.heap.size, j, none⟩ := fun j => World.cell?_of_block (w := W0) r.res
    exact ⟨(ce _).trans e0, (ce _).trans e1, (ce _).trans e2, (ce _).trans e3, (ce _).trans e4, (ce _).trans e5, (ce _).trans e6, (ce _).trans e7⟩
  · rw [r.res]; exact h.rty
  · have hfl := (Array.getElem?_eq_some_iff.1 h.fbx).1
    rw [r.blk fb hfl ?_ (fun e => t4 e.symm)]
    · exact h.fbx
    · refine flS_no.2 ⟨fun e => ?_, fun e => ?_, fun e => ?_, ?_⟩
      · obtain ⟨cs, hh⟩ := h.rty
        have := h.fbx
        rw [e, hh] at this
        simp at this
      · have h1 := h.wbx
        unfold Boxed at h1
        have := h.fbx
        rw [e, h1] at this
        simp at this
      · rcases h.row.2 with ⟨e1, _⟩ | ⟨g', cap, cur, e1, _, hg', _⟩
        · rw [e1] at e; cases e
        · rw [e1] at e
          simp [Value.ownBlock] at e
          have := h.fbx
          rw [e, hg'] at this
          simp at this
      · cases hh2 : S fb with
        | false => rfl
        | true => have := hS0 _ hh2; have := h.fbl; omega
  · intro s hs
    rcases List.mem_append.1 hs with hs | hs
    · have hp := h.plc s (List.mem_append.2 (.inl hs))
      obtain ⟨s1, s2, s3, s4⟩ := tb s (List.mem_append.2 (.inl hs))
      refine ⟨hp.lo, hp.ne, ?_, nat_other hp.cell (cellT s hs)⟩
      by_cases e : s.b = t.b
      · rw [e]; exact r.typ
      · rw [r.blk s.b s2 s3 e]; exact hp.typ
    · obtain ⟨e1, _, ⟨cs, hh⟩, h3⟩ := hNb s hs
      exact ⟨by omega, by omega, ⟨cs, _, by rw [e1]; exact hh, .inr rfl⟩, h3⟩
  · rw [etN]
    refine List.pairwise_append.2 ⟨?_, hNa, fun a ha b hb => ?_⟩
    · have ha2 := h.apt
      rw [ety] at ha2
      exact (List.pairwise_append.1 ha2).1
    · obtain ⟨s, hs, rfl⟩ := List.mem_map.1 ha
      obtain ⟨s', hs', rfl⟩ := List.mem_map.1 hb
      left
      have h1 := (tb s (List.mem_append.2 (.inl hs))).2.1
      have h2 := (hNb s' hs').1
      simp only [Ft.tk]
      omega
  · intro s hs
    rcases List.mem_append.1 hs with hs | hs
    · obtain ⟨h1, h2⟩ := h.see s (List.mem_append.2 (.inl hs))
      exact ⟨h1, h2.on mS⟩
    · exact hsee s hs
  · rw [etN] at ha ⊢
    have hp := h.prt
    rw [ety] at hp
    refine part_next (c := W0.cell?) (S := flS w.heap.size wb vw S) (t := t.tk F) (n0 := W0.heap.size) (g := g) (h := hd) hx ?_ (fun q v hq => World.block_lt_of_cell? _ _ hq) ?_ hg ?_ vis r.mle hn (ha.on (offS_offT _ _ _)) hca hck (hak.imp id fun q => ⟨q.1, hgS q.2⟩) hc ?_ hp
    · have ha2 := h.apt
      rw [ety] at ha2
      exact ha2
    · intro s hs
      rw [← ety] at hs
      obtain ⟨s0, hs0, rfl⟩ := List.mem_map.1 hs
      exact ⟨(tb s0 hs0).2.1, (tb s0 hs0).2.2.1⟩
    · intro s hs
      obtain ⟨s0, hs0, rfl⟩ := List.mem_map.1 hs
      exact (hNb s0 hs0).1
    · intro s hs
      obtain ⟨s0, hs0, rfl⟩ := List.mem_map.1 hs
      exact (hNb s0 hs0).2.1
end Go.Proofs.YtlbabnffiibnpaaGreat
namespace Go.Proofs.YtlbabnffiibnpaaGreat
open Go.RowKit Go.Shelf
theorem FJ.start {F : Nd → Nat → Nd} {S : Nat → Bool} {w w1 : World} {fv : Value} {va : Option Addr} {vc n : Nat} {top : Fls} (_hS0 : ∀ k, S k = true → k < w.heap.size) (hB : Below w.heap.size w w1) (hnb : w.heap.size < w1.heap.size) (hR : NBw w1 w.heap.size zN zH) (hty : ∃ cs, w1.heap[w.heap.size]? = some (.cells cs 34 (0, 0))) (hok : SeenOk top) (hn : top.length = n)
    (hv : SpL (offS w1.cell? (fun k => k == w.heap.size || S k)) (.slice va n vc) top) :
    FJ F S w ((((w1.alloc (.cells #[fv] 66)).alloc (.cells #[.int .i64 0, .int .i64 0, .int .i64 0, .int .i64 0, .bool false, .slice none 0 0, .string ⟨#[]⟩, .slice none 0 0] 34)).alloc (.cells #[.pointer (some ⟨w1.heap.size + 1, 0, none⟩), .slice va n vc] 86)).alloc (.cells #[.slice (some ⟨w1.heap.size + 1 + 1, 0, none⟩) 1 1] 87))
      w1.heap.size (w1.heap.size + 1) (w1.heap.size + 1 + 1 + 1) fv (.slice (some ⟨w1.heap.size + 1 + 1, 0, none⟩) 1 1) [⟨w1.heap.size + 1, 0, va, vc, top⟩] top := by
  have b1 : Below w1.heap.size w1 (w1.alloc (.cells #[fv] 66)) := (Below.refl _ _).alloc (Nat.le_refl _) _
  have h1 := heap_alloc_new w1 (.cells #[fv] 66)
  have s1 : (w1.alloc (.cells #[fv] 66)).heap.size = w1.heap.size + 1 := World.size_alloc _ _
  generalize w1.alloc (.cells #[fv] 66) = w2 at b1 h1 s1
  have b2 : Below w2.heap.size w2 (w2.alloc (.cells #[.int .i64 0, .int .i64 0, .int .i64 0, .int .i64 0, .bool false, .slice none 0 0, .string ⟨#[]⟩, .slice none 0 0] 34)) := (Below.refl _ _).alloc (Nat.le_refl _) _
  have h2 := heap_alloc_new w2 (.cells #[.int .i64 0, .int .i64 0, .int .i64 0, .int .i64 0, .bool false, .slice none 0 0, .string ⟨#[]⟩, .slice none 0 0] 34)
  have z2 := NBw.zero w2
  have s2 : (w2.alloc (.cells #[.int .i64 0, .int .i64 0, .int .i64 0, .int .i64 0, .bool false, .slice none 0 0, .string ⟨#[]⟩, .slice none 0 0] 34)).heap.size = w2.heap.size + 1 := World.size_alloc _ _
  generalize w2.alloc (.cells #[.int .i64 0, .int .i64 0, .int .i64 0, .int .i64 0, .bool false, .slice none 0 0, .string ⟨#[]⟩, .slice none 0 0] 34) = w3 at b2 h2 s2 z2
  have b3 : Below w3.heap.size w3 (w3.alloc (.cells #[.pointer (some ⟨w1.heap.size + 1, 0, none⟩), .slice va n vc] 86)) := (Below.refl _ _).alloc (Nat.le_refl _) _
  have h3 := heap_alloc_new w3 (.cells #[.pointer (some ⟨w1.heap.size + 1, 0, none⟩), .slice va n vc] 86)
  have s3 : (w3.alloc (.cells #[.pointer (some ⟨w1.heap.size + 1, 0, none⟩), .slice va n vc] 86)).heap.size = w3.heap.size + 1 := World.size_alloc _ _
  generalize w3.alloc (.cells #[.pointer (some ⟨w1.heap.size + 1, 0, none⟩), .slice va n vc] 86) = w4 at b3 h3 s3
  have b4 : Below w4.heap.size w4 (w4.alloc (.cells #[.slice (some ⟨w1.heap.size + 1 + 1, 0, none⟩) 1 1] 87)) := (Below.refl _ _).alloc (Nat.le_refl _) _
  have h4 := heap_alloc_new w4 (.cells #[.slice (some ⟨w1.heap.size + 1 + 1, 0, none⟩) 1 1] 87)
  have s4 : (w4.alloc (.cells #[.slice (some ⟨w1.heap.size + 1 + 1, 0, none⟩) 1 1] 87)).heap.size = w4.heap.size + 1 := World.size_alloc _ _
  generalize w4.alloc (.cells #[.slice (some ⟨w1.heap.size + 1 + 1, 0, none⟩) 1 1] 87) = w5 at b4 h4 s4
  have e2 : w2.heap.size = w1.heap.size + 1 := s1
  have e3 : w3.heap.size = w1.heap.size + 1 + 1 := by omega
  have e4 : w4.heap.size = w1.heap.size + 1 + 1 + 1 := by omega
  rw [e2] at h2 z2
  rw [e3] at h3
  rw [e4] at h4
  have c2 := (b4.block (w1.heap.size + 1) (by omega)).trans ((b3.block (w1.heap.size + 1) (by omega)).trans h2)
  have c1 := (b4.block w1.heap.size (by omega)).trans ((b3.block w1.heap.size (by omega)).trans ((b2.block w1.heap.size (by omega)).trans h1))
  have c3 := (b4.block (w1.heap.size + 1 + 1) (by omega)).trans h3
  have z5 := (z2.below b3).below b4
  have B14 : Below w1.heap.size w1 w5 := b1.trans ((b2.mono (by omega)).trans ((b3.mono (by omega)).trans (b4.mono (by omega))))
  have hm : MLe (offS w1.cell? (fun k => k == w.heap.size || S k)) (offS w5.cell? (blkT (flS w.heap.size (w1.heap.size + 1 + 1 + 1) (.slice (some ⟨w1.heap.size + 1 + 1, 0, none⟩) 1 1) S) (tks F [⟨w1.heap.size + 1, 0, va, vc, top⟩]))) := mle_step fun k hk hs => by
    simp at hs
    refine ⟨blkT_no.2 ⟨flS_no.2 ⟨hs.1, by omega, ?_, hs.2⟩, ?_⟩, B14.block k hk⟩
    · simp [Value.ownBlock]; omega
    · intro t ht
      simp [Ft.tk] at ht
      subst ht
      show k ≠ w1.heap.size + 1
      omega
  refine ⟨hB.trans (B14.mono (by omega)), hR.below B14, ?_, c1, by omega, h4, by omega, ⟨rfl, .inr ⟨w1.heap.size + 1 + 1, 1, #[.pointer (some ⟨w1.heap.size + 1, 0, none⟩), .slice va n vc], rfl, by omega, c3, Nat.le_refl _, by decide, rfl, ?_⟩⟩, ?_, ?_, ?_, ?_⟩
  · obtain ⟨cs, hh⟩ := hty
    exact ⟨cs, (B14.block _ hnb).trans hh⟩
  · show [_, _] = [_, _]
    rw [hn]
  · intro t ht
    rw [List.mem_singleton] at ht
    subst ht
    exact ⟨by show w.heap.size ≤ w1.heap.size + 1; omega, by show w1.heap.size + 1 ≠ w.heap.size; omega, ⟨_, _, c2, .inl rfl⟩, z5.1.at⟩
  · simp [tks, Apt]
  · intro t ht
    rw [List.mem_singleton] at ht
    subst ht
    refine ⟨hok, ?_⟩
    show SpL _ (.slice va top.length vc) top
    rw [hn]
    exact hv.on hm
  · exact .hole (by simp [tks, Ft.tk])
/-- A frame of so many slots. -/
def frm (X : Nat → Value) : Array Value := #[X 0, X 1, X 2, X 3, X 4, X 5, X 6, X 7, X 8, X 9, X 10, X 11, X 12, X 13, X 14, X 15, X 16, X 17, X 18, X 19, X 20, X 21, X 22, X 23, X 24, X 25, X 26, X 27, X 28, X 29, X 30, X 31, X 32, X 33, X 34, X 35, X 36, X 37, X 38, X 39, X 40, X 41, X 42, X 43, X 44, X 45, X 46, X 47, X 48, X 49, X 50, X 51, X 52, X 53, X 54, X 55, X 56, X 57, X 58, X 59, X 60, X 61, X 62, X 63, X 64, X 65, X 66, X 67, X 68, X 69, X 70, X 71, X 72, X 73, X 74, X 75, X 76, X 77, X 78, X 79, X 80, X 81, X 82, X 83, X 84, X 85, X 86, X 87, X 88, X 89, X 90, X 91, X 92, X 93, X 94, X 95, X 96, X 97, X 98, X 99, X 100, X 101, X 102, X 103, X 104, X 105]
set_option maxRecDepth 100000 in
theorem frm_of (A : Array Value) (h : A.size = 106) : A = frm (fun i => A.getD i undef) := by
  have e : frm (fun i => A.getD i undef) = ((List.range 106).map (fun i => A.getD i undef)).toArray := rfl
  rw [e]
  apply Array.ext
  · simp [h]
  · intro i h1 h2
    simp [Array.getD, h1]
theorem frame_at {A : Array Value} {ds : List Deferred} (h : A.size = 106) : ({ tmps := A, defers := ds } : Act) = { tmps := frm (fun i => A.getD i undef), defers := ds } := by rw [← frm_of A h]
/-- Marks of loops that have ended. -/
abbrev mks (ks : List Nat) : List Deferred := ks.map fun k => { target := .collected k, args := #[] }
structure Mks (w W : World) (ks : List Nat) : Prop where
  nd : ks.Nodup
  at_ : ∀ k ∈ ks, w.heap.size < k ∧ W.heap[k]? = some (.deferred (some []))
theorem leaves_marks {P : Program} {fn : Func} {tmps : Array Value} {R : Ending → World → Prop} {w : World} : ∀ (ks : List Nat) (W : World), Mks w W ks → (∀ W' : World, (∀ q v, W.cell? q = some v → W'.cell? q = some v) → Below w.heap.size W W' → LeavesInM Fence.wide 0 P fn tmps R [] .returning W') → Below w.heap.size w W → LeavesInM Fence.wide 0 P fn tmps R (mks ks) .returning W
  | [], W, _, h, hl => h W (fun _ _ h => h) (Below.refl _ _)
  | k :: ks, W, hm, h, hl => by
    obtain ⟨hk1, hk2⟩ := hm.at_ k (List.mem_cons_self ..)
    obtain ⟨hn1, hn2⟩ := List.nodup_cons.1 hm.nd
    have hb : Below w.heap.size W (W.putObj k (.deferred none)) := below_put hl.size (Nat.le_of_lt hk1) _
    refine ⟨by simp, .inl ⟨_, _, rfl, run_takeDeferred hk2, ?_⟩⟩
    refine leaves_marks ks _ ⟨hn2, fun j hj => ?_⟩ (fun W' hc hb' => h W' (fun q v hq => hc q v (mle_put hk2 rfl _ q v hq)) (hb.trans hb')) (hl.trans hb)
    obtain ⟨j1, j2⟩ := hm.at_ j (List.mem_cons_of_mem _ hj)
    exact ⟨j1, (World.putObj_heap_other (fun e => hn1 (by rw [← e]; exact hj))).trans j2⟩
end Go.Proofs.YtlbabnffiibnpaaGreat
namespace Go.Proofs.YtlbabnffiibnpaaGreat
open Go.RowKit Go.Shelf
/-- What waits for the kid of a number. -/
def bt (g : Nat) (G : List Pe) (q : Nat) : Ft := match G[q]? with
  | some e => ⟨g, q * 9 + 1, e.a, e.c, e.L.map Sp.pr⟩
  | none => ⟨g, q * 9 + 1, none, 0, []⟩
/-- From the last one down. -/
def bts (g : Nat) (G : List Pe) (i : Nat) : List Ft := (((List.range G.length).drop i).reverse).map (bt g G)
theorem bts_end (g : Nat) (G : List Pe) : bts g G G.length = [] := by unfold bts; simp
theorem bts_next {g : Nat} {G : List Pe} {i : Nat} (h : i < G.length) : bts g G i = bts g G (i + 1) ++ [bt g G i] := by
  unfold bts
  have e : (List.range G.length).drop i = i :: (List.range G.length).drop (i + 1) := by
    rw [List.drop_eq_getElem_cons (by simpa using h)]
    simp
  rw [e, List.reverse_cons, List.map_append]
  rfl
theorem bts_len (g : Nat) (G : List Pe) (i : Nat) : (bts g G i).length = G.length - i := by unfold bts; simp
theorem bt_at {g : Nat} {G : List Pe} {i : Nat} {e : Pe} (h : G[i]? = some e) : bt g G i = ⟨g, i * 9 + 1, e.a, e.c, e.L.map Sp.pr⟩ := by unfold bt; rw [h]
theorem bts_mem {g : Nat} {G : List Pe} {i : Nat} {t : Ft} (h : t ∈ bts g G i) : ∃ q e, G[q]? = some e ∧ t = ⟨g, q * 9 + 1, e.a, e.c, e.L.map Sp.pr⟩ := by
  unfold bts at h
  obtain ⟨q, hq, rfl⟩ := List.mem_map.1 h
  have h1 := List.mem_of_mem_drop (List.mem_reverse.1 hq)
  rw [List.mem_range] at h1
  exact ⟨q, G[q], List.getElem?_eq_getElem h1, bt_at (List.getElem?_eq_getElem h1)⟩
theorem bts_all {g : Nat} {G : List Pe} {q : Nat} {e : Pe} (h : G[q]? = some e) : (⟨g, q * 9 + 1, e.a, e.c, e.L.map Sp.pr⟩ : Ft) ∈ bts g G 0 := by
  unfold bts
  rw [List.drop_zero, ← bt_at h]
  refine List.mem_map.2 ⟨q, ?_, rfl⟩
  rw [List.mem_reverse, List.mem_range]
  exact (List.getElem?_eq_some_iff.1 h).1
theorem bts_apt (F : Nd → Nat → Nd) (g : Nat) (G : List Pe) (i : Nat) : Apt (tks F (bts g G i)) := by
  unfold Apt tks bts
  rw [List.map_map, List.pairwise_map, List.pairwise_reverse]
  have h1 : ((List.range G.length).drop i).Pairwise (fun a b => a < b) := List.Pairwise.sublist (List.drop_sublist _ _) List.pairwise_lt_range
  refine h1.imp ?_
  intro a b hab
  have ep : ∀ q, (Ft.tk F (bt g G q)).p = q * 9 + 1 := fun q => by
    unfold bt
    cases G[q]? <;> rfl
  show _ ∨ (Ft.tk F (bt g G b)).p + 8 ≤ (Ft.tk F (bt g G a)).p ∨ (Ft.tk F (bt g G a)).p + 8 ≤ (Ft.tk F (bt g G b)).p
  rw [ep, ep]
  omega
theorem wt_bts {_g : Nat} {G : List Pe} : ∀ {l : Fls} {N : List ByteArray}, (pls G).map plP = N.map (fun nm => (nm, nxt l nm)) → (G.map fun e => tot (e.L.map Sp.pr)).sum = (N.map fun nm => tot (nxt l nm)).sum := by
  intro l N h
  have h1 := congrArg (List.map fun p : ByteArray × Fls => tot p.2) h
  rw [List.map_map, List.map_map] at h1
  have h2 : ((pls G).map ((fun p : ByteArray × Fls => tot p.2) ∘ plP)) = G.map fun e => tot (e.L.map Sp.pr) := by
    unfold pls
    rw [List.map_map]
    rfl
  rw [h2] at h1
  rw [h1]
  rfl
/-- What stands between two of them. -/
structure BJ (w wC A : World) (wb tb : Nat) (T : List Ft) (st : Loop) : Prop where
  low : Below w.heap.size w A
  siz : wC.heap.size + 2 ≤ A.heap.size
  blk : ∀ k, k < wC.heap.size → k ≠ wb → k ≠ tb → A.heap[k]? = wC.heap[k]?
  wbx : ∃ vw, Boxed A wb 87 vw ∧ A.ownsRow w.heap.size 86 2 vw T.length (flT T) ∧ (vw.ownBlock = some tb ∨ ∃ s, vw.ownBlock = some s ∧ wC.heap.size + 2 ≤ s)
  dk : A.heap[wC.heap.size]? = some (.deferred (some []))
  lk : A.heap[wC.heap.size + 1]? = some (.loop st)
theorem BJ.keep {w wC A B : World} {wb tb : Nat} {T : List Ft} {st : Loop} (h : BJ w wC A wb tb T st) (hb : Below A.heap.size A B) : BJ w wC B wb tb T st := by
  obtain ⟨vw, h1, h2, h3⟩ := h.wbx
  have hs := h.siz
  exact ⟨h.low.trans (hb.mono h.low.size), Nat.le_trans hs hb.size, fun k hk a b => (hb.block k (by omega)).trans (h.blk k hk a b), ⟨vw, boxed_bel h1 hb, ownsRow_bel h2 hb, h3⟩, (hb.block _ (by omega)).trans h.dk, (hb.block _ (by omega)).trans h.lk⟩
theorem BJ.put {w wC A : World} {wb tb : Nat} {T : List Ft} {st : Loop} (h : BJ w wC A wb tb T st) (hl : w.heap.size ≤ wC.heap.size) (st' : Loop) : BJ w wC (A.putObj (wC.heap.size + 1) (.loop st')) wb tb T st' := by
  obtain ⟨vw, h1, h2, h3⟩ := h.wbx
  refine ⟨h.low.trans (below_put h.low.size (by omega) _), by rw [World.putObj_size]; exact h.siz, fun k hk a b => (World.putObj_heap_other (by omega)).trans (h.blk k hk a b), ⟨vw, boxed_putL h1 h.lk _, ownsRow_putObj h2 _ h.lk rfl, h3⟩, (World.putObj_heap_other (by omega)).trans h.dk, World.putObj_heap_same (by have := h.siz; omega)⟩
theorem BJ.push {w wC A B : World} {wb tb : Nat} {T : List Ft} {t : Ft} {st : Loop} {tmp : Obj} {vw v' : Value} (h : BJ w wC A wb tb T st) (hwl : w.heap.size ≤ wb) (hbx : Boxed A wb 87 vw) (hr : A.ownsRow w.heap.size 86 2 vw T.length (flT T)) (ho : vw.ownBlock = some tb ∨ ∃ s, vw.ownBlock = some s ∧ wC.heap.size + 2 ≤ s)
    (hown : B.ownsRow w.heap.size 86 2 v' (T.length + 1) (flT T ++ flT [t])) (hg : (A.alloc tmp).grownBy B vw.ownBlock) (hv : v'.ownBlock = vw.ownBlock ∨ v'.ownBlock = some (A.alloc tmp).heap.size) : BJ w wC (B.setCell ⟨wb, 0, none⟩ v') wb tb (T ++ [t]) st := by
  have hs := h.siz
  rw [World.size_alloc] at hv
  have hsz : A.heap.size + 1 ≤ B.heap.size := by have := hg.size; rwa [World.size_alloc] at this
  have hwb : some wb ≠ vw.ownBlock := hbx.not_row (by decide) hr
  have hbB : Boxed B wb 87 vw := by
    have h1 := hbx.lt
    exact (hg.block wb (by rw [World.size_alloc]; omega) hwb).trans ((Below.heap_alloc _ _ _ h1).trans hbx)
  have hvr : some wb ≠ v'.ownBlock := hbB.not_row (by decide) hown
  have blk : ∀ k, k < A.heap.size → some k ≠ vw.ownBlock → k ≠ wb → (B.setCell ⟨wb, 0, none⟩ v').heap[k]? = A.heap[k]? := fun k hk h1 h2 => by
    rw [Below.heap_setCell _ _ _ _ (by exact h2), hg.block k (by rw [World.size_alloc]; omega) h1, Below.heap_alloc _ _ _ hk]
  have hlt : ∀ q, vw.ownBlock = some q → w.heap.size ≤ q := fun q hq => (hr.lt q hq).1
  have hown2 : ∀ k, k < wC.heap.size + 2 → k ≠ tb → some k ≠ vw.ownBlock := fun k hk h1 e => by
    rcases ho with q | ⟨s, q, q2⟩
    · rw [q] at e; simp at e; exact h1 e
    · rw [q] at e; simp at e; omega
  have hndk : ∀ (k : Nat) (o : Obj), A.heap[k]? = some o → o.isCells = false → some k ≠ vw.ownBlock := fun k o hk hoc e => by
    rcases hr.2 with ⟨e1, _⟩ | ⟨g, cap, cur, e1, _, hgg, _⟩
    · rw [e1] at e; cases e
    · rw [e1] at e
      simp [Value.ownBlock] at e
      rw [← e, hk] at hgg
      cases hgg
      simp [Obj.isCells] at hoc
  have hnwb : ∀ (k : Nat) (o : Obj), A.heap[k]? = some o → o.isCells = false → k ≠ wb := fun k o hk hoc e => by
    have h1 := hbx
    unfold Boxed at h1
    rw [← e, hk] at h1
    cases h1
    simp [Obj.isCells] at hoc
  refine ⟨?_, by rw [World.size_setCell]; omega, fun k hk a b => ?_, ⟨v', hbB.set _, ?_, ?_⟩, ?_, ?_⟩
  · refine h.low.trans ?_
    have h1 : Below w.heap.size A B := ((Below.refl _ A).alloc h.low.size _).grown hg (by rw [World.size_alloc]; have := h.low.size; omega) (fun q hq => hlt q hq)
    exact h1.setCell (p := ⟨wb, 0, none⟩) hwl _
  · exact (blk k (by omega) (hown2 k (by omega) b) a).trans (h.blk k hk a b)
  · rw [List.length_append, flT_app]
    exact owns_keep hown fun g hgo => Below.heap_setCell _ _ _ _ (fun e => hvr (by rw [hgo]; exact congrArg some (Eq.symm e)))
  · rcases hv with q | q
    · rw [q]; exact ho
    · exact .inr ⟨_, q, by omega⟩
  · exact (blk _ (by omega) (hndk _ _ h.dk rfl) (hnwb _ _ h.dk rfl)).trans h.dk
  · exact (blk _ (by omega) (hndk _ _ h.lk rfl) (hnwb _ _ h.lk rfl)).trans h.lk
end Go.Proofs.YtlbabnffiibnpaaGreat
namespace Go.Proofs.YtlbabnffiibnpaaGreat
open Go.RowKit Go.Shelf
def flN : List Fl → List Value
  | [] => []
  | f :: r => ndL f.x f.h ++ flN r
def flI : List Fl → List Value
  | [] => []
  | f :: r => .int .i64 f.ly :: flI r
theorem flN_len : ∀ F : List Fl, (flN F).length = F.length * 8
  | [] => rfl
  | f :: r => by simp [flN, flN_len r, ndL_length]; omega
theorem flN_app : ∀ A B : List Fl, flN (A ++ B) = flN A ++ flN B
  | [], _ => rfl
  | f :: r, B => by simp [flN, flN_app r B]
theorem flI_app : ∀ A B : List Fl, flI (A ++ B) = flI A ++ flI B
  | [], _ => rfl
  | f :: r, B => by simp [flI, flI_app r B]
theorem flN_get : ∀ (F : List Fl) (i : Nat) (f : Fl), F[i]? = some f → ∀ q u, (ndL f.x f.h)[q]? = some u → (flN F)[i * 8 + q]? = some u
  | [], i, f, hi => by simp at hi
  | g :: r, 0, f, hi => by
    simp at hi
    subst hi
    intro q u hq
    have hl := (List.getElem?_eq_some_iff.1 hq).1
    rw [Nat.zero_mul, Nat.zero_add, flN, List.getElem?_append_left hl]
    exact hq
  | g :: r, i + 1, f, hi => by
    intro q u hq
    have := flN_get r i f (by simpa using hi) q u hq
    rw [flN, List.getElem?_append_right (by simp [ndL_length]; omega), ndL_length, show (i + 1) * 8 + q - 8 = i * 8 + q by omega]
    exact this
theorem flI_get : ∀ (F : List Fl) (i : Nat) (f : Fl), F[i]? = some f → (flI F)[i]? = some (.int .i64 f.ly)
  | [], i, f, hi => by simp at hi
  | g :: r, 0, f, hi => by simp at hi; subst hi; rfl
  | g :: r, i + 1, f, hi => by
    have := flI_get r i f (by simpa using hi)
    simpa [flI] using this
/-- What is hidden: the two boxes, the loop, the two rows. -/
def alS (n₀ : Nat) (vn vf : Value) (S : Nat → Bool) : Nat → Bool := fun k => (k == n₀ || k == n₀ + 1 || k == n₀ + 1 + 1 + 1 + 1 + 1) || (vn.ownBlock == some k || vf.ownBlock == some k) || S k
/-- What was seen so far, as rows. -/
structure AlR (S : Nat → Bool) (n₀ : Nat) (A : World) (vn vf : Value) (L L2 : List Fl) : Prop where
  rn : A.ownsRow (n₀ + 1 + 1) 34 8 vn L.length (flN L)
  rf : A.ownsRow (n₀ + 1 + 1) 3 1 vf L2.length (flI L2)
  ne : ∀ g, vn.ownBlock = some g → vf.ownBlock ≠ some g
  nd : ∀ f ∈ L, NdV (offS A.cell? (alS n₀ vn vf S)) f.x f.h
structure AlJ (S : Nat → Bool) (w A : World) (xs : List Nd) (names : List ByteArray) (st : Loop) (i : Nat) (Sx : Nat → Bool) : Prop where
  low : Below w.heap.size w A
  bx : ∃ vn vf L, Boxed A w.heap.size 22 vn ∧ Boxed A (w.heap.size + 1) 48 vf ∧ AlR S w.heap.size A vn vf L L ∧ L.length = i ∧ (∀ (j : Nat) f, L[j]? = some f → ∃ q r, stackP xs (names.take j) = q :: r ∧ f.x = q.1.with [] ∧ f.ly = q.2) ∧ Sx = alS w.heap.size vn vf S
  dk : A.heap[w.heap.size + 1 + 1 + 1 + 1]? = some (.deferred (some []))
  lk : A.heap[w.heap.size + 1 + 1 + 1 + 1 + 1]? = some (.loop st)
theorem AlR.below {S : Nat → Bool} {n₀ : Nat} {A B : World} {vn vf : Value} {L L2 : List Fl} (h : AlR S n₀ A vn vf L L2) (hb : Below A.heap.size A B) : AlR S n₀ B vn vf L L2 :=
  ⟨ownsRow_bel h.rn hb, ownsRow_bel h.rf hb, h.ne, fun f hf => (h.nd f hf).on (mle_S hb)⟩
theorem AlJ.keep {S : Nat → Bool} {w A B : World} {xs : List Nd} {names : List ByteArray} {st : Loop} {i : Nat} {Sx : Nat → Bool} (h : AlJ S w A xs names st i Sx) (hb : Below A.heap.size A B) : AlJ S w B xs names st i Sx := by
  obtain ⟨vn, vf, L, h1, h2, h3, h4, h5, h6⟩ := h.bx
  exact ⟨h.low.trans (hb.mono h.low.size), ⟨vn, vf, L, boxed_bel h1 hb, boxed_bel h2 hb, h3.below hb, h4, h5, h6⟩, (hb.block _ (Array.getElem?_eq_some_iff.1 h.dk).1).trans h.dk, (hb.block _ (Array.getElem?_eq_some_iff.1 h.lk).1).trans h.lk⟩
theorem AlJ.hid {S : Nat → Bool} {w A : World} {xs : List Nd} {names : List ByteArray} {st : Loop} {i : Nat} {Sx : Nat → Bool} (hS0 : ∀ k, S k = true → k < w.heap.size) (h : AlJ S w A xs names st i Sx) : ∀ k, Sx k = true → k < A.heap.size := fun k hk => by
  obtain ⟨vn, vf, L, h1, h2, h3, _, _, rfl⟩ := h.bx
  simp [alS] at hk
  have hl := (Array.getElem?_eq_some_iff.1 h.lk).1
  rcases hk with (((e | e) | e) | e | e) | e
  · rw [e]; exact h1.lt
  · rw [e]; exact h2.lt
  · omega
  · exact (h3.rn.lt k e).2
  · exact (h3.rf.lt k e).2
  · exact Nat.lt_of_lt_of_le (hS0 k e) h.low.size
end Go.Proofs.YtlbabnffiibnpaaGreat
namespace Go.Proofs.YtlbabnffiibnpaaGreat
open Go.RowKit Go.Shelf
/-- How many are still to come. -/
def left (l : Array Bool) : Nat := l.toList.count false
theorem left_set {l : Array Bool} {i : Nat} (h : l.getD i true = false) : left (l.setIfInBounds i true) + 1 = left l := by
  unfold left
  have hi : i < l.size := by
    rcases Nat.lt_or_ge i l.size with h' | h'
    · exact h'
    · simp [Array.getD, Nat.not_lt.2 h'] at h
  have he : l[i] = false := by simpa [Array.getD, hi] using h
  rw [Array.toList_setIfInBounds]
  have e : l.toList[i]? = some false := by simp [hi, he]
  generalize l.toList = t at e
  clear h he hi
  induction t generalizing i with
  | nil => simp at e
  | cons x t ih =>
    cases i with
    | zero => simp at e; subst e; simp
    | succ i =>
      have := ih (i := i) (by simpa using e)
      rw [List.set_cons_succ, List.count_cons, List.count_cons]
      omega
/-- What each operation keeps, whichever may come up, holds at the end. -/
theorem anyIn_kept {F : Fence} {n : Nat} {P : Program} {md : Region.Mode} {ops : Array Oper} {Q : Exit → Act → World → Prop} (I : Array Bool → Act → World → Prop)
    (hstep : ∀ listed a w i, I listed a w → i ∈ Region.ready md ops listed → wpOpIn F n P ops Q i (I (listed.setIfInBounds i true)) a w)
    (hfin : ∀ listed a w, I listed a w → Region.ready md ops listed = [] → Q .normal a w) :
    ∀ (fuel : Nat) (listed : Array Bool) (a : Act) (w : World), left listed ≤ fuel → I listed a w → wpAnyIn F n P md ops Q fuel listed a w
  | 0, listed, a, w, hl, h => by
    have e : Region.ready md ops listed = [] := by
      cases hr : Region.ready md ops listed with
      | nil => rfl
      | cons i r =>
        have hi : i ∈ Region.ready md ops listed := by rw [hr]; exact List.mem_cons_self ..
        have := left_set (mem_ready.1 hi).1
        omega
    exact ⟨e, hfin _ _ _ h e⟩
  | fuel + 1, listed, a, w, hl, h => by
    refine ⟨hfin _ _ _ h, fun i hi => ?_⟩
    refine wpOpIn_mono (fun a' w' h' => anyIn_kept I hstep hfin fuel _ a' w' ?_ h') (hstep _ _ _ _ h hi)
    have := left_set (mem_ready.1 hi).1
    omega
theorem own_ne {w : World} {base : Nat} {t : TypeId} {n k : Nat} {v : Value} {xs : List Value} (h : w.ownsRow base t n v k xs) {d : Nat} {o : Obj} (hd : w.heap[d]? = some o) (ho : o.isCells = false) : some d ≠ v.ownBlock := fun e => by
  rcases h.2 with ⟨rfl, _⟩ | ⟨g, cap, cur, rfl, _, hg, _⟩
  · simp [Value.ownBlock] at e
  · simp [Value.ownBlock] at e
    subst e
    rw [hg] at hd
    cases hd
    simp [Obj.isCells] at ho
/-- What is kept. -/
structure XA (S : Nat → Bool) (w A : World) (Sx : Nat → Bool) (st : Loop) (cn cf : Value) (LN LF : List Fl) (b6 b7 : Value) (W : World) : Prop where
  low : Below w.heap.size w W
  az : A.heap.size ≤ W.heap.size
  bn : Boxed W w.heap.size 22 b6
  bf : Boxed W (w.heap.size + 1) 48 b7
  r : AlR S w.heap.size W cn cf LN LF
  ml : MLe (offS A.cell? Sx) (offS W.cell? (alS w.heap.size cn cf S))
  dk : W.heap[w.heap.size + 1 + 1 + 1 + 1]? = some (.deferred (some []))
  lk : W.heap[w.heap.size + 1 + 1 + 1 + 1 + 1]? = some (.loop st)
theorem XA.below {S : Nat → Bool} {w A : World} {Sx : Nat → Bool} {st : Loop} {cn cf : Value} {LN LF : List Fl} {b6 b7 : Value} {W W' : World} (h : XA S w A Sx st cn cf LN LF b6 b7 W) (hb : Below W.heap.size W W') : XA S w A Sx st cn cf LN LF b6 b7 W' :=
  ⟨h.low.trans (hb.mono h.low.size), Nat.le_trans h.az hb.size, boxed_bel h.bn hb, boxed_bel h.bf hb, h.r.below hb, h.ml.trans (mle_S hb), (hb.block _ (Array.getElem?_eq_some_iff.1 h.dk).1).trans h.dk, (hb.block _ (Array.getElem?_eq_some_iff.1 h.lk).1).trans h.lk⟩
theorem XA.appN {S : Nat → Bool} {w A : World} {Sx : Nat → Bool} {st : Loop} {cn cf : Value} {LN LF : List Fl} {b6 b7 : Value} {W W' : World} (h : XA S w A Sx st cn cf LN LF b6 b7 W) {f : Fl} {cn' : Value} (hf : NdV (offS W.cell? (alS w.heap.size cn cf S)) f.x f.h)
    (hown : W'.ownsRow (w.heap.size + 1 + 1) 34 8 cn' (LN ++ [f]).length (flN (LN ++ [f]))) (hg : W.grownBy W' cn.ownBlock) (ho : cn'.ownBlock = cn.ownBlock ∨ cn'.ownBlock = some W.heap.size) :
    XA S w A Sx st cn' cf (LN ++ [f]) LF b6 b7 W' := by
  have hlow : ∀ g, cn.ownBlock = some g → w.heap.size + 1 + 1 ≤ g ∧ g < W.heap.size := fun g e => h.r.rn.lt g e
  have hm : MLe (offS W.cell? (alS w.heap.size cn cf S)) (offS W'.cell? (alS w.heap.size cn' cf S)) := mle_step fun k hk hs => by
    simp [alS] at hs
    refine ⟨?_, hg.block k hk (fun e => hs.1.2.1 e.symm)⟩
    simp [alS]
    refine ⟨⟨hs.1.1, ?_, hs.1.2.2⟩, hs.2⟩
    rcases ho with e | e
    · rw [e]; exact hs.1.2.1
    · rw [e]; intro e2; cases e2; omega
  refine ⟨h.low.grown hg h.low.size (fun g e => by have := hlow g e; omega), Nat.le_trans h.az hg.size, h.bn.kept hg (fun e => by have := hlow _ e.symm; omega), h.bf.kept hg (fun e => by have := hlow _ e.symm; omega), ⟨hown, ?_, ?_, ?_⟩, h.ml.trans hm, ?_, ?_⟩
  · refine h.r.rf.kept hg ?_
    cases hv : cf.ownBlock with
    | none => exact .inl rfl
    | some g => exact .inr (fun e => h.r.ne g e.symm hv)
  · intro g e e2
    rcases ho with q | q
    · exact h.r.ne g (q.symm.trans e) e2
    · have e3 := (h.r.rf.lt g e2).2
      rw [q] at e
      cases e
      omega
  · intro f' hf'
    rcases List.mem_append.1 hf' with e | e
    · exact (h.r.nd f' e).on hm
    · rw [List.mem_singleton] at e; rw [e]; exact hf.on hm
  · exact (hg.block _ (Array.getElem?_eq_some_iff.1 h.dk).1 (own_ne h.r.rn h.dk rfl)).trans h.dk
  · exact (hg.block _ (Array.getElem?_eq_some_iff.1 h.lk).1 (own_ne h.r.rn h.lk rfl)).trans h.lk
theorem XA.appF {S : Nat → Bool} {w A : World} {Sx : Nat → Bool} {st : Loop} {cn cf : Value} {LN LF : List Fl} {b6 b7 : Value} {W W' : World} (h : XA S w A Sx st cn cf LN LF b6 b7 W) {f : Fl} {cf' : Value}
    (hown : W'.ownsRow (w.heap.size + 1 + 1) 3 1 cf' (LF ++ [f]).length (flI (LF ++ [f]))) (hg : W.grownBy W' cf.ownBlock) (ho : cf'.ownBlock = cf.ownBlock ∨ cf'.ownBlock = some W.heap.size) :
    XA S w A Sx st cn cf' LN (LF ++ [f]) b6 b7 W' := by
  have hlow : ∀ g, cf.ownBlock = some g → w.heap.size + 1 + 1 ≤ g ∧ g < W.heap.size := fun g e => h.r.rf.lt g e
  have hm : MLe (offS W.cell? (alS w.heap.size cn cf S)) (offS W'.cell? (alS w.heap.size cn cf' S)) := mle_step fun k hk hs => by
    simp [alS] at hs
    refine ⟨?_, hg.block k hk (fun e => hs.1.2.2 e.symm)⟩
    simp [alS]
    refine ⟨⟨hs.1.1, hs.1.2.1, ?_⟩, hs.2⟩
    rcases ho with e | e
    · rw [e]; exact hs.1.2.2
    · rw [e]; intro e2; cases e2; omega
  refine ⟨h.low.grown hg h.low.size (fun g e => by have := hlow g e; omega), Nat.le_trans h.az hg.size, h.bn.kept hg (fun e => by have := hlow _ e.symm; omega), h.bf.kept hg (fun e => by have := hlow _ e.symm; omega), ⟨?_, hown, ?_, fun f' hf' => (h.r.nd f' hf').on hm⟩, h.ml.trans hm, ?_, ?_⟩
  · refine h.r.rn.kept hg ?_
    cases hv : cn.ownBlock with
    | none => exact .inl rfl
    | some g => exact .inr (fun e => h.r.ne g hv e.symm)
  · intro g e e2
    rcases ho with q | q
    · exact h.r.ne g e (q.symm.trans e2)
    · have e3 := (h.r.rn.lt g e).2
      rw [q] at e2
      cases e2
      omega
  · exact (hg.block _ (Array.getElem?_eq_some_iff.1 h.dk).1 (own_ne h.r.rf h.dk rfl)).trans h.dk
  · exact (hg.block _ (Array.getElem?_eq_some_iff.1 h.lk).1 (own_ne h.r.rf h.lk rfl)).trans h.lk
theorem XA.set6 {S : Nat → Bool} {w A : World} {Sx : Nat → Bool} {st : Loop} {cn cf : Value} {LN LF : List Fl} {b6 b7 : Value} {W : World} (h : XA S w A Sx st cn cf LN LF b6 b7 W) (v : Value) : XA S w A Sx st cn cf LN LF v b7 (W.setCell ⟨w.heap.size, 0, none⟩ v) := by
  have hk : ∀ k, k ≠ w.heap.size → (W.setCell ⟨w.heap.size, 0, none⟩ v).heap[k]? = W.heap[k]? := fun k hk => Below.heap_setCell _ _ _ _ hk
  have hg : W.grownBy (W.setCell ⟨w.heap.size, 0, none⟩ v) (some w.heap.size) := grownBy_setCell' W w.heap.size v
  have hm : MLe (offS W.cell? (alS w.heap.size cn cf S)) (offS (W.setCell ⟨w.heap.size, 0, none⟩ v).cell? (alS w.heap.size cn cf S)) := mle_step fun k _ hs => ⟨hs, hk k (by simp [alS] at hs; exact hs.1.1.1.1)⟩
  refine ⟨h.low.setCell (p := ⟨w.heap.size, 0, none⟩) (Nat.le_refl _) v, Nat.le_trans h.az hg.size, h.bn.set v, (hk _ (by omega)).trans h.bf, ⟨?_, ?_, h.r.ne, fun f hf => (h.r.nd f hf).on hm⟩, h.ml.trans hm, (hk _ (by omega)).trans h.dk, (hk _ (by omega)).trans h.lk⟩
  · exact h.r.rn.kept hg (.inr (fun e => by have := (h.r.rn.lt _ e).1; omega))
  · exact h.r.rf.kept hg (.inr (fun e => by have := (h.r.rf.lt _ e).1; omega))
theorem XA.set7 {S : Nat → Bool} {w A : World} {Sx : Nat → Bool} {st : Loop} {cn cf : Value} {LN LF : List Fl} {b6 b7 : Value} {W : World} (h : XA S w A Sx st cn cf LN LF b6 b7 W) (v : Value) : XA S w A Sx st cn cf LN LF b6 v (W.setCell ⟨w.heap.size + 1, 0, none⟩ v) := by
  have hk : ∀ k, k ≠ w.heap.size + 1 → (W.setCell ⟨w.heap.size + 1, 0, none⟩ v).heap[k]? = W.heap[k]? := fun k hk => Below.heap_setCell _ _ _ _ hk
  have hg : W.grownBy (W.setCell ⟨w.heap.size + 1, 0, none⟩ v) (some (w.heap.size + 1)) := grownBy_setCell' W (w.heap.size + 1) v
  have hm : MLe (offS W.cell? (alS w.heap.size cn cf S)) (offS (W.setCell ⟨w.heap.size + 1, 0, none⟩ v).cell? (alS w.heap.size cn cf S)) := mle_step fun k _ hs => ⟨hs, hk k (by simp [alS] at hs; exact hs.1.1.1.2)⟩
  refine ⟨h.low.setCell (p := ⟨w.heap.size + 1, 0, none⟩) (by show w.heap.size ≤ w.heap.size + 1; omega) v, Nat.le_trans h.az hg.size, (hk _ (by omega)).trans h.bn, h.bf.set v, ⟨?_, ?_, h.r.ne, fun f hf => (h.r.nd f hf).on hm⟩, h.ml.trans hm, (hk _ (by omega)).trans h.dk, (hk _ (by omega)).trans h.lk⟩
  · exact h.r.rn.kept hg (.inr (fun e => by have := (h.r.rn.lt _ e).1; omega))
  · exact h.r.rf.kept hg (.inr (fun e => by have := (h.r.rf.lt _ e).1; omega))
end Go.Proofs.YtlbabnffiibnpaaGreat
