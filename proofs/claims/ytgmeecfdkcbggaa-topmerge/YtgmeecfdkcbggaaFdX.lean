/-
  A TREE WITH PLACES THAT WAIT: the facts of no program.
  WHAT Flat HOLDS WHILE IT WORKS: no walk.
  WHAT IS LAID FLAT IS LITTLE AND NOT MORE THAN THERE WAS: the facts of no program.
  WHAT IS SEEN MAY BE GONE OVER, AT EACH PLACE; NAMES THAT ARE THE SAME: the facts of no program, and a walk.
  THE NAMES IN WHAT IS SEEN: List: the walk.
  WHAT Flat HOLDS WHEN A PLACE IS DONE: no walk.
-/
import Derived.Test.YtgmeecfdkcbggaaNpX
import Derived.Test.YtgmeecfdkcbggaaMiX
import Derived.Test.YtgmeecfdkcbggaaFoX
import Derived.Test.YtgmeecfdkcbggaaFnY
import Derived.Test.YtgmeecfdkcbggaaMeX
import Derived.Deep.AppendSrc
import Derived.Deep.LoopGhost
namespace Go.Proofs.Ytgmeecfdkcbggaa
open Go.RowKit
/-- A place that waits, and what will be there. -/
structure Tk where
  b : Nat
  p : Nat
  x : Nd
def Tk.has (t : Tk) (q : Addr) : Bool := q.block == t.b && (decide (t.p ≤ q.off) && decide (q.off < t.p + 8))
def inT (T : List Tk) (q : Addr) : Bool := T.any fun t => t.has q
/-- A memory but some blocks, and the places that wait. -/
def offT (c : Mem) (S : Nat → Bool) (T : List Tk) : Mem := fun q => if (S q.block || inT T q) = true then none else c q
theorem offT_ne {c : Mem} {S : Nat → Bool} {T : List Tk} {q : Addr} (h1 : S q.block = false) (h2 : inT T q = false) : offT c S T q = c q := by unfold offT; rw [h1, h2]; rfl
theorem offT_off {c : Mem} {S : Nat → Bool} {T : List Tk} {q : Addr} {v : Value} (h : offT c S T q = some v) : S q.block = false ∧ inT T q = false ∧ c q = some v := by
  unfold offT at h
  cases h1 : S q.block with
  | true => rw [h1] at h; cases h
  | false =>
    cases h2 : inT T q with
    | true => rw [h1, h2] at h; cases h
    | false => rw [h1, h2] at h; exact ⟨rfl, rfl, h⟩
theorem offT_le (c : Mem) (S : Nat → Bool) (T : List Tk) : MLe (offT c S T) c := fun _ _ h => (offT_off h).2.2
theorem offT_nil (c : Mem) (S : Nat → Bool) : MLe (offT c S []) (offS c S) := fun q v h => by
  obtain ⟨h1, _, h2⟩ := offT_off h
  rw [offS_ne h1]; exact h2
/-- The blocks with places that wait are hidden whole. -/
def blkT (S : Nat → Bool) (T : List Tk) : Nat → Bool := fun k => S k || T.any fun t => k == t.b
theorem blkT_no {S : Nat → Bool} {T : List Tk} {k : Nat} : blkT S T k = false ↔ S k = false ∧ ∀ t ∈ T, k ≠ t.b := by simp [blkT]
theorem inT_blk {T : List Tk} {q : Addr} (h : ∀ t ∈ T, q.block ≠ t.b) : inT T q = false := by
  unfold inT
  rw [List.any_eq_false]
  intro t ht
  simp [Tk.has, h t ht]
theorem offS_offT (c : Mem) (S : Nat → Bool) (T : List Tk) : MLe (offS c (blkT S T)) (offT c S T) := fun q v h => by
  have hs := offS_off h
  rw [offS_ne hs] at h
  obtain ⟨h1, h2⟩ := blkT_no.1 hs
  rw [offT_ne h1 (inT_blk h2)]; exact h
/-- A tree in memory, but for the places that wait. -/
inductive Part (c : Mem) (T : List Tk) : Nd → Nat → Nat → Prop
  | hole {x : Nd} {b p : Nat} (h : (⟨b, p, x⟩ : Tk) ∈ T) : Part c T x b p
  | node {k m u g : Int} {o : Bool} {at_ : List Kv} {d : ByteArray} {ks : Kds} {h : Hd} {b p : Nat} (kb ko : Nat) (hn : NAt c b p (.mk k m u g o at_ d ks) h) (ha : Kvm c h.aa at_) (hca : at_.length ≤ h.ca ∧ h.ca ≤ 9223372036854775807) (hck : ks.length ≤ h.ck ∧ h.ck ≤ 9223372036854775807)
      (hak : ks = [] ∨ h.ak = some ⟨kb, ko, none⟩) (hc : ∀ i n y, ks[i]? = some (n, y) → c ⟨kb, ko + i * 9, none⟩ = some (.string n)) (hr : ∀ i n y, ks[i]? = some (n, y) → Part c T y kb (ko + i * 9 + 1)) : Part c T (.mk k m u g o at_ d ks) b p
theorem Part.step {c c' : Mem} {T T' : List Tk} (hm : MLe c c') (hT : ∀ t ∈ T, t ∈ T' ∨ Part c' T' t.x t.b t.p) {x : Nd} {b p : Nat} (h : Part c T x b p) : Part c' T' x b p := by
  induction h with
  | hole h =>
    rcases hT _ h with e | e
    · exact .hole e
    · exact e
  | node kb ko hn ha hca hck hak hc _ ih => exact .node kb ko (hn.on hm) (ha.on hm) hca hck hak (fun i n y hi => hm _ _ (hc i n y hi)) ih
theorem Part.done {c : Mem} {x : Nd} {b p : Nat} (h : Part c [] x b p) : ∃ hd, NAt c b p x hd ∧ NdV c x hd := by
  induction h with
  | hole h => cases h
  | @node k m u g o at_ d ks h b p kb ko hn ha hca hck hak hc _ ih =>
    obtain ⟨F, hF⟩ : ∃ F : Nat → Hd, ∀ i n y, ks[i]? = some (n, y) → NAt c kb (ko + i * 9 + 1) y (F i) ∧ NdV c y (F i) := by
      refine ⟨fun i => if hi : i < ks.length then Classical.choose (ih i ks[i].1 ks[i].2 (List.getElem?_eq_getElem hi)) else h, fun i n y hi => ?_⟩
      obtain ⟨hlt, he⟩ := List.getElem?_eq_some_iff.1 hi
      simp only [hlt, dite_true]
      have := Classical.choose_spec (ih i ks[i].1 ks[i].2 (List.getElem?_eq_getElem hlt))
      simp only [he] at this ⊢
      exact this
    exact ⟨h, hn, .mk kb ko F ha hca hck hak (fun i n y hi => ⟨hc i n y hi, (hF i n y hi).1⟩) (fun i n y hi => (hF i n y hi).2)⟩
/-- Places that wait do not meet. -/
def Apt (T : List Tk) : Prop := T.Pairwise fun a b => a.b ≠ b.b ∨ a.p + 8 ≤ b.p ∨ b.p + 8 ≤ a.p
theorem apt_has {T : List Tk} {t : Tk} (h : Apt (T ++ [t])) (j : Nat) (hj : j < 8) : inT T ⟨t.b, t.p + j, none⟩ = false := by
  unfold inT
  rw [List.any_eq_false]
  intro s hs
  have h1 := (List.pairwise_append.1 h).2.2 s hs t (List.mem_singleton.2 rfl)
  simp [Tk.has]
  intro e h2
  rcases h1 with h1 | h1 | h1
  · exact absurd e.symm h1
  · omega
  · omega
theorem inT_app {A B : List Tk} {q : Addr} : inT (A ++ B) q = (inT A q || inT B q) := by unfold inT; rw [List.any_append]
theorem inT_one {t : Tk} {q : Addr} : inT [t] q = t.has q := by unfold inT; simp
/-- The last place is done: kids of it wait in a new row. -/
theorem part_next {c c' : Mem} {S S' : Nat → Bool} {T N : List Tk} {t : Tk} {n0 g : Nat} {k m u gg : Int} {o : Bool} {at_ : List Kv} {d : ByteArray} {ks : Kds} {h : Hd}
    (hT : t.x = .mk k m u gg o at_ d ks) (hA : Apt (T ++ [t])) (hlo : ∀ q v, c q = some v → q.block < n0) (hTb : ∀ s ∈ T ++ [t], s.b < n0 ∧ S s.b = false) (hg : n0 ≤ g) (hNb : ∀ s ∈ N, s.b = g)
    (hS : ∀ k, k < n0 → S k = false → S' k = false) (hk : MLe (offT c S (T ++ [t])) c')
    (hn : NAt c' t.b t.p (.mk k m u gg o at_ d ks) h) (ha : Kvm (offT c' S' (T ++ N)) h.aa at_) (hca : at_.length ≤ h.ca ∧ h.ca ≤ 9223372036854775807) (hck : ks.length ≤ h.ck ∧ h.ck ≤ 9223372036854775807) (hak : ks = [] ∨ (h.ak = some ⟨g, 0, none⟩ ∧ S' g = false))
    (hc : ∀ i nm y, ks[i]? = some (nm, y) → c' ⟨g, i * 9, none⟩ = some (.string nm) ∧ (⟨g, i * 9 + 1, y⟩ : Tk) ∈ N) (hN : ∀ s ∈ N, ∃ i, s.p = i * 9 + 1)
    {x : Nd} {b p : Nat} (hp : Part (offT c S (T ++ [t])) (T ++ [t]) x b p) : Part (offT c' S' (T ++ N)) (T ++ N) x b p := by
  have hm : MLe (offT c S (T ++ [t])) (offT c' S' (T ++ N)) := fun q v hq => by
    obtain ⟨h1, h2, h3⟩ := offT_off hq
    have hlt := hlo q v h3
    rw [inT_app] at h2
    have h4 : inT T q = false := (Bool.or_eq_false_iff.1 h2).1
    rw [offT_ne (hS _ hlt h1) (by rw [inT_app, h4, inT_blk fun s hs e => by rw [hNb s hs] at e; omega]; rfl)]
    exact hk q v hq
  refine hp.step hm fun s hs => ?_
  rcases List.mem_append.1 hs with e | e
  · exact .inl (List.mem_append.2 (.inl e))
  rw [List.mem_singleton] at e
  subst e
  right
  rw [hT]
  have hb := hTb s (List.mem_append.2 (.inr (List.mem_singleton.2 rfl)))
  have hvis : ∀ j, j < 8 → inT (T ++ N) ⟨s.b, s.p + j, none⟩ = false := fun j hj => by
    rw [inT_app, apt_has hA j hj, inT_blk fun t ht e => by rw [hNb t ht] at e; have e : s.b = g := e; omega]; rfl
  have hsee : ∀ j v, j < 8 → c' ⟨s.b, s.p + j, none⟩ = some v → offT c' S' (T ++ N) ⟨s.b, s.p + j, none⟩ = some v := fun j v hj hv => by
    rw [offT_ne (hS _ hb.1 hb.2) (hvis j hj)]; exact hv
  refine .node g 0 (h := h) ?_ ha hca hck (hak.imp id fun e => e.1) (fun i nm y hi => ?_) (fun i nm y hi => .hole ?_)
  · obtain ⟨e0, e1, e2, e3, e4, e5, e6, e7⟩ := hn
    exact ⟨hsee 0 _ (by omega) e0, hsee 1 _ (by omega) e1, hsee 2 _ (by omega) e2, hsee 3 _ (by omega) e3, hsee 4 _ (by omega) e4, hsee 5 _ (by omega) e5, hsee 6 _ (by omega) e6, hsee 7 _ (by omega) e7⟩
  · have hne : ks ≠ [] := fun e => by rw [e] at hi; simp at hi
    have hSg := (hak.resolve_left hne).2
    rw [Nat.zero_add]
    rw [offT_ne hSg]
    · exact (hc i nm y hi).1
    · rw [inT_app, inT_blk fun t ht e => by have h1 := (hTb t (List.mem_append.2 (.inl ht))).1; have e : g = t.b := e; omega]
      show inT N _ = false
      unfold inT
      rw [List.any_eq_false]
      intro t ht
      obtain ⟨i', e⟩ := hN t ht
      simp [Tk.has]
      intro _ h2
      omega
  · rw [Nat.zero_add]
    exact List.mem_append.2 (.inr (hc i nm y hi).2)
end Go.Proofs.Ytgmeecfdkcbggaa
namespace Go.Proofs.Ytgmeecfdkcbggaa
open Go.RowKit Go.Shelf
/-- A place that waits, with what is seen there. -/
structure Ft where
  b : Nat
  p : Nat
  a : Option Addr
  c : Nat
  l : Fls
def Ft.tk (F : Nd → Nat → Nd) (t : Ft) : Tk := ⟨t.b, t.p, flatD F t.l⟩
abbrev tks (F : Nd → Nat → Nd) (T : List Ft) : List Tk := T.map (Ft.tk F)
def flT : List Ft → List Value
  | [] => []
  | t :: r => .pointer (some ⟨t.b, t.p, none⟩) :: .slice t.a t.l.length t.c :: flT r
theorem flT_app : ∀ A B : List Ft, flT (A ++ B) = flT A ++ flT B
  | [], _ => rfl
  | e :: r, B => by simp [flT, flT_app r B]
theorem flT_len : ∀ A : List Ft, (flT A).length = A.length * 2
  | [] => rfl
  | e :: r => by simp [flT, flT_len r]; omega
theorem flT_last (T : List Ft) (t : Ft) : (flT (T ++ [t]))[T.length * 2]? = some (.pointer (some ⟨t.b, t.p, none⟩)) ∧ (flT (T ++ [t]))[T.length * 2 + 1]? = some (.slice t.a t.l.length t.c) := by
  rw [flT_app, List.getElem?_append_right (by rw [flT_len]; omega), List.getElem?_append_right (by rw [flT_len]; omega), flT_len, Nat.sub_self, Nat.add_sub_cancel_left]
  exact ⟨rfl, rfl⟩
/-- What is seen may be gone over. -/
structure SeenOk (l : Fls) : Prop where
  ne : l ≠ []
  ly : (l.map (·.2)).Nodup
  lil : ∀ q ∈ l, Lil q.1
  lim : ∀ q ∈ l, Lim q.1
  tot : tot l ≤ 1000
theorem dirP_pre : ∀ l : Fls, (dirP l).Sublist l
  | [] => List.Sublist.refl _
  | q :: r => by
    rw [dirP]
    split
    · exact List.nil_sublist _
    split
    · exact List.Sublist.cons_cons _ (List.nil_sublist _)
    · exact List.Sublist.cons_cons _ (dirP_pre r)
theorem shP_pre (l : Fls) : (shP l).Sublist l := by
  cases l with
  | nil => exact List.Sublist.refl _
  | cons q r =>
    rw [shP]
    split
    · exact List.Sublist.cons_cons _ (List.nil_sublist _)
    · exact dirP_pre _
theorem kidsP_ly (nm : ByteArray) : ∀ l : Fls, ((kidsP nm l).map (·.2)).Sublist (l.map (·.2))
  | [] => List.Sublist.refl _
  | q :: r => by
    have ih := kidsP_ly nm r
    unfold kidsP at ih ⊢
    rw [List.filterMap_cons]
    cases kidO nm q.1 with
    | none => exact List.Sublist.cons _ ih
    | some y => exact List.Sublist.cons_cons _ ih
theorem lil_kid {x y : Nd} {nm : ByteArray} (h : Lil x) (hy : kidO nm x = some y) : Lil y := by
  rw [kidO_eq] at hy
  obtain ⟨i, hi⟩ := List.getElem?_of_mem (dirKs_sub (fstK_mem hy))
  obtain ⟨k, m, u, g, o, at_, d, ks⟩ := x
  rw [Lil] at h
  exact (lilL_get h.2.2 hi).2
theorem lim_kid {x y : Nd} {nm : ByteArray} (h : Lim x) (hy : kidO nm x = some y) : Lim y := by
  rw [kidO_eq] at hy
  obtain ⟨i, hi⟩ := List.getElem?_of_mem (dirKs_sub (fstK_mem hy))
  obtain ⟨k, m, u, g, o, at_, d, ks⟩ := x
  rw [Lim] at h
  exact limL_get h.2.2 hi
theorem nxt_mem {l : Fls} {nm : ByteArray} {q : Nd × Nat} (h : q ∈ nxt l nm) : ∃ p ∈ l, kidO nm p.1 = some q.1 := by
  obtain ⟨p, hp, e⟩ := List.mem_filterMap.1 (shP_sub _ _ h)
  obtain ⟨y, hy, rfl⟩ := Option.map_eq_some_iff.1 e
  exact ⟨p, hp, hy⟩
theorem SeenOk.next {l : Fls} (h : SeenOk l) {nm : ByteArray} (hn : nxt l nm ≠ []) : SeenOk (nxt l nm) := by
  refine ⟨hn, ?_, fun q hq => ?_, fun q hq => ?_, ?_⟩
  · exact (h.ly.sublist (kidsP_ly nm l)).sublist ((shP_pre _).map _)
  · obtain ⟨p, hp, e⟩ := nxt_mem hq
    exact lil_kid (h.lil p hp) e
  · obtain ⟨p, hp, e⟩ := nxt_mem hq
    exact lim_kid (h.lim p hp) e
  · have := tot_nxt1 l nm; have := h.tot; omega
theorem ly_of {D : List Sp} {l : Fls} (h : D.map Sp.pr = l) (hl : (l.map (·.2)).Nodup) : ∀ (i j : Nat) a b, D[i]? = some a → D[j]? = some b → i ≠ j → a.ly ≠ b.ly := by
  subst h
  intro i j a b hi hj hij e
  have h2 : (D.map (·.ly)).Nodup := by rw [List.map_map] at hl; exact hl
  have h3 := List.pairwise_iff_getElem.1 h2
  obtain ⟨hi1, hi2⟩ := List.getElem?_eq_some_iff.1 hi
  obtain ⟨hj1, hj2⟩ := List.getElem?_eq_some_iff.1 hj
  rcases Nat.lt_or_gt_of_ne hij with q | q
  · exact h3 i j (by simpa using hi1) (by simpa using hj1) q (by simp [hi2, hj2, e])
  · exact h3 j i (by simpa using hj1) (by simpa using hi1) q (by simp [hi2, hj2, e])
/-- What is hidden: the result's box, the work's box and row. -/
def flS (nb wb : Nat) (vw : Value) (S : Nat → Bool) : Nat → Bool := fun k => ((k == nb || k == wb) || some k == vw.ownBlock) || S k
theorem flS_no {nb wb k : Nat} {vw : Value} {S : Nat → Bool} : flS nb wb vw S k = false ↔ k ≠ nb ∧ k ≠ wb ∧ some k ≠ vw.ownBlock ∧ S k = false := by simp [flS, and_assoc]
/-- The place itself. -/
structure PlcOk (w W : World) (nb : Nat) (t : Ft) : Prop where
  lo : w.heap.size ≤ t.b
  ne : t.b ≠ nb
  typ : ∃ cs ty, W.heap[t.b]? = some (.cells cs ty (0, 0)) ∧ (ty = 31 ∨ ty = 48)
  cell : NAt W.cell? t.b t.p zN zH
/-- What stands between two rounds. -/
structure FJ (F : Nd → Nat → Nd) (S : Nat → Bool) (w W : World) (fb ab wb : Nat) (fv vw : Value) (T : List Ft) (top : Fls) : Prop where
  low : Below w.heap.size w W
  res : NBw W w.heap.size zN zH
  rty : ∃ cs, W.heap[w.heap.size]? = some (.cells cs 31 (0, 0))
  fbx : W.heap[fb]? = some (.cells #[fv] 44 (0, 0))
  fbl : w.heap.size ≤ fb
  wbx : Boxed W wb 72 vw
  wbl : w.heap.size ≤ wb
  row : W.ownsRow w.heap.size 71 2 vw T.length (flT T)
  plc : ∀ t ∈ T, PlcOk w W w.heap.size t
  apt : Apt (tks F T)
  see : ∀ t ∈ T, SeenOk t.l ∧ SpL (offS W.cell? (blkT (flS w.heap.size wb vw S) (tks F T))) (.slice t.a t.l.length t.c) t.l
  prt : Part (offT W.cell? (flS w.heap.size wb vw S) (tks F T)) (tks F T) (flatD F top) ab 0
/-- What a round keeps of what it began with. -/
structure RR (w W0 W : World) (H : Nat → Bool) (t : Tk) : Prop where
  low : Below w.heap.size w W
  siz : W0.heap.size ≤ W.heap.size
  res : W.heap[w.heap.size]? = W0.heap[w.heap.size]?
  blk : ∀ k, k < W0.heap.size → H k = false → k ≠ t.b → W.heap[k]? = W0.heap[k]?
  cel : ∀ q : Addr, q.block = t.b → t.has q = false → W.cell? q = W0.cell? q
  typ : ∃ cs ty, W.heap[t.b]? = some (.cells cs ty (0, 0)) ∧ (ty = 31 ∨ ty = 48)
theorem fro_cells {W : World} {b : Nat} {cs : Array Value} {ty : TypeId} (h : W.heap[b]? = some (.cells cs ty (0, 0))) (j : Nat) : W.frozen? ⟨b, j, none⟩ = false := by simp [World.frozen?, h]
theorem RR.start {w W0 : World} {H : Nat → Bool} {t : Tk} (hl : Below w.heap.size w W0) (ht : ∃ cs ty, W0.heap[t.b]? = some (.cells cs ty (0, 0)) ∧ (ty = 31 ∨ ty = 48)) : RR w W0 W0 H t :=
  ⟨hl, Nat.le_refl _, rfl, fun _ _ _ _ => rfl, fun _ _ _ => rfl, ht⟩
theorem RR.mv {w W0 W W' : World} {H : Nat → Bool} {t : Tk} (h : RR w W0 W H t) (htb : t.b < W0.heap.size ∧ H t.b = false) (hnb : w.heap.size < W0.heap.size) (hs : W.heap.size ≤ W'.heap.size) (hl : Below w.heap.size W W') (hb : ∀ k, k < W0.heap.size → (H k = false ∨ k = w.heap.size) → W'.heap[k]? = W.heap[k]?) : RR w W0 W' H t := by
  have hbt := hb t.b htb.1 (.inl htb.2)
  refine ⟨h.low.trans hl, Nat.le_trans h.siz hs, (hb _ hnb (.inr rfl)).trans h.res, fun k hk hH hne => (hb k hk (.inl hH)).trans (h.blk k hk hH hne), fun q hq hh => ?_, ?_⟩
  · exact (World.cell?_of_block (w := W) (by rw [hq]; exact hbt)).trans (h.cel q hq hh)
  · rw [hbt]; exact h.typ
theorem RR.below {w W0 W W' : World} {H : Nat → Bool} {t : Tk} (h : RR w W0 W H t) (htb : t.b < W0.heap.size ∧ H t.b = false) (hnb : w.heap.size < W0.heap.size) (hb : Below W.heap.size W W') : RR w W0 W' H t :=
  h.mv htb hnb hb.size (hb.mono h.low.size) fun k hk _ => hb.block k (Nat.lt_of_lt_of_le hk h.siz)
theorem RR.set {w W0 W : World} {H : Nat → Bool} {t : Tk} (h : RR w W0 W H t) (htb : t.b < W0.heap.size ∧ H t.b = false) (hnb : w.heap.size < W0.heap.size) {p : Addr} (hp : w.heap.size < p.block) (hp2 : W0.heap.size ≤ p.block ∨ H p.block = true) (v : Value) : RR w W0 (W.setCell p v) H t := by
  refine h.mv htb hnb (by rw [World.size_setCell]; exact Nat.le_refl _) ((Below.refl _ W).setCell (p := p) (by omega) v) fun k hk hH => Below.heap_setCell _ _ _ _ fun e => ?_
  subst e
  rcases hp2 with q | q
  · omega
  · rcases hH with r | r
    · rw [q] at r; cases r
    · omega
theorem typ_set {W : World} {b j : Nat} {v : Value} (h : ∃ cs ty, W.heap[b]? = some (.cells cs ty (0, 0)) ∧ (ty = 31 ∨ ty = 48)) : ∃ cs ty, (W.setCell ⟨b, j, none⟩ v).heap[b]? = some (.cells cs ty (0, 0)) ∧ (ty = 31 ∨ ty = 48) := by
  obtain ⟨cs, ty, hh, ht⟩ := h
  refine ⟨cs.setIfInBounds j v, ty, ?_, ht⟩
  obtain ⟨hlt, hk⟩ := Array.getElem?_eq_some_iff.1 hh
  show (W.heap.modify b _)[b]? = _
  rw [Array.getElem?_eq_getElem (by rw [Array.size_modify]; exact hlt), Array.getElem_modify_self, hk]
  rfl
theorem RR.own {w W0 W : World} {H : Nat → Bool} {t : Tk} (h : RR w W0 W H t) (htl : w.heap.size < t.b) (j : Nat) (hj : j < 8) (v : Value) : RR w W0 (W.setCell ⟨t.b, t.p + j, none⟩ v) H t := by
  refine ⟨h.low.setCell (p := ⟨t.b, t.p + j, none⟩) (Nat.le_of_lt htl) v, by rw [World.size_setCell]; exact h.siz, ?_, fun k hk hH hne => ?_, fun q hq hh => ?_, typ_set h.typ⟩
  · rw [Below.heap_setCell _ _ _ _ (by show w.heap.size ≠ t.b; omega)]; exact h.res
  · rw [Below.heap_setCell _ _ _ _ (by exact hne)]; exact h.blk k hk hH hne
  · rw [World.cell?_setCell_other _ _ _ _ (fun e => ?_)]
    · exact h.cel q hq hh
    · subst e
      simp [Tk.has] at hh
      omega
theorem RR.st8 {w W0 W : World} {H : Nat → Bool} {t : Tk} (h : RR w W0 W H t) (htl : w.heap.size < t.b) (x : Nd) (hd : Hd) : RR w W0 (Go.Proofs.Ytgmeecfdkcbggaa.st8 W t.b t.p x hd) H t := by
  obtain ⟨k, m, u, g, o, at_, d, ks⟩ := x
  exact ((((((((h.own htl 0 (by omega) _).own htl 1 (by omega) _).own htl 2 (by omega) _).own htl 3 (by omega) _).own htl 4 (by omega) _).own htl 5 (by omega) _).own htl 6 (by omega) _).own htl 7 (by omega) _)
/-- What could be seen can be seen still. -/
theorem RR.mle {w W0 W : World} {H : Nat → Bool} {t : Tk} {T : List Tk} (h : RR w W0 W H t) : MLe (offT W0.cell? H (T ++ [t])) W.cell? := fun q v hq => by
  obtain ⟨h1, h2, h3⟩ := offT_off hq
  have hlt := World.block_lt_of_cell? _ _ h3
  by_cases e : q.block = t.b
  · rw [inT_app, inT_one] at h2
    exact (h.cel q e (Bool.or_eq_false_iff.1 h2).2).trans h3
  · exact (World.cell?_of_block (w := W0) (h.blk _ hlt h1 e)).trans h3
end Go.Proofs.Ytgmeecfdkcbggaa
namespace Go.Proofs.Ytgmeecfdkcbggaa
open Go.RowKit
theorem lilL_of : ∀ {ks : Kds}, (∀ p ∈ ks, p.1.size ≤ 255 ∧ Lil p.2) → LilL ks
  | [], _ => by rw [LilL]; trivial
  | (n, x) :: l, h => by
    rw [LilL]
    have h1 := h (n, x) (List.mem_cons_self ..)
    exact ⟨h1.1, h1.2, lilL_of fun p hp => h p (List.mem_cons_of_mem _ hp)⟩
theorem cntL_map (g : ByteArray → Nd) : ∀ N : List ByteArray, cntL (N.map fun nm => (nm, g nm)) = (N.map fun nm => cnt (g nm)).sum
  | [] => rfl
  | n :: N => by
    rw [List.map_cons, List.map_cons, List.sum_cons, cntL, cntL_map g N]
theorem sum_leM {g h : ByteArray → Nat} : ∀ {N : List ByteArray}, (∀ n ∈ N, g n ≤ h n) → (N.map g).sum ≤ (N.map h).sum
  | [], _ => Nat.le_refl _
  | n :: N, hg => by
    have h1 := sum_leM fun m hm => hg m (List.mem_cons_of_mem _ hm)
    have h2 := hg n (List.mem_cons_self ..)
    simp only [List.map_cons, List.sum_cons]
    omega
theorem cnt_withF (x : Nd) (ks : Kds) : cnt (x.with ks) = cntL ks + 1 := by
  obtain ⟨k, m, u, g, o, at_, d, k0⟩ := x
  rw [Nd.with, cnt]
theorem flat0_cnt : ∀ (N : Nat) (l : Fls), tot l ≤ N → l ≠ [] → cnt (flat0 l) ≤ tot l
  | N, [], _, h => absurd rfl h
  | 0, q :: r, h, _ => by have := cnt_posF q.1; simp [tot] at h; omega
  | N + 1, q :: r, h, _ => by
    rw [flat0_cons, cnt_withF, cntL_map]
    have h1 := tot_nxt (q :: r) (listP (q :: r)) (rise_nodup (listP_rise _))
    rw [List.length_cons] at h1
    have h2 : ((listP (q :: r)).map fun nm => cnt (flat0 (nxt (q :: r) nm))).sum ≤ ((listP (q :: r)).map fun nm => tot (nxt (q :: r) nm)).sum := sum_leM fun nm hm => by
      have h3 := tot_nxt1 (q :: r) nm
      rw [List.length_cons] at h3
      exact flat0_cnt N _ (by omega) (mem_listP.1 hm)
    omega
theorem lil_nak {x : Nd} (h : Lil x) {ks : Kds} (hk : LilL ks) : Lil ((nakN x).with ks) := by
  obtain ⟨k, m, u, g, o, at_, d, k0⟩ := x
  rw [Lil] at h
  rw [nakN, Nd.with, Lil]
  exact ⟨h.1, h.2.1, hk⟩
theorem lil_name {x y : Nd} {nm : ByteArray} (h : Lil x) (hy : kidO nm x = some y) : nm.size ≤ 255 := by
  rw [kidO_eq] at hy
  obtain ⟨i, hi⟩ := List.getElem?_of_mem (dirKs_sub (fstK_mem hy))
  obtain ⟨k, m, u, g, o, at_, d, ks⟩ := x
  rw [Lil] at h
  exact (lilL_get h.2.2 hi).1
theorem flat0_lil : ∀ (N : Nat) (l : Fls), tot l ≤ N → l ≠ [] → (∀ q ∈ l, Lil q.1) → Lil (flat0 l)
  | N, [], _, h, _ => absurd rfl h
  | 0, q :: r, h, _, _ => by have := cnt_posF q.1; simp [tot] at h; omega
  | N + 1, q :: r, h, _, hl => by
    rw [flat0_cons]
    refine lil_nak (hl q (List.mem_cons_self ..)) (lilL_of fun p hp => ?_)
    obtain ⟨nm, hm, rfl⟩ := List.mem_map.1 hp
    have hne := mem_listP.1 hm
    have h3 := tot_nxt1 (q :: r) nm
    rw [List.length_cons] at h3
    refine ⟨?_, flat0_lil N _ (by omega) hne fun q2 hq => ?_⟩
    · cases e : nxt (q :: r) nm with
      | nil => exact absurd e hne
      | cons q2 r2 =>
        obtain ⟨p, hp, e2⟩ := nxt_mem (show q2 ∈ nxt (q :: r) nm by rw [e]; exact List.mem_cons_self ..)
        exact lil_name (hl p hp) e2
    · obtain ⟨p, hp, e2⟩ := nxt_mem hq
      exact lil_kid (hl p hp) e2
/-- Layers that may be gone over. -/
structure LaysOk (xs : List Nd) : Prop where
  lil : ∀ x ∈ xs, Lil x
  tot : tot (layP xs) ≤ 1000
theorem layP_mem {xs : List Nd} {q : Nd × Nat} (h : q ∈ layP xs) : q.1 ∈ xs := by
  unfold layP at h
  obtain ⟨x, i⟩ := q
  exact (List.mem_zipIdx' h).2 ▸ List.getElem_mem _
theorem cnt_tot : ∀ {l : Fls} {q : Nd × Nat}, q ∈ l → cnt q.1 ≤ tot l
  | p :: l, q, h => by
    rw [tot]
    rcases List.mem_cons.1 h with e | e
    · rw [e]; omega
    · have := cnt_tot e; omega
theorem layP_len (xs : List Nd) : (layP xs).length = xs.length := by unfold layP; rw [List.length_zipIdx]
theorem LaysOk.len {xs : List Nd} (h : LaysOk xs) : xs.length ≤ 1000 := by
  have h1 := len_tot (layP xs)
  rw [layP_len] at h1
  have := h.tot
  omega
theorem LaysOk.small {xs : List Nd} (h : LaysOk xs) : SmallP (layP xs) := ⟨by rw [layP_len]; exact h.len, fun q hq => by have := cnt_tot hq; have := h.tot; omega⟩
theorem LaysOk.lim {xs : List Nd} (h : LaysOk xs) : LimP (layP xs) := fun q hq => lim_of q.1 (h.small.2 q hq) (h.lil _ (layP_mem hq))
theorem LaysOk.seen {xs : List Nd} (h : LaysOk xs) (hne : shP (layP xs) ≠ []) : SeenOk (shP (layP xs)) := by
  refine ⟨hne, ?_, fun q hq => h.lil _ (layP_mem (shP_sub _ _ hq)), fun q hq => h.lim q (shP_sub _ _ hq), ?_⟩
  · refine List.Nodup.sublist ((shP_pre _).map _) ?_
    unfold layP
    rw [List.zipIdx_map_snd]
    exact List.nodup_range'
  · have := tot_shP (layP xs); have := h.tot; omega
theorem tot_one (x : Nd) : tot (layP [x]) = cnt x := by
  show cnt x + 0 = cnt x
  rfl
theorem LaysOk.flat {xs : List Nd} (h : LaysOk xs) (hne : shP (layP xs) ≠ []) : LaysOk [flat0 (shP (layP xs))] := by
  have h1 := tot_shP (layP xs)
  have h2 := h.tot
  refine ⟨fun x hx => ?_, ?_⟩
  · rw [List.mem_singleton] at hx
    rw [hx]
    exact flat0_lil _ _ (Nat.le_refl _) hne fun q hq => h.lil _ (layP_mem (shP_sub _ _ hq))
  · rw [tot_one]
    have := flat0_cnt _ _ (Nat.le_refl _) hne
    omega
theorem tot_zip (xs : List Nd) : ∀ n m : Nat, Go.Proofs.Ytgmeecfdkcbggaa.tot (xs.zipIdx n) = Go.Proofs.Ytgmeecfdkcbggaa.tot (xs.zipIdx m) := by
  induction xs with
  | nil => intro n m; rfl
  | cons x xs ih =>
    intro n m
    rw [List.zipIdx_cons, List.zipIdx_cons, Go.Proofs.Ytgmeecfdkcbggaa.tot, Go.Proofs.Ytgmeecfdkcbggaa.tot, ih (n + 1) (m + 1)]
theorem tot_lay (x : Nd) (xs : List Nd) : Go.Proofs.Ytgmeecfdkcbggaa.tot (layP (x :: xs)) = cnt x + Go.Proofs.Ytgmeecfdkcbggaa.tot (layP xs) := by
  unfold layP
  rw [List.zipIdx_cons, Go.Proofs.Ytgmeecfdkcbggaa.tot, tot_zip xs 1 0]
theorem LaysOk.tail {x : Nd} {xs : List Nd} (h : LaysOk (x :: xs)) : LaysOk xs := by
  have h1 := h.tot
  rw [tot_lay] at h1
  exact ⟨fun y hy => h.lil y (List.mem_cons_of_mem _ hy), by omega⟩
theorem LaysOk.head {x : Nd} {xs : List Nd} (h : LaysOk (x :: xs)) : LaysOk [x] := by
  have h1 := h.tot
  rw [tot_lay] at h1
  exact ⟨fun y hy => by rw [List.mem_singleton] at hy; rw [hy]; exact h.lil x (List.mem_cons_self ..), by rw [tot_one]; omega⟩
theorem LaysOk.both {x : Nd} {xs : List Nd} (h : LaysOk (x :: xs)) (hne : shP (layP xs) ≠ []) : LaysOk [x, flat0 (shP (layP xs))] := by
  have h1 := h.tot
  rw [tot_lay] at h1
  have h2 := h.tail.flat hne
  have h3 := flat0_cnt _ _ (Nat.le_refl _) hne
  have h4 := tot_shP (layP xs)
  refine ⟨fun y hy => ?_, ?_⟩
  · rcases List.mem_cons.1 hy with e | e
    · rw [e]; exact h.lil x (List.mem_cons_self ..)
    · exact h2.lil y e
  · rw [tot_lay, tot_one]; omega
end Go.Proofs.Ytgmeecfdkcbggaa
namespace Go.Proofs.Ytgmeecfdkcbggaa
open Go.RowKit
theorem stackP_okF (names : List ByteArray) : ∀ {l : Fls}, (l ≠ [] → SeenOk l) → names.foldl (fun l nm => shP (kidsP nm l)) l ≠ [] → SeenOk (names.foldl (fun l nm => shP (kidsP nm l)) l) := by
  induction names with
  | nil => intro l h hn; exact h hn
  | cons nm names ih =>
    intro l h hn
    rw [List.foldl_cons] at hn ⊢
    refine ih (fun h2 => ?_) hn
    refine (h fun e => h2 ?_).next (nm := nm) h2
    rw [e]
    rfl
theorem LaysOk.stack {xs : List Nd} (h : LaysOk xs) (names : List ByteArray) : stackP xs names ≠ [] → SeenOk (stackP xs names) := stackP_okF names h.seen
theorem flat0_fields (q : Nd × Nat) (r : Fls) {k m u g : Int} {o : Bool} {at_ : List Kv} {d : ByteArray} {ks : Kds} (h : q.1 = .mk k m u g o at_ d ks) : ∃ ks', flat0 (q :: r) = .mk k m u g false at_ d ks' := by
  rw [flat0_cons, h]
  exact ⟨_, rfl⟩
end Go.Proofs.Ytgmeecfdkcbggaa
namespace Go.Proofs.Ytgmeecfdkcbggaa
open Go.RowKit Go.Shelf
theorem Try.infoStr : (Try.prog.info? 9).map (fun i => (i.zero, i.size, i.bytes)) = some (some (.string ⟨#[]⟩), 1, 16) := by kernel_rfl
/-- Names as a row. -/
def strL (l : List ByteArray) : List Value := l.map .string
theorem strL_one (l : List ByteArray) : ∀ u ∈ strL l, u.oneCell' = true := fun u hu => by
  obtain ⟨s, _, rfl⟩ := List.mem_map.1 hu
  rfl
theorem strs_ownS {w : World} {base : Nat} {S : Nat → Bool} (hS : ∀ k, S k = true → k < base) {v : Value} {l : List ByteArray} (h : w.ownsRow base 9 1 v l.length (strL l)) : ∃ a cap, v = .slice a l.length cap ∧ l.length ≤ cap ∧ cap ≤ 9223372036854775807 ∧ Strs (offS w.cell? S) a l := by
  obtain ⟨a, cap, hv, h1, h2, hf⟩ := owns_cells h
  refine ⟨a, cap, hv, h1, h2, ?_⟩
  rcases hf with ⟨_, h0, _⟩ | ⟨g, ha, hb, _, hc, _⟩
  · exact .inl (List.eq_nil_of_length_eq_zero h0)
  · refine .inr ⟨g, 0, ha, fun i s hi => ?_⟩
    rw [offS_ne, Nat.zero_add]
    · refine hc i _ ?_
      unfold strL
      rw [List.getElem?_map, hi]
      rfl
    · show S g = false
      cases hh : S g with
      | false => rfl
      | true => have := hS g hh; omega
set_option maxRecDepth 100000 in
set_option maxHeartbeats 2000000 in
theorem mlist_any {w : World} {S : Nat → Bool} (hS0 : ∀ k, S k = true → k < w.heap.size) {a : Option Addr} {cap : Nat} {xs : List Nd} {an : Option Addr} {capn : Nat} {names : List ByteArray} (hx : NsV (offS w.cell? S) a xs) (hs : Strs (offS w.cell? S) an names) (hok : LaysOk xs) (hln : names.length ≤ 1000) :
    Calls Try.prog 15 #[.slice a xs.length cap, .slice an names.length capn] w fun e w' => (∃ a' cap', e = .returned (.slice a' (listP (stackP xs names)).length cap') ∧ (listP (stackP xs names)).length ≤ cap' ∧ cap' ≤ 9223372036854775807 ∧ Strs (offS w'.cell? S) a' (listP (stackP xs names))) ∧ Below w.heap.size w w' := by
  have HW : Hid _ := walk_any (cap := cap) (capn := capn) hS0 hx hs hok.len hln hok.small
  have HST : Hid _ := hok.stack names
  have HS0 : Hid _ := hS0
  clear hx hs hok hS0
  generalize stackP xs names = top at HW HST ⊢
  obtain ⟨i0, hi0, hi1, hi2, hi3⟩ := info_three Try.infoStr
  have HI0 : Hid _ := hi0
  have HI1 : Hid _ := hi1
  have HI2 : Hid _ := hi2
  have HI3 : Hid _ := hi3
  clear hi0 hi1 hi2 hi3
  go_enter Try.func15, Try.ntmps15
  go_wp2_with fail
  refine Calls.mono HW.out ?_
  rintro e w1 ⟨v, rfl, hv, hB1⟩
  obtain ⟨va, vc, D, rfl, g1, g2, g3, g4, g5⟩ := hv
  have HP : Hid (Calls Try.prog 28 #[.slice va D.length vc] w1 fun e w' => ∃ v, e = .returned v ∧ PlL (offS w'.cell? S) v ((listP top).map fun nm => (nm, nxt top nm)) ∧ Below w1.heap.size w1 w') := by
    have e := places_any (w := w1) (S := S) (vc := vc) (D := D) (fun k hk => Nat.lt_of_lt_of_le (HS0.out k hk) hB1.size) g3 g4 (by
      cases D with
      | nil => intro i j a b hi; simp at hi
      | cons s D => exact ly_of g5 (HST.out (by rw [← g5]; simp)).ly) (fun s hs => (HST.out (by rw [← g5]; intro e; rw [List.map_eq_nil_iff] at e; rw [e] at hs; cases hs)).lil s.pr (by rw [← g5]; exact List.mem_map_of_mem hs)) (by
      rw [g5]
      by_cases ht : top = []
      · rw [ht]; exact Nat.zero_le _
      · exact (HST.out ht).tot)
    rw [g5] at e
    exact e
  have HTL : Hid ((listP top).length ≤ 1000) := by
    show _ ≤ _
    have h1 := listP_len top
    by_cases ht : top = []
    · rw [ht]; exact Nat.zero_le _
    · have := (HST.out ht).tot; omega
  clear HW g1 g2 g3 g4 g5
  go_wp2_with fail
  refine Calls.mono HP.out ?_
  rintro e w2 ⟨v5, rfl, hv5, hB2⟩
  obtain ⟨pa, pc, G, rfl, pl1, pl2, pl3, pl4, pl5⟩ := hv5
  have HNM : Hid (G.map (·.n) = listP top) := by
    show _ = _
    have h1 := congrArg (List.map Prod.fst) pl5
    rw [List.map_map, List.map_map] at h1
    have e2 : (listP top).map (Prod.fst ∘ fun nm => (nm, nxt top nm)) = listP top := by
      have : (Prod.fst ∘ fun nm : ByteArray => (nm, nxt top nm)) = id := rfl
      rw [this, List.map_id]
    rw [e2] at h1
    rw [← h1]
    unfold pls
    rw [List.map_map]
    rfl
  have hlp : G.length = (listP top).length := by rw [← HNM.out, List.length_map]
  have HPL3 : Hid _ := pl3
  have hB02 := hB1.trans (hB2.mono hB1.size)
  obtain ⟨NG, HNG⟩ : ∃ NG, Hid (G.length = NG) := ⟨_, rfl⟩
  have hNG : NG ≤ 1000 := by have := HTL.out; rw [← hlp, HNG.out] at this; exact this
  rw [HNG.out] at pl1 ⊢
  clear HP pl3 pl4 pl5 hB1 hB2 hlp
  go_wp2
  go_loopw [5, 13] (fun v i wr => ∃ j : Nat, j ≤ NG ∧ i = .int .i64 j ∧ Hid (wr.ownsRow w2.heap.size 9 1 v j (strL ((G.map (·.n)).take j))) ∧ Hid (Below w2.heap.size w2 wr)) (fun _ i _ => NG - (intOf i).toNat)
  case atStart => exact ⟨0, Nat.zero_le _, rfl, World.ownsRow_nil _ _ _ _, Below.refl _ _⟩
  case round =>
    obtain ⟨j, hj, rfl, HR, HB⟩ := hrel
    by_cases hjl : j < NG
    · have hb2 : decide ((j : Int) < (NG : Int)) = true := decide_eq_true (by omega)
      have hji2 : (j : Int) < (NG : Int) := by omega
      obtain ⟨e, he⟩ : ∃ e, G[j]? = some e := ⟨_, List.getElem?_eq_getElem (by rw [HNG.out]; exact hjl)⟩
      obtain ⟨pb, hpa, hprow⟩ : ∃ b, pa = some ⟨b, 0, none⟩ ∧ ∀ (i : Nat) e, G[i]? = some e → offS w2.cell? S ⟨b, i * 2, none⟩ = some (.string e.n) ∧ offS w2.cell? S ⟨b, i * 2 + 1, none⟩ = some (.slice e.a e.L.length e.c) := by
        rcases HPL3.out with q | q
        · rw [q] at he; simp at he
        · exact q
      subst hpa
      obtain ⟨x0, x1⟩ := hprow j e he
      have x0 := mle_below HB.out _ _ (offS_le _ _ _ _ x0)
      have x1 := mle_below HB.out _ _ (offS_le _ _ _ _ x1)
      have HTK : Hid (strL ((G.map (·.n)).take (j + 1)) = strL ((G.map (·.n)).take j) ++ strL [e.n]) := by
        show _ = _
        rw [List.take_add_one, List.getElem?_map, he]
        unfold strL
        rw [List.map_append]
        rfl
      obtain ⟨s0, s1⟩ := two_new wr (.string e.n) (.slice e.a e.L.length e.c) 67
      have hal := (Below.refl _ wr).alloc (Nat.le_refl _) (.cells #[.string e.n, .slice e.a e.L.length e.c] 67)
      have HR2 : Hid _ := ownsRow_bel HR.out hal
      have HB2 : Hid _ := HB.out.trans (hal.mono HB.out.size)
      clear he hprow HR HB hal
      go_upto_region 5 with fail
      generalize wr.alloc (.cells #[.string e.n, .slice e.a e.L.length e.c] 67) = w3 at s0 s1 HR2 HB2 ⊢
      generalize wr.heap.size = b7 at s0 s1 ⊢
      clear x0 x1
      go_wp2_with (at_builtin; refine wpList_append_src (w3.alloc (.cells #[.string e.n] 9)) rfl (.tmp 17) (.tmp 20) 23 rfl w2.heap.size 9 i0 (.string ⟨#[]⟩) 1 16 Try.underlying23 HI0.out HI1.out HI2.out HI3.out rfl (by decide) u5 j (strL ((G.map (·.n)).take j)) rfl (World.ownsRow.alloc HR2.out _) (some ⟨w3.heap.size, 0, none⟩) 1 1 (strL [e.n]) rfl rfl (.inr ⟨_, rfl, fun q t hq => by rw [addr_add, Nat.zero_add]; refine (World.cell?_alloc_at _ _ _ _ rfl).trans ?_; simpa [strL] using hq⟩) (strL_one _) (by unfold maxLen; omega) (by omega) (by have := (Below.size HB2.out); rw [World.size_alloc]; omega) ?_)
      intro v7 w7 hown7 hgr7 ho7
      have HR7 : Hid (w7.ownsRow w2.heap.size 9 1 v7 (j + 1) (strL ((G.map (·.n)).take (j + 1)))) := by
        show World.ownsRow ..
        rw [HTK.out]
        exact hown7
      have HB7 : Hid (Below w2.heap.size w2 w7) := (Below.trans HB2.out (((Below.refl _ w3).alloc (Below.size HB2.out) _))).grown hgr7 (by have := (Below.size HB2.out); rw [World.size_alloc]; omega) (fun g e => ((World.ownsRow.lt HR2.out) g e).1)
      clear hown7 hgr7 ho7 HR2 HB2 s0 s1
      go_wp2
      go_roundw
      case rel => exact ⟨j + 1, by omega, by go_num, HR7.out, HB7.out⟩
      case measure => (simp [intOf]; try omega)
    · obtain rfl : j = NG := by omega
      have hb2 : decide ((j : Int) < (j : Int)) = false := decide_eq_false (by omega)
      go_wp2
      go_ret
      have h1 := HR.out
      rw [List.take_of_length_le (by rw [List.length_map, HNG.out]; omega), HNM.out] at h1
      have hlj : (listP top).length = j := by rw [← HNM.out, List.length_map, HNG.out]
      rw [← hlj] at h1
      obtain ⟨a', c', e1, e2, e3, e4⟩ := strs_ownS (S := S) (fun k hk => Nat.lt_of_lt_of_le (HS0.out k hk) hB02.size) h1
      exact ⟨⟨a', c', by rw [e1]; rfl, e2, e3, e4⟩, hB02.trans (HB.out.mono hB02.size)⟩
end Go.Proofs.Ytgmeecfdkcbggaa
namespace Go.Proofs.Ytgmeecfdkcbggaa
open Go.RowKit Go.Shelf
theorem nat_other {c c' : Mem} {b p : Nat} {x : Nd} {h : Hd} (hn : NAt c b p x h) (hc : ∀ j, j < 8 → c' ⟨b, p + j, none⟩ = c ⟨b, p + j, none⟩) : NAt c' b p x h := by
  obtain ⟨k, m, u, g, o, at_, d, ks⟩ := x
  obtain ⟨h0, h1, h2, h3, h4, h5, h6, h7⟩ := hn
  exact ⟨(hc 0 (by omega)).trans h0, (hc 1 (by omega)).trans h1, (hc 2 (by omega)).trans h2, (hc 3 (by omega)).trans h3, (hc 4 (by omega)).trans h4, (hc 5 (by omega)).trans h5, (hc 6 (by omega)).trans h6, (hc 7 (by omega)).trans h7⟩
theorem FJ.tb {F : Nd → Nat → Nd} {S : Nat → Bool} (_hS : ∀ _w : World, True) {w W : World} {fb ab wb : Nat} {fv vw : Value} {T : List Ft} {top : Fls} (h : FJ F S w W fb ab wb fv vw T top) (hS0 : ∀ k, S k = true → k < w.heap.size) {t : Ft} (ht : t ∈ T) : w.heap.size < t.b ∧ t.b < W.heap.size ∧ flS w.heap.size wb vw S t.b = false ∧ t.b ≠ fb := by
  have hp := h.plc t ht
  obtain ⟨cs, ty, hh, hty⟩ := hp.typ
  have hlt := (Array.getElem?_eq_some_iff.1 hh).1
  have hlo := hp.lo
  have hne := hp.ne
  have hwb : t.b ≠ wb := fun e => by
    have := h.wbx
    unfold Boxed at this
    rw [← e, hh] at this
    simp at this
    rcases hty with q | q
    · rw [q] at this; exact absurd this.2 (by decide)
    · rw [q] at this; exact absurd this.2 (by decide)
  have hfb : t.b ≠ fb := fun e => by
    have := h.fbx
    rw [← e, hh] at this
    simp at this
    rcases hty with q | q
    · rw [q] at this; exact absurd this.2 (by decide)
    · rw [q] at this; exact absurd this.2 (by decide)
  have hrw : some t.b ≠ vw.ownBlock := fun e => by
    rcases h.row.2 with ⟨e1, _⟩ | ⟨g, cap, cur, e1, _, hg, _⟩
    · rw [e1] at e; cases e
    · rw [e1] at e
      simp [Value.ownBlock] at e
      rw [← e, hh] at hg
      simp at hg
      rcases hty with q | q
      · rw [q] at hg; exact absurd hg.2 (by decide)
      · rw [q] at hg; exact absurd hg.2 (by decide)
  refine ⟨by omega, hlt, flS_no.2 ⟨hne, hwb, hrw, ?_⟩, hfb⟩
  cases hh2 : S t.b with
  | false => rfl
  | true => have := hS0 _ hh2; omega
theorem FJ.next {F : Nd → Nat → Nd} {S : Nat → Bool} {w W0 W : World} {fb ab wb wb' : Nat} {fv vw vw' : Value} {T N : List Ft} {t : Ft} {top : Fls} (h : FJ F S w W0 fb ab wb fv vw (T ++ [t]) top) (hS0 : ∀ k, S k = true → k < w.heap.size) (r : RR w W0 W (flS w.heap.size wb vw S) (t.tk F))
    (hwb : Boxed W wb' 72 vw') (hwl : W0.heap.size ≤ wb') (hrow : W.ownsRow w.heap.size 71 2 vw' (T ++ N).length (flT (T ++ N))) (hvw : vw'.ownBlock = vw.ownBlock ∨ ∃ s, vw'.ownBlock = some s ∧ W0.heap.size ≤ s)
    {g : Nat} (hg : W0.heap.size ≤ g) (hNb : ∀ s ∈ N, s.b = g ∧ (∃ i, s.p = i * 9 + 1) ∧ (∃ cs, W.heap[g]? = some (.cells cs 48 (0, 0))) ∧ NAt W.cell? s.b s.p zN zH) (hNa : Apt (tks F N))
    {k m u gg : Int} {o : Bool} {at_ : List Kv} {d : ByteArray} {ks : Kds} {hd : Hd} (hx : flatD F t.l = .mk k m u gg o at_ d ks) (hn : NAt W.cell? t.b t.p (.mk k m u gg o at_ d ks) hd) (ha : Kvm (offS W.cell? (blkT (flS w.heap.size wb' vw' S) (tks F (T ++ N)))) hd.aa at_) (hca : at_.length ≤ hd.ca ∧ hd.ca ≤ 9223372036854775807) (hck : ks.length ≤ hd.ck ∧ hd.ck ≤ 9223372036854775807)
    (hak : ks = [] ∨ (hd.ak = some ⟨g, 0, none⟩ ∧ ∃ cs, W.heap[g]? = some (.cells cs 48 (0, 0)))) (hc : ∀ (i : Nat) nm y, ks[i]? = some (nm, y) → W.cell? ⟨g, i * 9, none⟩ = some (.string nm) ∧ (⟨g, i * 9 + 1, y⟩ : Tk) ∈ tks F N)
    (hsee : ∀ s ∈ N, SeenOk s.l ∧ SpL (offS W.cell? (blkT (flS w.heap.size wb' vw' S) (tks F (T ++ N)))) (.slice s.a s.l.length s.c) s.l) :
    FJ F S w W fb ab wb' fv vw' (T ++ N) top := by
  have tb := fun s hs => h.tb (fun _ => trivial) hS0 (t := s) hs
  have htm : t ∈ T ++ [t] := List.mem_append.2 (.inr (List.mem_singleton.2 rfl))
  obtain ⟨t1, t2, t3, t4⟩ := tb t htm
  have hnb : w.heap.size < W0.heap.size := by omega
  -- blocks that can be seen
  have vis : ∀ q, q < W0.heap.size → flS w.heap.size wb vw S q = false → flS w.heap.size wb' vw' S q = false := fun q hq hf => by
    obtain ⟨h1, _, h3, h4⟩ := flS_no.1 hf
    refine flS_no.2 ⟨h1, by omega, fun e => ?_, h4⟩
    rcases hvw with q1 | ⟨s, q1, q2⟩
    · exact h3 (e.trans q1)
    · rw [q1] at e
      simp at e
      omega
  have hgS : (∃ cs, W.heap[g]? = some (.cells cs 48 (0, 0))) → flS w.heap.size wb' vw' S g = false := fun ⟨cs, hh⟩ => by
    refine flS_no.2 ⟨by omega, fun e => ?_, fun e => ?_, ?_⟩
    · unfold Boxed at hwb
      rw [← e, hh] at hwb
      simp at hwb
    · rcases hrow.2 with ⟨e1, _⟩ | ⟨g', cap, cur, e1, _, hg', _⟩
      · rw [e1] at e; cases e
      · rw [e1] at e
        simp [Value.ownBlock] at e
        rw [← e, hh] at hg'
        simp at hg'
    · cases hh2 : S g with
      | false => rfl
      | true => have := hS0 _ hh2; omega
  have cellT : ∀ s ∈ T, ∀ j, j < 8 → W.cell? ⟨s.b, s.p + j, none⟩ = W0.cell? ⟨s.b, s.p + j, none⟩ := fun s hs j hj => by
    obtain ⟨s1, s2, s3, s4⟩ := tb s (List.mem_append.2 (.inl hs))
    by_cases e : s.b = t.b
    · refine r.cel _ e ?_
      have ha2 := h.apt
      unfold tks at ha2
      rw [List.map_append] at ha2
      have h1 := (List.pairwise_append.1 ha2).2.2 (s.tk F) (List.mem_map_of_mem hs) (t.tk F) (by simp)
      simp only [Ft.tk] at h1
      have h3 : (decide (t.p ≤ s.p + j) && decide (s.p + j < t.p + 8)) = false := by
        rcases h1 with q | q | q
        · exact absurd e q
        · rw [decide_eq_false (show ¬ t.p ≤ s.p + j by omega)]; rfl
        · rw [decide_eq_false (show ¬ s.p + j < t.p + 8 by omega), Bool.and_false]
      show ((s.b == t.b) && (decide (t.p ≤ s.p + j) && decide (s.p + j < t.p + 8))) = false
      rw [h3, Bool.and_false]
    · exact World.cell?_of_block (w := W0) (r.blk s.b s2 s3 e)
  have ety : tks F (T ++ [t]) = tks F T ++ [t.tk F] := by unfold tks; rw [List.map_append]; rfl
  have etN : tks F (T ++ N) = tks F T ++ tks F N := by unfold tks; rw [List.map_append]
  have mS : MLe (offS W0.cell? (blkT (flS w.heap.size wb vw S) (tks F (T ++ [t])))) (offS W.cell? (blkT (flS w.heap.size wb' vw' S) (tks F (T ++ N)))) := fun q v hq => by
    have hs := offS_off hq
    obtain ⟨b1, b2⟩ := blkT_no.1 hs
    have hq2 := offS_offT _ _ _ _ _ hq
    have hc0 := (offT_off hq2).2.2
    have hlt := World.block_lt_of_cell? _ _ hc0
    rw [offS_ne]
    · rw [ety] at hq2
      exact r.mle q v hq2
    · refine blkT_no.2 ⟨vis _ hlt b1, fun s hs e => ?_⟩
      rw [etN] at hs
      rcases List.mem_append.1 hs with hs | hs
      · exact b2 s (by rw [ety]; exact List.mem_append.2 (.inl hs)) e
      · obtain ⟨s0, hs0, rfl⟩ := List.mem_map.1 hs
        have := (hNb s0 hs0).1
        simp only [Ft.tk] at e
        omega
  refine ⟨r.low, ?_, ?_, ?_, h.fbl, hwb, by omega, hrow, ?_, ?_, ?_, ?_⟩
  · have hr := h.res
    refine ⟨?_, fun j => (World.frozen?_of_block (w := W0) r.res).trans (hr.2 j)⟩
    obtain ⟨e0, e1, e2, e3, e4, e5, e6, e7⟩ := hr.1
    have ce : ∀ j, W.cell? ⟨w.heap.size, j, none⟩ = W0.cell? ⟨w.heap.size, j, none⟩ := fun j => World.cell?_of_block (w := W0) r.res
    exact ⟨(ce _).trans e0, (ce _).trans e1, (ce _).trans e2, (ce _).trans e3, (ce _).trans e4, (ce _).trans e5, (ce _).trans e6, (ce _).trans e7⟩
  · rw [r.res]; exact h.rty
  · have hfl := (Array.getElem?_eq_some_iff.1 h.fbx).1
    rw [r.blk fb hfl ?_ (fun e => t4 e.symm)]
    · exact h.fbx
    · refine flS_no.2 ⟨fun e => ?_, fun e => ?_, fun e => ?_, ?_⟩
      · obtain ⟨cs, hh⟩ := h.rty
        have := h.fbx
        rw [e, hh] at this
        simp at this
      · have h1 := h.wbx
        unfold Boxed at h1
        have := h.fbx
        rw [e, h1] at this
        simp at this
      · rcases h.row.2 with ⟨e1, _⟩ | ⟨g', cap, cur, e1, _, hg', _⟩
        · rw [e1] at e; cases e
        · rw [e1] at e
          simp [Value.ownBlock] at e
          have := h.fbx
          rw [e, hg'] at this
          simp at this
      · cases hh2 : S fb with
        | false => rfl
        | true => have := hS0 _ hh2; have := h.fbl; omega
  · intro s hs
    rcases List.mem_append.1 hs with hs | hs
    · have hp := h.plc s (List.mem_append.2 (.inl hs))
      obtain ⟨s1, s2, s3, s4⟩ := tb s (List.mem_append.2 (.inl hs))
      refine ⟨hp.lo, hp.ne, ?_, nat_other hp.cell (cellT s hs)⟩
      by_cases e : s.b = t.b
      · rw [e]; exact r.typ
      · rw [r.blk s.b s2 s3 e]; exact hp.typ
    · obtain ⟨e1, _, ⟨cs, hh⟩, h3⟩ := hNb s hs
      exact ⟨by omega, by omega, ⟨cs, _, by rw [e1]; exact hh, .inr rfl⟩, h3⟩
  · rw [etN]
    refine List.pairwise_append.2 ⟨?_, hNa, fun a ha b hb => ?_⟩
    · have ha2 := h.apt
      rw [ety] at ha2
      exact (List.pairwise_append.1 ha2).1
    · obtain ⟨s, hs, rfl⟩ := List.mem_map.1 ha
      obtain ⟨s', hs', rfl⟩ := List.mem_map.1 hb
      left
      have h1 := (tb s (List.mem_append.2 (.inl hs))).2.1
      have h2 := (hNb s' hs').1
      simp only [Ft.tk]
      omega
  · intro s hs
    rcases List.mem_append.1 hs with hs | hs
    · obtain ⟨h1, h2⟩ := h.see s (List.mem_append.2 (.inl hs))
      exact ⟨h1, h2.on mS⟩
    · exact hsee s hs
  · rw [etN] at ha ⊢
    have hp := h.prt
    rw [ety] at hp
    refine part_next (c := W0.cell?) (S := flS w.heap.size wb vw S) (t := t.tk F) (n0 := W0.heap.size) (g := g) (h := hd) hx ?_ (fun q v hq => World.block_lt_of_cell? _ _ hq) ?_ hg ?_ vis r.mle hn (ha.on (offS_offT _ _ _)) hca hck (hak.imp id fun q => ⟨q.1, hgS q.2⟩) hc ?_ hp
    · have ha2 := h.apt
      rw [ety] at ha2
      exact ha2
    · intro s hs
      rw [← ety] at hs
      obtain ⟨s0, hs0, rfl⟩ := List.mem_map.1 hs
      exact ⟨(tb s0 hs0).2.1, (tb s0 hs0).2.2.1⟩
    · intro s hs
      obtain ⟨s0, hs0, rfl⟩ := List.mem_map.1 hs
      exact (hNb s0 hs0).1
    · intro s hs
      obtain ⟨s0, hs0, rfl⟩ := List.mem_map.1 hs
      exact (hNb s0 hs0).2.1
end Go.Proofs.Ytgmeecfdkcbggaa
