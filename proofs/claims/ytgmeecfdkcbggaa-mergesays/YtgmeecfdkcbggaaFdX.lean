/-
  A TREE WITH PLACES THAT WAIT: the facts of no program.
  WHAT Flat HOLDS WHILE IT WORKS: no walk.
  WHAT IS LAID FLAT IS LITTLE AND NOT MORE THAN THERE WAS: the facts of no program.
  WHAT IS SEEN MAY BE GONE OVER, AT EACH PLACE; NAMES THAT ARE THE SAME: the facts of no program, and a walk.
  THE NAMES IN WHAT IS SEEN: List: the walk.
  ROWS OF FLOORS: no walk.
  WHAT kid DOES: the walk.
-/
import Derived.Test.YtgmeecfdkcbggaaNpX
import Derived.Test.YtgmeecfdkcbggaaMiX
import Derived.Test.YtgmeecfdkcbggaaFoX
import Derived.Test.YtgmeecfdkcbggaaFnY
import Derived.Test.YtgmeecfdkcbggaaMeX
import Derived.Deep.AppendSrc
import Derived.Deep.LoopGhost
import Derived.Test.YtgmeecfdkcbggaaFfX
import Derived.Test.YtgmeecfdkcbggaaMhX
import Derived.Test.YtgmeecfdkcbggaaNnX
import Derived.Test.YtgmeecfdkcbggaaWaY
import Derived.Test.YtgmeecfdkcbggaaApX
namespace Go.Proofs.Ytgmeecfdkcbggaa
open Go.RowKit
/-- A place that waits, and what will be there. -/
structure Tk where
  b : Nat
  p : Nat
  x : Nd
def Tk.has (t : Tk) (q : Addr) : Bool := q.block == t.b && (decide (t.p ≤ q.off) && decide (q.off < t.p + 8))
def inT (T : List Tk) (q : Addr) : Bool := T.any fun t => t.has q
/-- A memory but some blocks, and the places that wait. -/
def offT (c : Mem) (S : Nat → Bool) (T : List Tk) : Mem := fun q => if (S q.block || inT T q) = true then none else c q
theorem offT_ne {c : Mem} {S : Nat → Bool} {T : List Tk} {q : Addr} (h1 : S q.block = false) (h2 : inT T q = false) : offT c S T q = c q := by unfold offT; rw [h1, h2]; rfl
theorem offT_off {c : Mem} {S : Nat → Bool} {T : List Tk} {q : Addr} {v : Value} (h : offT c S T q = some v) : S q.block = false ∧ inT T q = false ∧ c q = some v := by
  unfold offT at h
  cases h1 : S q.block with
  | true => rw [h1] at h; cases h
  | false =>
    cases h2 : inT T q with
    | true => rw [h1, h2] at h; cases h
    | false => rw [h1, h2] at h; exact ⟨rfl, rfl, h⟩
theorem offT_le (c : Mem) (S : Nat → Bool) (T : List Tk) : MLe (offT c S T) c := fun _ _ h => (offT_off h).2.2
theorem offT_nil (c : Mem) (S : Nat → Bool) : MLe (offT c S []) (offS c S) := fun q v h => by
  obtain ⟨h1, _, h2⟩ := offT_off h
  rw [offS_ne h1]; exact h2
/-- The blocks with places that wait are hidden whole. -/
def blkT (S : Nat → Bool) (T : List Tk) : Nat → Bool := fun k => S k || T.any fun t => k == t.b
theorem blkT_no {S : Nat → Bool} {T : List Tk} {k : Nat} : blkT S T k = false ↔ S k = false ∧ ∀ t ∈ T, k ≠ t.b := by simp [blkT]
theorem inT_blk {T : List Tk} {q : Addr} (h : ∀ t ∈ T, q.block ≠ t.b) : inT T q = false := by
  unfold inT
  rw [List.any_eq_false]
  intro t ht
  simp [Tk.has, h t ht]
theorem offS_offT (c : Mem) (S : Nat → Bool) (T : List Tk) : MLe (offS c (blkT S T)) (offT c S T) := fun q v h => by
  have hs := offS_off h
  rw [offS_ne hs] at h
  obtain ⟨h1, h2⟩ := blkT_no.1 hs
  rw [offT_ne h1 (inT_blk h2)]; exact h
/-- A tree in memory, but for the places that wait. -/
inductive Part (c : Mem) (T : List Tk) : Nd → Nat → Nat → Prop
  | hole {x : Nd} {b p : Nat} (h : (⟨b, p, x⟩ : Tk) ∈ T) : Part c T x b p
  | node {k m u g : Int} {o : Bool} {at_ : List Kv} {d : ByteArray} {ks : Kds} {h : Hd} {b p : Nat} (kb ko : Nat) (hn : NAt c b p (.mk k m u g o at_ d ks) h) (ha : Kvm c h.aa at_) (hca : at_.length ≤ h.ca ∧ h.ca ≤ 9223372036854775807) (hck : ks.length ≤ h.ck ∧ h.ck ≤ 9223372036854775807)
      (hak : ks = [] ∨ h.ak = some ⟨kb, ko, none⟩) (hc : ∀ i n y, ks[i]? = some (n, y) → c ⟨kb, ko + i * 9, none⟩ = some (.string n)) (hr : ∀ i n y, ks[i]? = some (n, y) → Part c T y kb (ko + i * 9 + 1)) : Part c T (.mk k m u g o at_ d ks) b p
theorem Part.step {c c' : Mem} {T T' : List Tk} (hm : MLe c c') (hT : ∀ t ∈ T, t ∈ T' ∨ Part c' T' t.x t.b t.p) {x : Nd} {b p : Nat} (h : Part c T x b p) : Part c' T' x b p := by
  induction h with
  | hole h =>
    rcases hT _ h with e | e
    · exact .hole e
    · exact e
  | node kb ko hn ha hca hck hak hc _ ih => exact .node kb ko (hn.on hm) (ha.on hm) hca hck hak (fun i n y hi => hm _ _ (hc i n y hi)) ih
theorem Part.done {c : Mem} {x : Nd} {b p : Nat} (h : Part c [] x b p) : ∃ hd, NAt c b p x hd ∧ NdV c x hd := by
  induction h with
  | hole h => cases h
  | @node k m u g o at_ d ks h b p kb ko hn ha hca hck hak hc _ ih =>
    obtain ⟨F, hF⟩ : ∃ F : Nat → Hd, ∀ i n y, ks[i]? = some (n, y) → NAt c kb (ko + i * 9 + 1) y (F i) ∧ NdV c y (F i) := by
      refine ⟨fun i => if hi : i < ks.length then Classical.choose (ih i ks[i].1 ks[i].2 (List.getElem?_eq_getElem hi)) else h, fun i n y hi => ?_⟩
      obtain ⟨hlt, he⟩ := List.getElem?_eq_some_iff.1 hi
      simp only [hlt, dite_true]
      have := Classical.choose_spec (ih i ks[i].1 ks[i].2 (List.getElem?_eq_getElem hlt))
      simp only [he] at this ⊢
      exact this
    exact ⟨h, hn, .mk kb ko F ha hca hck hak (fun i n y hi => ⟨hc i n y hi, (hF i n y hi).1⟩) (fun i n y hi => (hF i n y hi).2)⟩
/-- Places that wait do not meet. -/
def Apt (T : List Tk) : Prop := T.Pairwise fun a b => a.b ≠ b.b ∨ a.p + 8 ≤ b.p ∨ b.p + 8 ≤ a.p
theorem apt_has {T : List Tk} {t : Tk} (h : Apt (T ++ [t])) (j : Nat) (hj : j < 8) : inT T ⟨t.b, t.p + j, none⟩ = false := by
  unfold inT
  rw [List.any_eq_false]
  intro s hs
  have h1 := (List.pairwise_append.1 h).2.2 s hs t (List.mem_singleton.2 rfl)
  simp [Tk.has]
  intro e h2
  rcases h1 with h1 | h1 | h1
  · exact absurd e.symm h1
  · omega
  · omega
theorem inT_app {A B : List Tk} {q : Addr} : inT (A ++ B) q = (inT A q || inT B q) := by unfold inT; rw [List.any_append]
theorem inT_one {t : Tk} {q : Addr} : inT [t] q = t.has q := by unfold inT; simp
/-- The last place is done: kids of it wait in a new row. -/
theorem part_next {c c' : Mem} {S S' : Nat → Bool} {T N : List Tk} {t : Tk} {n0 g : Nat} {k m u gg : Int} {o : Bool} {at_ : List Kv} {d : ByteArray} {ks : Kds} {h : Hd}
    (hT : t.x = .mk k m u gg o at_ d ks) (hA : Apt (T ++ [t])) (hlo : ∀ q v, c q = some v → q.block < n0) (hTb : ∀ s ∈ T ++ [t], s.b < n0 ∧ S s.b = false) (hg : n0 ≤ g) (hNb : ∀ s ∈ N, s.b = g)
    (hS : ∀ k, k < n0 → S k = false → S' k = false) (hk : MLe (offT c S (T ++ [t])) c')
    (hn : NAt c' t.b t.p (.mk k m u gg o at_ d ks) h) (ha : Kvm (offT c' S' (T ++ N)) h.aa at_) (hca : at_.length ≤ h.ca ∧ h.ca ≤ 9223372036854775807) (hck : ks.length ≤ h.ck ∧ h.ck ≤ 9223372036854775807) (hak : ks = [] ∨ (h.ak = some ⟨g, 0, none⟩ ∧ S' g = false))
    (hc : ∀ i nm y, ks[i]? = some (nm, y) → c' ⟨g, i * 9, none⟩ = some (.string nm) ∧ (⟨g, i * 9 + 1, y⟩ : Tk) ∈ N) (hN : ∀ s ∈ N, ∃ i, s.p = i * 9 + 1)
    {x : Nd} {b p : Nat} (hp : Part (offT c S (T ++ [t])) (T ++ [t]) x b p) : Part (offT c' S' (T ++ N)) (T ++ N) x b p := by
  have hm : MLe (offT c S (T ++ [t])) (offT c' S' (T ++ N)) := fun q v hq => by
    obtain ⟨h1, h2, h3⟩ := offT_off hq
    have hlt := hlo q v h3
    rw [inT_app] at h2
    have h4 : inT T q = false := (Bool.or_eq_false_iff.1 h2).1
    rw [offT_ne (hS _ hlt h1) (by rw [inT_app, h4, inT_blk fun s hs e => by rw [hNb s hs] at e; omega]; rfl)]
    exact hk q v hq
  refine hp.step hm fun s hs => ?_
  rcases List.mem_append.1 hs with e | e
  · exact .inl (List.mem_append.2 (.inl e))
  rw [List.mem_singleton] at e
  subst e
  right
  rw [hT]
  have hb := hTb s (List.mem_append.2 (.inr (List.mem_singleton.2 rfl)))
  have hvis : ∀ j, j < 8 → inT (T ++ N) ⟨s.b, s.p + j, none⟩ = false := fun j hj => by
    rw [inT_app, apt_has hA j hj, inT_blk fun t ht e => by rw [hNb t ht] at e; have e : s.b = g := e; omega]; rfl
  have hsee : ∀ j v, j < 8 → c' ⟨s.b, s.p + j, none⟩ = some v → offT c' S' (T ++ N) ⟨s.b, s.p + j, none⟩ = some v := fun j v hj hv => by
    rw [offT_ne (hS _ hb.1 hb.2) (hvis j hj)]; exact hv
  refine .node g 0 (h := h) ?_ ha hca hck (hak.imp id fun e => e.1) (fun i nm y hi => ?_) (fun i nm y hi => .hole ?_)
  · obtain ⟨e0, e1, e2, e3, e4, e5, e6, e7⟩ := hn
    exact ⟨hsee 0 _ (by omega) e0, hsee 1 _ (by omega) e1, hsee 2 _ (by omega) e2, hsee 3 _ (by omega) e3, hsee 4 _ (by omega) e4, hsee 5 _ (by omega) e5, hsee 6 _ (by omega) e6, hsee 7 _ (by omega) e7⟩
  · have hne : ks ≠ [] := fun e => by rw [e] at hi; simp at hi
    have hSg := (hak.resolve_left hne).2
    rw [Nat.zero_add]
    rw [offT_ne hSg]
    · exact (hc i nm y hi).1
    · rw [inT_app, inT_blk fun t ht e => by have h1 := (hTb t (List.mem_append.2 (.inl ht))).1; have e : g = t.b := e; omega]
      show inT N _ = false
      unfold inT
      rw [List.any_eq_false]
      intro t ht
      obtain ⟨i', e⟩ := hN t ht
      simp [Tk.has]
      intro _ h2
      omega
  · rw [Nat.zero_add]
    exact List.mem_append.2 (.inr (hc i nm y hi).2)
end Go.Proofs.Ytgmeecfdkcbggaa
namespace Go.Proofs.Ytgmeecfdkcbggaa
open Go.RowKit Go.Shelf
/-- A place that waits, with what is seen there. -/
structure Ft where
  b : Nat
  p : Nat
  a : Option Addr
  c : Nat
  l : Fls
def Ft.tk (F : Nd → Nat → Nd) (t : Ft) : Tk := ⟨t.b, t.p, flatD F t.l⟩
abbrev tks (F : Nd → Nat → Nd) (T : List Ft) : List Tk := T.map (Ft.tk F)
def flT : List Ft → List Value
  | [] => []
  | t :: r => .pointer (some ⟨t.b, t.p, none⟩) :: .slice t.a t.l.length t.c :: flT r
theorem flT_app : ∀ A B : List Ft, flT (A ++ B) = flT A ++ flT B
  | [], _ => rfl
  | e :: r, B => by simp [flT, flT_app r B]
theorem flT_len : ∀ A : List Ft, (flT A).length = A.length * 2
  | [] => rfl
  | e :: r => by simp [flT, flT_len r]; omega
theorem flT_last (T : List Ft) (t : Ft) : (flT (T ++ [t]))[T.length * 2]? = some (.pointer (some ⟨t.b, t.p, none⟩)) ∧ (flT (T ++ [t]))[T.length * 2 + 1]? = some (.slice t.a t.l.length t.c) := by
  rw [flT_app, List.getElem?_append_right (by rw [flT_len]; omega), List.getElem?_append_right (by rw [flT_len]; omega), flT_len, Nat.sub_self, Nat.add_sub_cancel_left]
  exact ⟨rfl, rfl⟩
/-- What is seen may be gone over. -/
structure SeenOk (l : Fls) : Prop where
  ne : l ≠ []
  ly : (l.map (·.2)).Nodup
  lil : ∀ q ∈ l, Lil q.1
  lim : ∀ q ∈ l, Lim q.1
  tot : tot l ≤ 1000
theorem dirP_pre : ∀ l : Fls, (dirP l).Sublist l
  | [] => List.Sublist.refl _
  | q :: r => by
    rw [dirP]
    split
    · exact List.nil_sublist _
    split
    · exact List.Sublist.cons_cons _ (List.nil_sublist _)
    · exact List.Sublist.cons_cons _ (dirP_pre r)
theorem shP_pre (l : Fls) : (shP l).Sublist l := by
  cases l with
  | nil => exact List.Sublist.refl _
  | cons q r =>
    rw [shP]
    split
    · exact List.Sublist.cons_cons _ (List.nil_sublist _)
    · exact dirP_pre _
theorem kidsP_ly (nm : ByteArray) : ∀ l : Fls, ((kidsP nm l).map (·.2)).Sublist (l.map (·.2))
  | [] => List.Sublist.refl _
  | q :: r => by
    have ih := kidsP_ly nm r
    unfold kidsP at ih ⊢
    rw [List.filterMap_cons]
    cases kidO nm q.1 with
    | none => exact List.Sublist.cons _ ih
    | some y => exact List.Sublist.cons_cons _ ih
theorem lil_kid {x y : Nd} {nm : ByteArray} (h : Lil x) (hy : kidO nm x = some y) : Lil y := by
  rw [kidO_eq] at hy
  obtain ⟨i, hi⟩ := List.getElem?_of_mem (dirKs_sub (fstK_mem hy))
  obtain ⟨k, m, u, g, o, at_, d, ks⟩ := x
  rw [Lil] at h
  exact (lilL_get h.2.2 hi).2
theorem lim_kid {x y : Nd} {nm : ByteArray} (h : Lim x) (hy : kidO nm x = some y) : Lim y := by
  rw [kidO_eq] at hy
  obtain ⟨i, hi⟩ := List.getElem?_of_mem (dirKs_sub (fstK_mem hy))
  obtain ⟨k, m, u, g, o, at_, d, ks⟩ := x
  rw [Lim] at h
  exact limL_get h.2.2 hi
theorem nxt_mem {l : Fls} {nm : ByteArray} {q : Nd × Nat} (h : q ∈ nxt l nm) : ∃ p ∈ l, kidO nm p.1 = some q.1 := by
  obtain ⟨p, hp, e⟩ := List.mem_filterMap.1 (shP_sub _ _ h)
  obtain ⟨y, hy, rfl⟩ := Option.map_eq_some_iff.1 e
  exact ⟨p, hp, hy⟩
theorem SeenOk.next {l : Fls} (h : SeenOk l) {nm : ByteArray} (hn : nxt l nm ≠ []) : SeenOk (nxt l nm) := by
  refine ⟨hn, ?_, fun q hq => ?_, fun q hq => ?_, ?_⟩
  · exact (h.ly.sublist (kidsP_ly nm l)).sublist ((shP_pre _).map _)
  · obtain ⟨p, hp, e⟩ := nxt_mem hq
    exact lil_kid (h.lil p hp) e
  · obtain ⟨p, hp, e⟩ := nxt_mem hq
    exact lim_kid (h.lim p hp) e
  · have := tot_nxt1 l nm; have := h.tot; omega
theorem ly_of {D : List Sp} {l : Fls} (h : D.map Sp.pr = l) (hl : (l.map (·.2)).Nodup) : ∀ (i j : Nat) a b, D[i]? = some a → D[j]? = some b → i ≠ j → a.ly ≠ b.ly := by
  subst h
  intro i j a b hi hj hij e
  have h2 : (D.map (·.ly)).Nodup := by rw [List.map_map] at hl; exact hl
  have h3 := List.pairwise_iff_getElem.1 h2
  obtain ⟨hi1, hi2⟩ := List.getElem?_eq_some_iff.1 hi
  obtain ⟨hj1, hj2⟩ := List.getElem?_eq_some_iff.1 hj
  rcases Nat.lt_or_gt_of_ne hij with q | q
  · exact h3 i j (by simpa using hi1) (by simpa using hj1) q (by simp [hi2, hj2, e])
  · exact h3 j i (by simpa using hj1) (by simpa using hi1) q (by simp [hi2, hj2, e])
/-- What is hidden: the result's box, the work's box and row. -/
def flS (nb wb : Nat) (vw : Value) (S : Nat → Bool) : Nat → Bool := fun k => ((k == nb || k == wb) || some k == vw.ownBlock) || S k
theorem flS_no {nb wb k : Nat} {vw : Value} {S : Nat → Bool} : flS nb wb vw S k = false ↔ k ≠ nb ∧ k ≠ wb ∧ some k ≠ vw.ownBlock ∧ S k = false := by simp [flS, and_assoc]
/-- The place itself. -/
structure PlcOk (w W : World) (nb : Nat) (t : Ft) : Prop where
  lo : w.heap.size ≤ t.b
  ne : t.b ≠ nb
  typ : ∃ cs ty, W.heap[t.b]? = some (.cells cs ty (0, 0)) ∧ (ty = 31 ∨ ty = 48)
  cell : NAt W.cell? t.b t.p zN zH
/-- What stands between two rounds. -/
structure FJ (F : Nd → Nat → Nd) (S : Nat → Bool) (w W : World) (fb ab wb : Nat) (fv vw : Value) (T : List Ft) (top : Fls) : Prop where
  low : Below w.heap.size w W
  res : NBw W w.heap.size zN zH
  rty : ∃ cs, W.heap[w.heap.size]? = some (.cells cs 31 (0, 0))
  fbx : W.heap[fb]? = some (.cells #[fv] 44 (0, 0))
  fbl : w.heap.size ≤ fb
  wbx : Boxed W wb 72 vw
  wbl : w.heap.size ≤ wb
  row : W.ownsRow w.heap.size 71 2 vw T.length (flT T)
  plc : ∀ t ∈ T, PlcOk w W w.heap.size t
  apt : Apt (tks F T)
  see : ∀ t ∈ T, SeenOk t.l ∧ SpL (offS W.cell? (blkT (flS w.heap.size wb vw S) (tks F T))) (.slice t.a t.l.length t.c) t.l
  prt : Part (offT W.cell? (flS w.heap.size wb vw S) (tks F T)) (tks F T) (flatD F top) ab 0
/-- What a round keeps of what it began with. -/
structure RR (w W0 W : World) (H : Nat → Bool) (t : Tk) : Prop where
  low : Below w.heap.size w W
  siz : W0.heap.size ≤ W.heap.size
  res : W.heap[w.heap.size]? = W0.heap[w.heap.size]?
  blk : ∀ k, k < W0.heap.size → H k = false → k ≠ t.b → W.heap[k]? = W0.heap[k]?
  cel : ∀ q : Addr, q.block = t.b → t.has q = false → W.cell? q = W0.cell? q
  typ : ∃ cs ty, W.heap[t.b]? = some (.cells cs ty (0, 0)) ∧ (ty = 31 ∨ ty = 48)
theorem fro_cells {W : World} {b : Nat} {cs : Array Value} {ty : TypeId} (h : W.heap[b]? = some (.cells cs ty (0, 0))) (j : Nat) : W.frozen? ⟨b, j, none⟩ = false := by simp [World.frozen?, h]
theorem RR.start {w W0 : World} {H : Nat → Bool} {t : Tk} (hl : Below w.heap.size w W0) (ht : ∃ cs ty, W0.heap[t.b]? = some (.cells cs ty (0, 0)) ∧ (ty = 31 ∨ ty = 48)) : RR w W0 W0 H t :=
  ⟨hl, Nat.le_refl _, rfl, fun _ _ _ _ => rfl, fun _ _ _ => rfl, ht⟩
theorem RR.mv {w W0 W W' : World} {H : Nat → Bool} {t : Tk} (h : RR w W0 W H t) (htb : t.b < W0.heap.size ∧ H t.b = false) (hnb : w.heap.size < W0.heap.size) (hs : W.heap.size ≤ W'.heap.size) (hl : Below w.heap.size W W') (hb : ∀ k, k < W0.heap.size → (H k = false ∨ k = w.heap.size) → W'.heap[k]? = W.heap[k]?) : RR w W0 W' H t := by
  have hbt := hb t.b htb.1 (.inl htb.2)
  refine ⟨h.low.trans hl, Nat.le_trans h.siz hs, (hb _ hnb (.inr rfl)).trans h.res, fun k hk hH hne => (hb k hk (.inl hH)).trans (h.blk k hk hH hne), fun q hq hh => ?_, ?_⟩
  · exact (World.cell?_of_block (w := W) (by rw [hq]; exact hbt)).trans (h.cel q hq hh)
  · rw [hbt]; exact h.typ
theorem RR.below {w W0 W W' : World} {H : Nat → Bool} {t : Tk} (h : RR w W0 W H t) (htb : t.b < W0.heap.size ∧ H t.b = false) (hnb : w.heap.size < W0.heap.size) (hb : Below W.heap.size W W') : RR w W0 W' H t :=
  h.mv htb hnb hb.size (hb.mono h.low.size) fun k hk _ => hb.block k (Nat.lt_of_lt_of_le hk h.siz)
theorem RR.set {w W0 W : World} {H : Nat → Bool} {t : Tk} (h : RR w W0 W H t) (htb : t.b < W0.heap.size ∧ H t.b = false) (hnb : w.heap.size < W0.heap.size) {p : Addr} (hp : w.heap.size < p.block) (hp2 : W0.heap.size ≤ p.block ∨ H p.block = true) (v : Value) : RR w W0 (W.setCell p v) H t := by
  refine h.mv htb hnb (by rw [World.size_setCell]; exact Nat.le_refl _) ((Below.refl _ W).setCell (p := p) (by omega) v) fun k hk hH => Below.heap_setCell _ _ _ _ fun e => ?_
  subst e
  rcases hp2 with q | q
  · omega
  · rcases hH with r | r
    · rw [q] at r; cases r
    · omega
theorem typ_set {W : World} {b j : Nat} {v : Value} (h : ∃ cs ty, W.heap[b]? = some (.cells cs ty (0, 0)) ∧ (ty = 31 ∨ ty = 48)) : ∃ cs ty, (W.setCell ⟨b, j, none⟩ v).heap[b]? = some (.cells cs ty (0, 0)) ∧ (ty = 31 ∨ ty = 48) := by
  obtain ⟨cs, ty, hh, ht⟩ := h
  refine ⟨cs.setIfInBounds j v, ty, ?_, ht⟩
  obtain ⟨hlt, hk⟩ := Array.getElem?_eq_some_iff.1 hh
  show (W.heap.modify b _)[b]? = _
  rw [Array.getElem?_eq_getElem (by rw [Array.size_modify]; exact hlt), Array.getElem_modify_self, hk]
  rfl
theorem RR.own {w W0 W : World} {H : Nat → Bool} {t : Tk} (h : RR w W0 W H t) (htl : w.heap.size < t.b) (j : Nat) (hj : j < 8) (v : Value) : RR w W0 (W.setCell ⟨t.b, t.p + j, none⟩ v) H t := by
  refine ⟨h.low.setCell (p := ⟨t.b, t.p + j, none⟩) (Nat.le_of_lt htl) v, by rw [World.size_setCell]; exact h.siz, ?_, fun k hk hH hne => ?_, fun q hq hh => ?_, typ_set h.typ⟩
  · rw [Below.heap_setCell _ _ _ _ (by show w.heap.size ≠ t.b; omega)]; exact h.res
  · rw [Below.heap_setCell _ _ _ _ (by exact hne)]; exact h.blk k hk hH hne
  · rw [World.cell?_setCell_other _ _ _ _ (fun e => ?_)]
    · exact h.cel q hq hh
    · subst e
      simp [Tk.has] at hh
      omega
theorem RR.st8 {w W0 W : World} {H : Nat → Bool} {t : Tk} (h : RR w W0 W H t) (htl : w.heap.size < t.b) (x : Nd) (hd : Hd) : RR w W0 (Go.Proofs.Ytgmeecfdkcbggaa.st8 W t.b t.p x hd) H t := by
  obtain ⟨k, m, u, g, o, at_, d, ks⟩ := x
  exact ((((((((h.own htl 0 (by omega) _).own htl 1 (by omega) _).own htl 2 (by omega) _).own htl 3 (by omega) _).own htl 4 (by omega) _).own htl 5 (by omega) _).own htl 6 (by omega) _).own htl 7 (by omega) _)
/-- What could be seen can be seen still. -/
theorem RR.mle {w W0 W : World} {H : Nat → Bool} {t : Tk} {T : List Tk} (h : RR w W0 W H t) : MLe (offT W0.cell? H (T ++ [t])) W.cell? := fun q v hq => by
  obtain ⟨h1, h2, h3⟩ := offT_off hq
  have hlt := World.block_lt_of_cell? _ _ h3
  by_cases e : q.block = t.b
  · rw [inT_app, inT_one] at h2
    exact (h.cel q e (Bool.or_eq_false_iff.1 h2).2).trans h3
  · exact (World.cell?_of_block (w := W0) (h.blk _ hlt h1 e)).trans h3
end Go.Proofs.Ytgmeecfdkcbggaa
namespace Go.Proofs.Ytgmeecfdkcbggaa
open Go.RowKit
theorem lilL_of : ∀ {ks : Kds}, (∀ p ∈ ks, p.1.size ≤ 255 ∧ Lil p.2) → LilL ks
  | [], _ => by rw [LilL]; trivial
  | (n, x) :: l, h => by
    rw [LilL]
    have h1 := h (n, x) (List.mem_cons_self ..)
    exact ⟨h1.1, h1.2, lilL_of fun p hp => h p (List.mem_cons_of_mem _ hp)⟩
theorem cntL_map (g : ByteArray → Nd) : ∀ N : List ByteArray, cntL (N.map fun nm => (nm, g nm)) = (N.map fun nm => cnt (g nm)).sum
  | [] => rfl
  | n :: N => by
    rw [List.map_cons, List.map_cons, List.sum_cons, cntL, cntL_map g N]
theorem sum_leM {g h : ByteArray → Nat} : ∀ {N : List ByteArray}, (∀ n ∈ N, g n ≤ h n) → (N.map g).sum ≤ (N.map h).sum
  | [], _ => Nat.le_refl _
  | n :: N, hg => by
    have h1 := sum_leM fun m hm => hg m (List.mem_cons_of_mem _ hm)
    have h2 := hg n (List.mem_cons_self ..)
    simp only [List.map_cons, List.sum_cons]
    omega
theorem cnt_withF (x : Nd) (ks : Kds) : cnt (x.with ks) = cntL ks + 1 := by
  obtain ⟨k, m, u, g, o, at_, d, k0⟩ := x
  rw [Nd.with, cnt]
theorem flat0_cnt : ∀ (N : Nat) (l : Fls), tot l ≤ N → l ≠ [] → cnt (flat0 l) ≤ tot l
  | N, [], _, h => absurd rfl h
  | 0, q :: r, h, _ => by have := cnt_posF q.1; simp [tot] at h; omega
  | N + 1, q :: r, h, _ => by
    rw [flat0_cons, cnt_withF, cntL_map]
    have h1 := tot_nxt (q :: r) (listP (q :: r)) (rise_nodup (listP_rise _))
    rw [List.length_cons] at h1
    have h2 : ((listP (q :: r)).map fun nm => cnt (flat0 (nxt (q :: r) nm))).sum ≤ ((listP (q :: r)).map fun nm => tot (nxt (q :: r) nm)).sum := sum_leM fun nm hm => by
      have h3 := tot_nxt1 (q :: r) nm
      rw [List.length_cons] at h3
      exact flat0_cnt N _ (by omega) (mem_listP.1 hm)
    omega
theorem lil_nak {x : Nd} (h : Lil x) {ks : Kds} (hk : LilL ks) : Lil ((nakN x).with ks) := by
  obtain ⟨k, m, u, g, o, at_, d, k0⟩ := x
  rw [Lil] at h
  rw [nakN, Nd.with, Lil]
  exact ⟨h.1, h.2.1, hk⟩
theorem lil_name {x y : Nd} {nm : ByteArray} (h : Lil x) (hy : kidO nm x = some y) : nm.size ≤ 255 := by
  rw [kidO_eq] at hy
  obtain ⟨i, hi⟩ := List.getElem?_of_mem (dirKs_sub (fstK_mem hy))
  obtain ⟨k, m, u, g, o, at_, d, ks⟩ := x
  rw [Lil] at h
  exact (lilL_get h.2.2 hi).1
theorem flat0_lil : ∀ (N : Nat) (l : Fls), tot l ≤ N → l ≠ [] → (∀ q ∈ l, Lil q.1) → Lil (flat0 l)
  | N, [], _, h, _ => absurd rfl h
  | 0, q :: r, h, _, _ => by have := cnt_posF q.1; simp [tot] at h; omega
  | N + 1, q :: r, h, _, hl => by
    rw [flat0_cons]
    refine lil_nak (hl q (List.mem_cons_self ..)) (lilL_of fun p hp => ?_)
    obtain ⟨nm, hm, rfl⟩ := List.mem_map.1 hp
    have hne := mem_listP.1 hm
    have h3 := tot_nxt1 (q :: r) nm
    rw [List.length_cons] at h3
    refine ⟨?_, flat0_lil N _ (by omega) hne fun q2 hq => ?_⟩
    · cases e : nxt (q :: r) nm with
      | nil => exact absurd e hne
      | cons q2 r2 =>
        obtain ⟨p, hp, e2⟩ := nxt_mem (show q2 ∈ nxt (q :: r) nm by rw [e]; exact List.mem_cons_self ..)
        exact lil_name (hl p hp) e2
    · obtain ⟨p, hp, e2⟩ := nxt_mem hq
      exact lil_kid (hl p hp) e2
/-- Layers that may be gone over. -/
structure LaysOk (xs : List Nd) : Prop where
  lil : ∀ x ∈ xs, Lil x
  tot : tot (layP xs) ≤ 1000
theorem layP_mem {xs : List Nd} {q : Nd × Nat} (h : q ∈ layP xs) : q.1 ∈ xs := by
  unfold layP at h
  obtain ⟨x, i⟩ := q
  exact (List.mem_zipIdx' h).2 ▸ List.getElem_mem _
theorem cnt_tot : ∀ {l : Fls} {q : Nd × Nat}, q ∈ l → cnt q.1 ≤ tot l
  | p :: l, q, h => by
    rw [tot]
    rcases List.mem_cons.1 h with e | e
    · rw [e]; omega
    · have := cnt_tot e; omega
theorem layP_len (xs : List Nd) : (layP xs).length = xs.length := by unfold layP; rw [List.length_zipIdx]
theorem LaysOk.len {xs : List Nd} (h : LaysOk xs) : xs.length ≤ 1000 := by
  have h1 := len_tot (layP xs)
  rw [layP_len] at h1
  have := h.tot
  omega
theorem LaysOk.small {xs : List Nd} (h : LaysOk xs) : SmallP (layP xs) := ⟨by rw [layP_len]; exact h.len, fun q hq => by have := cnt_tot hq; have := h.tot; omega⟩
theorem LaysOk.lim {xs : List Nd} (h : LaysOk xs) : LimP (layP xs) := fun q hq => lim_of q.1 (h.small.2 q hq) (h.lil _ (layP_mem hq))
theorem LaysOk.seen {xs : List Nd} (h : LaysOk xs) (hne : shP (layP xs) ≠ []) : SeenOk (shP (layP xs)) := by
  refine ⟨hne, ?_, fun q hq => h.lil _ (layP_mem (shP_sub _ _ hq)), fun q hq => h.lim q (shP_sub _ _ hq), ?_⟩
  · refine List.Nodup.sublist ((shP_pre _).map _) ?_
    unfold layP
    rw [List.zipIdx_map_snd]
    exact List.nodup_range'
  · have := tot_shP (layP xs); have := h.tot; omega
theorem tot_one (x : Nd) : tot (layP [x]) = cnt x := by
  show cnt x + 0 = cnt x
  rfl
theorem LaysOk.flat {xs : List Nd} (h : LaysOk xs) (hne : shP (layP xs) ≠ []) : LaysOk [flat0 (shP (layP xs))] := by
  have h1 := tot_shP (layP xs)
  have h2 := h.tot
  refine ⟨fun x hx => ?_, ?_⟩
  · rw [List.mem_singleton] at hx
    rw [hx]
    exact flat0_lil _ _ (Nat.le_refl _) hne fun q hq => h.lil _ (layP_mem (shP_sub _ _ hq))
  · rw [tot_one]
    have := flat0_cnt _ _ (Nat.le_refl _) hne
    omega
end Go.Proofs.Ytgmeecfdkcbggaa
namespace Go.Proofs.Ytgmeecfdkcbggaa
open Go.RowKit
theorem stackP_okF (names : List ByteArray) : ∀ {l : Fls}, (l ≠ [] → SeenOk l) → names.foldl (fun l nm => shP (kidsP nm l)) l ≠ [] → SeenOk (names.foldl (fun l nm => shP (kidsP nm l)) l) := by
  induction names with
  | nil => intro l h hn; exact h hn
  | cons nm names ih =>
    intro l h hn
    rw [List.foldl_cons] at hn ⊢
    refine ih (fun h2 => ?_) hn
    refine (h fun e => h2 ?_).next (nm := nm) h2
    rw [e]
    rfl
theorem LaysOk.stack {xs : List Nd} (h : LaysOk xs) (names : List ByteArray) : stackP xs names ≠ [] → SeenOk (stackP xs names) := stackP_okF names h.seen
theorem stackP_snoc (xs : List Nd) (names : List ByteArray) (nm : ByteArray) : stackP xs (names ++ [nm]) = nxt (stackP xs names) nm := by
  unfold stackP
  rw [List.foldl_append]
  rfl
end Go.Proofs.Ytgmeecfdkcbggaa
namespace Go.Proofs.Ytgmeecfdkcbggaa
open Go.RowKit Go.Shelf
theorem Try.infoStr : (Try.prog.info? 9).map (fun i => (i.zero, i.size, i.bytes)) = some (some (.string ⟨#[]⟩), 1, 16) := by kernel_rfl
/-- Names as a row. -/
def strL (l : List ByteArray) : List Value := l.map .string
theorem strL_one (l : List ByteArray) : ∀ u ∈ strL l, u.oneCell' = true := fun u hu => by
  obtain ⟨s, _, rfl⟩ := List.mem_map.1 hu
  rfl
theorem strL_len (l : List ByteArray) : (strL l).length = l.length := List.length_map _
theorem strs_ownS {w : World} {base : Nat} {S : Nat → Bool} (hS : ∀ k, S k = true → k < base) {v : Value} {l : List ByteArray} (h : w.ownsRow base 9 1 v l.length (strL l)) : ∃ a cap, v = .slice a l.length cap ∧ l.length ≤ cap ∧ cap ≤ 9223372036854775807 ∧ Strs (offS w.cell? S) a l := by
  obtain ⟨a, cap, hv, h1, h2, hf⟩ := owns_cells h
  refine ⟨a, cap, hv, h1, h2, ?_⟩
  rcases hf with ⟨_, h0, _⟩ | ⟨g, ha, hb, _, hc, _⟩
  · exact .inl (List.eq_nil_of_length_eq_zero h0)
  · refine .inr ⟨g, 0, ha, fun i s hi => ?_⟩
    rw [offS_ne, Nat.zero_add]
    · refine hc i _ ?_
      unfold strL
      rw [List.getElem?_map, hi]
      rfl
    · show S g = false
      cases hh : S g with
      | false => rfl
      | true => have := hS g hh; omega
set_option maxRecDepth 100000 in
set_option maxHeartbeats 2000000 in
theorem mlist_any {w : World} {S : Nat → Bool} (hS0 : ∀ k, S k = true → k < w.heap.size) {a : Option Addr} {cap : Nat} {xs : List Nd} {an : Option Addr} {capn : Nat} {names : List ByteArray} (hx : NsV (offS w.cell? S) a xs) (hs : Strs (offS w.cell? S) an names) (hok : LaysOk xs) (hln : names.length ≤ 1000) :
    Calls Try.prog 15 #[.slice a xs.length cap, .slice an names.length capn] w fun e w' => (∃ a' cap', e = .returned (.slice a' (listP (stackP xs names)).length cap') ∧ (listP (stackP xs names)).length ≤ cap' ∧ cap' ≤ 9223372036854775807 ∧ Strs (offS w'.cell? S) a' (listP (stackP xs names))) ∧ Below w.heap.size w w' := by
  have HW : Hid _ := walk_any (cap := cap) (capn := capn) hS0 hx hs hok.len hln hok.small
  have HST : Hid _ := hok.stack names
  have HS0 : Hid _ := hS0
  clear hx hs hok hS0
  generalize stackP xs names = top at HW HST ⊢
  obtain ⟨i0, hi0, hi1, hi2, hi3⟩ := info_three Try.infoStr
  have HI0 : Hid _ := hi0
  have HI1 : Hid _ := hi1
  have HI2 : Hid _ := hi2
  have HI3 : Hid _ := hi3
  clear hi0 hi1 hi2 hi3
  go_enter Try.func15, Try.ntmps15
  go_wp2_with fail
  refine Calls.mono HW.out ?_
  rintro e w1 ⟨v, rfl, hv, hB1⟩
  obtain ⟨va, vc, D, rfl, g1, g2, g3, g4, g5⟩ := hv
  have HP : Hid (Calls Try.prog 28 #[.slice va D.length vc] w1 fun e w' => ∃ v, e = .returned v ∧ PlL (offS w'.cell? S) v ((listP top).map fun nm => (nm, nxt top nm)) ∧ Below w1.heap.size w1 w') := by
    have e := places_any (w := w1) (S := S) (vc := vc) (D := D) (fun k hk => Nat.lt_of_lt_of_le (HS0.out k hk) hB1.size) g3 g4 (by
      cases D with
      | nil => intro i j a b hi; simp at hi
      | cons s D => exact ly_of g5 (HST.out (by rw [← g5]; simp)).ly) (fun s hs => (HST.out (by rw [← g5]; intro e; rw [List.map_eq_nil_iff] at e; rw [e] at hs; cases hs)).lil s.pr (by rw [← g5]; exact List.mem_map_of_mem hs)) (by
      rw [g5]
      by_cases ht : top = []
      · rw [ht]; exact Nat.zero_le _
      · exact (HST.out ht).tot)
    rw [g5] at e
    exact e
  have HTL : Hid ((listP top).length ≤ 1000) := by
    show _ ≤ _
    have h1 := listP_len top
    by_cases ht : top = []
    · rw [ht]; exact Nat.zero_le _
    · have := (HST.out ht).tot; omega
  clear HW g1 g2 g3 g4 g5
  go_wp2_with fail
  refine Calls.mono HP.out ?_
  rintro e w2 ⟨v5, rfl, hv5, hB2⟩
  obtain ⟨pa, pc, G, rfl, pl1, pl2, pl3, pl4, pl5⟩ := hv5
  have HNM : Hid (G.map (·.n) = listP top) := by
    show _ = _
    have h1 := congrArg (List.map Prod.fst) pl5
    rw [List.map_map, List.map_map] at h1
    have e2 : (listP top).map (Prod.fst ∘ fun nm => (nm, nxt top nm)) = listP top := by
      have : (Prod.fst ∘ fun nm : ByteArray => (nm, nxt top nm)) = id := rfl
      rw [this, List.map_id]
    rw [e2] at h1
    rw [← h1]
    unfold pls
    rw [List.map_map]
    rfl
  have hlp : G.length = (listP top).length := by rw [← HNM.out, List.length_map]
  have HPL3 : Hid _ := pl3
  have hB02 := hB1.trans (hB2.mono hB1.size)
  obtain ⟨NG, HNG⟩ : ∃ NG, Hid (G.length = NG) := ⟨_, rfl⟩
  have hNG : NG ≤ 1000 := by have := HTL.out; rw [← hlp, HNG.out] at this; exact this
  rw [HNG.out] at pl1 ⊢
  clear HP pl3 pl4 pl5 hB1 hB2 hlp
  go_wp2
  go_loopw [5, 13] (fun v i wr => ∃ j : Nat, j ≤ NG ∧ i = .int .i64 j ∧ Hid (wr.ownsRow w2.heap.size 9 1 v j (strL ((G.map (·.n)).take j))) ∧ Hid (Below w2.heap.size w2 wr)) (fun _ i _ => NG - (intOf i).toNat)
  case atStart => exact ⟨0, Nat.zero_le _, rfl, World.ownsRow_nil _ _ _ _, Below.refl _ _⟩
  case round =>
    obtain ⟨j, hj, rfl, HR, HB⟩ := hrel
    by_cases hjl : j < NG
    · have hb2 : decide ((j : Int) < (NG : Int)) = true := decide_eq_true (by omega)
      have hji2 : (j : Int) < (NG : Int) := by omega
      obtain ⟨e, he⟩ : ∃ e, G[j]? = some e := ⟨_, List.getElem?_eq_getElem (by rw [HNG.out]; exact hjl)⟩
      obtain ⟨pb, hpa, hprow⟩ : ∃ b, pa = some ⟨b, 0, none⟩ ∧ ∀ (i : Nat) e, G[i]? = some e → offS w2.cell? S ⟨b, i * 2, none⟩ = some (.string e.n) ∧ offS w2.cell? S ⟨b, i * 2 + 1, none⟩ = some (.slice e.a e.L.length e.c) := by
        rcases HPL3.out with q | q
        · rw [q] at he; simp at he
        · exact q
      subst hpa
      obtain ⟨x0, x1⟩ := hprow j e he
      have x0 := mle_below HB.out _ _ (offS_le _ _ _ _ x0)
      have x1 := mle_below HB.out _ _ (offS_le _ _ _ _ x1)
      have HTK : Hid (strL ((G.map (·.n)).take (j + 1)) = strL ((G.map (·.n)).take j) ++ strL [e.n]) := by
        show _ = _
        rw [List.take_add_one, List.getElem?_map, he]
        unfold strL
        rw [List.map_append]
        rfl
      obtain ⟨s0, s1⟩ := two_new wr (.string e.n) (.slice e.a e.L.length e.c) 67
      have hal := (Below.refl _ wr).alloc (Nat.le_refl _) (.cells #[.string e.n, .slice e.a e.L.length e.c] 67)
      have HR2 : Hid _ := ownsRow_bel HR.out hal
      have HB2 : Hid _ := HB.out.trans (hal.mono HB.out.size)
      clear he hprow HR HB hal
      go_upto_region 5 with fail
      generalize wr.alloc (.cells #[.string e.n, .slice e.a e.L.length e.c] 67) = w3 at s0 s1 HR2 HB2 ⊢
      generalize wr.heap.size = b7 at s0 s1 ⊢
      clear x0 x1
      go_wp2_with (at_builtin; refine wpList_append_src (w3.alloc (.cells #[.string e.n] 9)) rfl (.tmp 17) (.tmp 20) 23 rfl w2.heap.size 9 i0 (.string ⟨#[]⟩) 1 16 Try.underlying23 HI0.out HI1.out HI2.out HI3.out rfl (by decide) u5 j (strL ((G.map (·.n)).take j)) rfl (World.ownsRow.alloc HR2.out _) (some ⟨w3.heap.size, 0, none⟩) 1 1 (strL [e.n]) rfl rfl (.inr ⟨_, rfl, fun q t hq => by rw [addr_add, Nat.zero_add]; refine (World.cell?_alloc_at _ _ _ _ rfl).trans ?_; simpa [strL] using hq⟩) (strL_one _) (by unfold maxLen; omega) (by omega) (by have := (Below.size HB2.out); rw [World.size_alloc]; omega) ?_)
      intro v7 w7 hown7 hgr7 ho7
      have HR7 : Hid (w7.ownsRow w2.heap.size 9 1 v7 (j + 1) (strL ((G.map (·.n)).take (j + 1)))) := by
        show World.ownsRow ..
        rw [HTK.out]
        exact hown7
      have HB7 : Hid (Below w2.heap.size w2 w7) := (Below.trans HB2.out (((Below.refl _ w3).alloc (Below.size HB2.out) _))).grown hgr7 (by have := (Below.size HB2.out); rw [World.size_alloc]; omega) (fun g e => ((World.ownsRow.lt HR2.out) g e).1)
      clear hown7 hgr7 ho7 HR2 HB2 s0 s1
      go_wp2
      go_roundw
      case rel => exact ⟨j + 1, by omega, by go_num, HR7.out, HB7.out⟩
      case measure => (simp [intOf]; try omega)
    · obtain rfl : j = NG := by omega
      have hb2 : decide ((j : Int) < (j : Int)) = false := decide_eq_false (by omega)
      go_wp2
      go_ret
      have h1 := HR.out
      rw [List.take_of_length_le (by rw [List.length_map, HNG.out]; omega), HNM.out] at h1
      have hlj : (listP top).length = j := by rw [← HNM.out, List.length_map, HNG.out]
      rw [← hlj] at h1
      obtain ⟨a', c', e1, e2, e3, e4⟩ := strs_ownS (S := S) (fun k hk => Nat.lt_of_lt_of_le (HS0.out k hk) hB02.size) h1
      exact ⟨⟨a', c', by rw [e1]; rfl, e2, e3, e4⟩, hB02.trans (HB.out.mono hB02.size)⟩
end Go.Proofs.Ytgmeecfdkcbggaa
namespace Go.Proofs.Ytgmeecfdkcbggaa
open Go.RowKit
def flF : List Fl → List Value
  | [] => []
  | f :: r => ndL f.x f.h ++ (.int .i64 f.ly :: flF r)
theorem flF_app : ∀ A B : List Fl, flF (A ++ B) = flF A ++ flF B
  | [], _ => rfl
  | f :: r, B => by simp [flF, flF_app r B]
theorem flF_one : ∀ F : List Fl, ∀ u ∈ flF F, u.oneCell' = true
  | [], u, h => by cases h
  | f :: r, u, hu => by
    simp [flF] at hu
    rcases hu with hu | rfl | hu
    · exact ndL_one f.x f.h u hu
    · rfl
    · exact flF_one r u hu
theorem flF_get : ∀ (F : List Fl) (i : Nat) (f : Fl), F[i]? = some f → ∀ q u, (ndL f.x f.h ++ [.int .i64 f.ly])[q]? = some u → (flF F)[i * 9 + q]? = some u
  | [], i, f, hi => by simp at hi
  | g :: r, 0, f, hi => by
    simp at hi
    subst hi
    intro q u hq
    have hl : q < 9 := by have := (List.getElem?_eq_some_iff.1 hq).1; simp [ndL_length] at this; omega
    rw [Nat.zero_mul, Nat.zero_add]
    show (ndL g.x g.h ++ ([.int .i64 g.ly] ++ flF r))[q]? = some u
    rw [← List.append_assoc, List.getElem?_append_left (by simp [ndL_length]; omega)]
    exact hq
  | g :: r, i + 1, f, hi => by
    intro q u hq
    have := flF_get r i f (by simpa using hi) q u hq
    show (ndL g.x g.h ++ ([.int .i64 g.ly] ++ flF r))[(i + 1) * 9 + q]? = some u
    rw [← List.append_assoc, List.getElem?_append_right (by simp [ndL_length]; omega)]
    rw [show (i + 1) * 9 + q - (ndL g.x g.h ++ [Value.int .i64 g.ly]).length = i * 9 + q by simp [ndL_length]; omega]
    exact this
theorem flAt_of {c : Mem} {b p : Nat} {f : Fl} (h : ∀ q u, (ndL f.x f.h ++ [.int .i64 f.ly])[q]? = some u → c ⟨b, p + q, none⟩ = some u) : FlAt c b p f := by
  refine ⟨nat_iff.2 fun q u hq => h q u ?_, h 8 _ ?_⟩
  · have hl := (List.getElem?_eq_some_iff.1 hq).1
    rw [List.getElem?_append_left hl]; exact hq
  · rw [List.getElem?_append_right (by rw [ndL_length]; omega), ndL_length]; rfl
theorem row_floors {w : World} {base : Nat} {t : TypeId} {v : Value} {F : List Fl} (h : w.ownsRow base t 9 v F.length (flF F)) : ∃ a cap, v = .slice a F.length cap ∧ F.length ≤ cap ∧ cap ≤ 9223372036854775807 ∧ FlRow base w.cell? a F := by
  rcases h.2 with ⟨rfl, h0⟩ | ⟨g, cap, cur, rfl, hb, hg, h1, h2, h3, h4⟩
  · rw [h0]
    exact ⟨none, 0, rfl, Nat.le_refl _, by omega, .inl (List.length_eq_zero_iff.1 h0)⟩
  · refine ⟨some ⟨g, 0, none⟩, cap, rfl, h1, by simpa [maxLen] using h2, .inr ⟨g, 0, rfl, hb, fun i f hi => flAt_of fun q u hq => ?_⟩⟩
    have e1 := ownsRow_cell hg h4 (flF_get F i f hi q u hq)
    rw [Nat.zero_add]
    exact e1
theorem fl_newA (w : World) (f : Fl) (t : TypeId) : ∀ j u, (flF [f])[j]? = some u → (w.alloc (.cells (flF [f]).toArray t)).cell? ((⟨w.heap.size, 0, none⟩ : Addr).add j) = some u := by
  intro j u hj
  rw [addr_add, Nat.zero_add]
  refine (World.cell?_alloc_at _ _ _ _ rfl).trans ?_
  simpa using hj
theorem Try.infoF : (Try.prog.info? 59).map (fun i => (i.zero, i.size, i.bytes)) = some (some (.agg #[.int .i64 0, .int .i64 0, .int .i64 0, .int .i64 0, .bool false, .slice none 0 0, .string ⟨#[]⟩, .slice none 0 0, .int .i64 0]), 9, 112) := by kernel_rfl
/-- The kids of a name; at the last one, without those of the top layer. -/
def kidsB (bare : Bool) (nm : ByteArray) (l : List (Nd × Nat)) : List (Nd × Nat) := l.filterMap fun q => if bare = true ∧ q.2 = 0 then none else (kidO nm q.1).map fun y => (y, q.2)
def stackB (bare : Bool) (xs : List Nd) (names : List ByteArray) (i : Nat) : List (Nd × Nat) := match i with
  | 0 => shP (layP xs)
  | i + 1 => match names[i]? with
    | some nm => shP (kidsB (bare && decide (i + 1 = names.length)) nm (stackB bare xs names i))
    | none => []
theorem kidsB_no (nm : ByteArray) (l : List (Nd × Nat)) : kidsB false nm l = kidsP nm l := by
  unfold kidsB kidsP
  simp
theorem stackB_no (xs : List Nd) (names : List ByteArray) : ∀ i, i ≤ names.length → stackB false xs names i = stackP xs (names.take i)
  | 0, _ => rfl
  | i + 1, h => by
    have e : names[i]? = some names[i] := List.getElem?_eq_getElem (by omega)
    rw [stackB, e, stackP_next e, ← stackB_no xs names i (by omega)]
    simp [kidsB_no]
theorem kidsB_small {bare : Bool} {nm : ByteArray} {l : List (Nd × Nat)} (h : SmallP l) : SmallP (kidsB bare nm l) := by
  have h1 := h.kid nm
  refine ⟨Nat.le_trans (List.length_filterMap_le _ _) h.1, fun q hq => h1.2 q ?_⟩
  obtain ⟨p, hp, e⟩ := List.mem_filterMap.1 hq
  refine List.mem_filterMap.2 ⟨p, hp, ?_⟩
  split at e
  · cases e
  · exact e
theorem stackB_small {bare : Bool} {xs : List Nd} (h : SmallP (layP xs)) (names : List ByteArray) : ∀ i, SmallP (stackB bare xs names i)
  | 0 => h.sh
  | i + 1 => by
    rw [stackB]
    split
    · exact (kidsB_small (stackB_small h names i)).sh
    · exact ⟨by simp, fun q hq => by cases hq⟩
end Go.Proofs.Ytgmeecfdkcbggaa
namespace Go.Proofs.Ytgmeecfdkcbggaa
open Go.RowKit
set_option maxRecDepth 100000 in
set_option maxHeartbeats 1000000 in
theorem kid_any {w : World} {x : Nd} {h : Hd} (hN : NdV w.cell? x h) (m : ByteArray) (W : World) (hW : Below w.heap.size w W) (hlen : ∀ k' m' u' g' o' a' d' ks', x = .mk k' m' u' g' o' a' d' ks' → ks'.length ≤ 1000) :
    Calls Try.prog 37 #[ndV x h, .string m] W fun e W' => e = .returned (.int .i64 (kidF m x)) ∧ Below W.heap.size W W' := by
  cases hN with
  | @mk k mo u g o at_ d ks h b off f ha hca hck hak hc hr =>
    have hlk : ks.length ≤ 1000 := hlen _ _ _ _ _ _ _ _ rfl
    have HC : Hid (∀ i n x, ks[i]? = some (n, x) → KdAt w.cell? b (off + i * 9) n x (f i)) := hc
    have HAK : Hid (ks = [] ∨ h.ak = some ⟨b, off, none⟩) := hak
    have HF : Hid (kidF m (.mk k mo u g o at_ d ks) = if k = 2 then kidI m ks 0 else -1) := rfl
    clear hc hr hak hlen
    show Calls Try.prog 37 #[.agg #[.int .i64 k, .int .i64 mo, .int .i64 u, .int .i64 g, .bool o, .slice h.aa at_.length h.ca, .string d, .slice h.ak ks.length h.ck], .string m] _ _
    obtain ⟨R, HR⟩ : ∃ R, Hid (kidF m (.mk k mo u g o at_ d ks) = R) := ⟨_, rfl⟩
    rw [HR.out]
    rw [HR.out] at HF
    have NB := NBox.new W k mo u g o at_ d ks h
    have hB1 : Below W.heap.size W (W.alloc (.cells #[.int .i64 k, .int .i64 mo, .int .i64 u, .int .i64 g, .bool o, .slice h.aa at_.length h.ca, .string d, .slice h.ak ks.length h.ck] 31)) := (Below.refl _ _).alloc (Nat.le_refl _) _
    by_cases hk : k = 2
    rotate_left
    · have dk : (k != 2) = true := bne_iff_ne.2 hk
      have HN : Hid (R = -1) := by show _ = _; rw [HF.out, if_neg hk]
      clear hk NB
      go_enter Try.func37, Try.ntmps37
      go_wp2
      go_ret
      exact ⟨ret_num HN.out.symm, hB1⟩
    subst hk
    have HN : Hid (R = kidI m (ks.drop 0) 0) := by show _ = _; rw [HF.out, if_pos rfl]; rfl
    clear HF HR
    go_enter Try.func37, Try.ntmps37
    have NB2 := NB
    obtain ⟨y0, y1, y2, y3, y4, y5, y6, y7⟩ := NB2
    go_wp2
    clear y0 y1 y2 y3 y4 y5 y6 y7
    generalize W.alloc (.cells #[.int .i64 2, .int .i64 mo, .int .i64 u, .int .i64 g, .bool o, .slice h.aa at_.length h.ca, .string d, .slice h.ak ks.length h.ck] 31) = W1 at NB hB1 ⊢
    go_loop [5] (fun i => ∃ j : Nat, j ≤ ks.length ∧ i = .int .i64 j ∧ Hid (R = kidI m (ks.drop j) j)) (fun i => ks.length - (intOf i).toNat)
    case atStart => exact ⟨0, Nat.zero_le _, rfl, HN.out⟩
    case round =>
      obtain ⟨j, hj, rfl, HJ⟩ := hrel
      have NB4 := NB
      obtain ⟨y0, y1, y2, y3, y4, y5, y6, y7⟩ := NB4
      by_cases hjl : j < ks.length
      · have hji : (j : Int) < (ks.length : Int) := by omega
        obtain ⟨⟨n, x⟩, hx⟩ : ∃ x, ks[j]? = some x := ⟨ks[j], by simp [hjl]⟩
        have hK := (HC.out j n x hx).below (hW.trans (hB1.mono hW.size))
        have HD : Hid (kidI m (ks.drop j) j = if n = m then (j : Int) else kidI m (ks.drop (j + 1)) (j + 1)) := kidI_drop hx
        rcases HAK.out with hnil | hak
        · rw [hnil] at hjl; simp at hjl
        rw [hak] at y7
        clear hak hx
        obtain ⟨k', m', u', g', o', at', d', ks'⟩ := x
        obtain ⟨z0, _⟩ := hK.nine
        by_cases hn : n = m
        · have bn : (n.toList == m.toList) = true := by rw [hn]; simp
          have HR3 : Hid (R = j) := by show _ = _; rw [HJ.out, HD.out, if_pos hn]
          clear hn
          go_wp2
          go_ret
          exact ⟨ret_num HR3.out.symm, hB1⟩
        · have bn : (n.toList == m.toList) = false := by simp; exact fun e => hn (toList_inj e)
          have HR3 : Hid (R = kidI m (ks.drop (j + 1)) (j + 1)) := by show _ = _; rw [HJ.out, HD.out, if_neg hn]
          clear hn
          go_wp2
          go_round
          case rel => exact ⟨j + 1, by omega, by go_num, HR3.out⟩
          case measure => simp [intOf]; omega
      · have hji : decide ((j : Int) < (ks.length : Int)) = false := decide_eq_false (by omega)
        have HR3 : Hid (R = -1) := by show _ = _; rw [HJ.out, List.drop_of_length_le (by omega), kidI]
        go_wp2
        go_ret
        exact ⟨ret_num HR3.out.symm, hB1⟩
end Go.Proofs.Ytgmeecfdkcbggaa
