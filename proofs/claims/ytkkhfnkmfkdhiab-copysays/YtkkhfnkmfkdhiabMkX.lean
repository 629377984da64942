/-
  FLOORS: the document's spots; what is shown of them: the walk.
  ROWS OF FLOORS: no walk.
-/
import Derived.Test.YtkkhfnkmfkdhiabMeX
import Derived.Test.YtkkhfnkmfkdhiabWiY
namespace Go.Proofs.Ytkkhfnkmfkdhiab
open Go.RowKit

/-- A node with its layer. -/
structure Fl where
  x : Nd
  h : Hd
  ly : Nat
def Fl.pr (f : Fl) : Nd × Nat := (f.x, f.ly)
def FlAt (c : Mem) (b p : Nat) (f : Fl) : Prop := NAt c b p f.x f.h ∧ c ⟨b, p + 8, none⟩ = some (.int .i64 f.ly)
def FlRow (base : Nat) (c : Mem) (a : Option Addr) (F : List Fl) : Prop := F = [] ∨ ∃ b off, a = some ⟨b, off, none⟩ ∧ base ≤ b ∧ ∀ i f, F[i]? = some f → FlAt c b (off + i * 9) f
def FlL (base : Nat) (c cN : Mem) (v : Value) (l : List (Nd × Nat)) : Prop := ∃ (a : Option Addr) (cap : Nat) (F : List Fl), v = .slice a F.length cap ∧ F.length ≤ cap ∧ cap ≤ 9223372036854775807 ∧ FlRow base c a F ∧ (∀ f ∈ F, NdV cN f.x f.h) ∧ F.map Fl.pr = l
theorem FlAt.on {c c' : Mem} {b p : Nat} {f : Fl} (h : FlAt c b p f) (hb : MLe c c') : FlAt c' b p f := ⟨h.1.on hb, hb _ _ h.2⟩
theorem FlRow.on {base base' : Nat} {c c' : Mem} {a : Option Addr} {F : List Fl} (h : FlRow base c a F) (hl : base' ≤ base) (hb : MLe c c') : FlRow base' c' a F := by
  rcases h with e | ⟨b, off, e, h0, h⟩
  · exact .inl e
  · exact .inr ⟨b, off, e, Nat.le_trans hl h0, fun i f hi => (h i f hi).on hb⟩
theorem FlL.on {base base' : Nat} {c c' cN : Mem} {v : Value} {l : List (Nd × Nat)} (h : FlL base c cN v l) (hl : base' ≤ base) (hb : MLe c c') : FlL base' c' cN v l := by
  obtain ⟨a, cap, F, h1, h2, h3, h4, h5, h6⟩ := h
  exact ⟨a, cap, F, h1, h2, h3, h4.on hl hb, h5, h6⟩
theorem FlL.less {base base' : Nat} {c cN : Mem} {v : Value} {l : List (Nd × Nat)} (h : FlL base c cN v l) (hl : base' ≤ base) : FlL base' c cN v l := h.on hl (fun _ _ h => h)
theorem FlL.take {base : Nat} {c cN : Mem} {a : Option Addr} {cap : Nat} {F : List Fl} (h2 : F.length ≤ cap) (h3 : cap ≤ 9223372036854775807) (h4 : FlRow base c a F) (h5 : ∀ f ∈ F, NdV cN f.x f.h) (n : Nat) (hn : n ≤ F.length) : FlL base c cN (.slice a n cap) ((F.map Fl.pr).take n) := by
  refine ⟨a, cap, F.take n, by rw [List.length_take, Nat.min_eq_left hn], by rw [List.length_take, Nat.min_eq_left hn]; omega, h3, ?_, fun f hf => h5 f (List.mem_of_mem_take hf), List.map_take⟩
  rcases h4 with e | ⟨b, off, e, h0, h⟩
  · subst e; exact .inl (by simp)
  · refine .inr ⟨b, off, e, h0, fun i f hi => h i f ?_⟩
    rw [List.getElem?_take] at hi
    split at hi
    · exact hi
    · cases hi
def PlainP (L : List (Nd × Nat)) : Prop := ∀ s ∈ L, s.1.kind = 2 ∧ s.1.opq = false
theorem dirP_app {L : List (Nd × Nat)} (h : PlainP L) (r : List (Nd × Nat)) : dirP (L ++ r) = L ++ dirP r := by
  induction L with
  | nil => rfl
  | cons s L ih =>
    have h1 := h s (List.mem_cons_self ..)
    rw [List.cons_append, dirP, if_neg (by rw [h1.1]; simp), if_neg (by rw [h1.2]; simp), ih fun t ht => h t (List.mem_cons_of_mem _ ht)]
    rfl
theorem take_nextM {α : Type} {l : List α} {n : Nat} {x : α} (h : l[n]? = some x) : l = l.take n ++ x :: l.drop (n + 1) := by
  obtain ⟨hlt, e⟩ := List.getElem?_eq_some_iff.1 h
  have e2 := List.drop_eq_getElem_cons hlt
  rw [e] at e2
  rw [← e2, List.take_append_drop]
set_option maxRecDepth 100000 in
set_option maxHeartbeats 2000000 in
theorem rshown_any {base : Nat} {w : World} {cN : Mem} {v : Value} {l : List (Nd × Nat)} (hv : FlL base w.cell? cN v l) (hlen : l.length ≤ 1000) :
    Calls Try.prog 113 #[v] w fun e w' => (∃ v', e = .returned v' ∧ FlL base w.cell? cN v' (shP l)) ∧ w' = w := by
  obtain ⟨a, cap, F, rfl, g1, g2, g3, g4, g5⟩ := hv
  have HT : Hid (∀ n, n ≤ F.length → FlL base w.cell? cN (.slice a n cap) (l.take n)) := fun n hn => by rw [← g5]; exact FlL.take g1 g2 g3 g4 n hn
  have hFl : F.length = l.length := by rw [← g5, List.length_map]
  have HC : Hid (∀ (i : Nat) q, l[i]? = some q → ∃ b off, a = some ⟨b, off, none⟩ ∧ w.cell? ⟨b, off + i * 9, none⟩ = some (.int .i64 q.1.kind) ∧ w.cell? ⟨b, off + i * 9 + 4, none⟩ = some (.bool q.1.opq)) := fun i q hi => by
    rw [← g5, List.getElem?_map] at hi
    obtain ⟨f, hf, rfl⟩ := Option.map_eq_some_iff.1 hi
    rcases g3 with e | ⟨b, off, e, _, h⟩
    · subst e; simp at hf
    · have h1 := (h i f hf).1
      refine ⟨b, off, e, ?_, ?_⟩
      · obtain ⟨⟨k, m, u, g, o, at_, d, ks⟩, hh, ly⟩ := f
        exact h1.split.1
      · obtain ⟨⟨k, m, u, g, o, at_, d, ks⟩, hh, ly⟩ := f
        exact h1.split.2.1
  obtain ⟨N, HN⟩ : ∃ N, Hid (F.length = N) := ⟨_, rfl⟩
  rw [HN.out] at HT hFl g1 ⊢
  have HFL : Hid (N = l.length) := hFl
  have hN : N ≤ 1000 := by omega
  clear g3 g4 g5 HN hFl hlen
  cases hl : l with
  | nil =>
    subst hl
    obtain rfl : N = 0 := HFL.out
    have HR : Hid (FlL base w.cell? cN (.slice a 0 cap) (shP [])) := HT.out 0 (Nat.le_refl _)
    clear HT HC HFL
    go_enter Try.func113, Try.ntmps113
    go_wp2
    go_loop [3] (fun i => i = .int .i64 0) (fun _ => 0)
    case atStart => rfl
    case round =>
      subst hrel
      go_wp2
      go_ret
      exact ⟨⟨_, rfl, HR.out⟩, rfl⟩
  | cons q r =>
    obtain ⟨b, off, rfl, c0, c1⟩ := HC.out 0 q (by rw [hl]; rfl)
    have hNp : 0 < N := by rw [HFL.out, hl]; simp
    rw [Nat.zero_mul, Nat.add_zero] at c0
    by_cases hk1 : q.1.kind = 1
    · have HR : Hid (FlL base w.cell? cN (.slice (some ⟨b, off, none⟩) 1 cap) (shP (q :: r))) := by
        have h := HT.out 1 hNp
        rw [hl] at h
        rw [shP, if_pos hk1]
        exact h
      rw [hk1] at c0
      clear HT HC HFL hl c1
      go_enter Try.func113, Try.ntmps113
      go_wp2
      go_ret
      exact ⟨⟨_, rfl, HR.out⟩, rfl⟩
    · have HSH : Hid (shP (q :: r) = dirP l) := by show _ = _; rw [shP, if_neg hk1, hl]
      rw [HSH.out]
      have HL : Hid (l = q :: r) := hl
      generalize hkk : q.1.kind = kk at *
      clear hl c1 HL
      go_enter Try.func113, Try.ntmps113
      go_wp2
      go_loop [3] (fun i => ∃ n : Nat, n ≤ N ∧ i = .int .i64 n ∧ Hid (PlainP (l.take n))) (fun i => N - (intOf i).toNat)
      case atStart => exact ⟨0, Nat.zero_le _, rfl, fun s hs => by cases hs⟩
      case round =>
        obtain ⟨n, hn, rfl, HP⟩ := hrel
        by_cases hnl : n < N
        rotate_left
        · have hb : decide ((n : Int) < (N : Int)) = false := decide_eq_false (by omega)
          have HR : Hid (FlL base w.cell? cN (.slice (some ⟨b, off, none⟩) n cap) (dirP l)) := by
            have h := HT.out n hn
            have e := dirP_app HP.out []
            rw [List.append_nil, dirP, List.append_nil, List.take_of_length_le (by rw [← HFL.out]; omega)] at e
            rw [List.take_of_length_le (by rw [← HFL.out]; omega)] at h
            rw [e]; exact h
          go_wp2
          go_ret
          exact ⟨⟨_, rfl, HR.out⟩, rfl⟩
        · have hb : decide ((n : Int) < (N : Int)) = true := decide_eq_true (by omega)
          obtain ⟨p, hp⟩ : ∃ p, l[n]? = some p := ⟨_, List.getElem?_eq_getElem (by rw [← HFL.out]; exact hnl)⟩
          obtain ⟨b', off', e, d0, d1⟩ := HC.out n p hp
          simp only [Option.some.injEq, Addr.mk.injEq] at e
          obtain ⟨rfl, rfl, _⟩ := e
          have HX : Hid (dirP l = l.take n ++ dirP (p :: l.drop (n + 1))) := by
            show _ = _
            conv => lhs; rw [take_nextM hp]
            exact dirP_app HP.out _
          have HK2 : Hid (l.take (n + 1) = l.take n ++ [p]) := by show _ = _; rw [List.take_add_one, hp]; rfl
          by_cases hp2 : p.1.kind = 2
          rotate_left
          · have HR : Hid (FlL base w.cell? cN (.slice (some ⟨b, off, none⟩) n cap) (dirP l)) := by
              have h := HT.out n hn
              rw [HX.out, dirP, if_pos hp2, List.append_nil]
              exact h
            generalize p.1.kind = pk at *
            clear hp HX HK2
            go_wp2
            go_ret
            exact ⟨⟨_, rfl, HR.out⟩, rfl⟩
          · rw [hp2] at d0
            by_cases ho : p.1.opq = true
            · have HR : Hid (FlL base w.cell? cN (.slice (some ⟨b, off, none⟩) (n + 1) cap) (dirP l)) := by
                have h := HT.out (n + 1) hnl
                rw [HX.out, dirP, if_neg (by rw [hp2]; simp), if_pos ho, ← HK2.out]
                exact h
              rw [ho] at d1
              clear hp HX HK2 HT
              go_wp2
              go_ret
              exact ⟨⟨_, rfl, HR.out⟩, rfl⟩
            · have hof : p.1.opq = false := by simpa using ho
              rw [hof] at d1
              have HP2 : Hid (PlainP (l.take (n + 1))) := fun s hs => by
                rw [HK2.out] at hs
                rcases List.mem_append.1 hs with e | e
                · exact HP.out s e
                · rw [List.mem_singleton] at e; rw [e]; exact ⟨hp2, hof⟩
              clear hp HX HK2 HP
              go_wp2
              go_round
              case rel => exact ⟨n + 1, by omega, by go_num, HP2.out⟩
              case measure => (simp [intOf]; try omega)
end Go.Proofs.Ytkkhfnkmfkdhiab

namespace Go.Proofs.Ytkkhfnkmfkdhiab
open Go.RowKit

def flF : List Fl → List Value
  | [] => []
  | f :: r => ndL f.x f.h ++ (.int .i64 f.ly :: flF r)
theorem flF_len : ∀ F : List Fl, (flF F).length = F.length * 9
  | [] => rfl
  | f :: r => by simp [flF, flF_len r, ndL_length]; omega
theorem flF_app : ∀ A B : List Fl, flF (A ++ B) = flF A ++ flF B
  | [], _ => rfl
  | f :: r, B => by simp [flF, flF_app r B]
theorem flF_one : ∀ F : List Fl, ∀ u ∈ flF F, u.oneCell' = true
  | [], u, h => by cases h
  | f :: r, u, hu => by
    simp [flF] at hu
    rcases hu with hu | rfl | hu
    · exact ndL_one f.x f.h u hu
    · rfl
    · exact flF_one r u hu
theorem flF_get : ∀ (F : List Fl) (i : Nat) (f : Fl), F[i]? = some f → ∀ q u, (ndL f.x f.h ++ [.int .i64 f.ly])[q]? = some u → (flF F)[i * 9 + q]? = some u
  | [], i, f, hi => by simp at hi
  | g :: r, 0, f, hi => by
    simp at hi
    subst hi
    intro q u hq
    have hl : q < 9 := by have := (List.getElem?_eq_some_iff.1 hq).1; simp [ndL_length] at this; omega
    rw [Nat.zero_mul, Nat.zero_add]
    show (ndL g.x g.h ++ ([.int .i64 g.ly] ++ flF r))[q]? = some u
    rw [← List.append_assoc, List.getElem?_append_left (by simp [ndL_length]; omega)]
    exact hq
  | g :: r, i + 1, f, hi => by
    intro q u hq
    have := flF_get r i f (by simpa using hi) q u hq
    show (ndL g.x g.h ++ ([.int .i64 g.ly] ++ flF r))[(i + 1) * 9 + q]? = some u
    rw [← List.append_assoc, List.getElem?_append_right (by simp [ndL_length]; omega)]
    rw [show (i + 1) * 9 + q - (ndL g.x g.h ++ [Value.int .i64 g.ly]).length = i * 9 + q by simp [ndL_length]; omega]
    exact this
theorem flAt_of {c : Mem} {b p : Nat} {f : Fl} (h : ∀ q u, (ndL f.x f.h ++ [.int .i64 f.ly])[q]? = some u → c ⟨b, p + q, none⟩ = some u) : FlAt c b p f := by
  refine ⟨nat_iff.2 fun q u hq => h q u ?_, h 8 _ ?_⟩
  · have hl := (List.getElem?_eq_some_iff.1 hq).1
    rw [List.getElem?_append_left hl]; exact hq
  · rw [List.getElem?_append_right (by rw [ndL_length]; omega), ndL_length]; rfl
theorem row_floors {w : World} {base : Nat} {t : TypeId} {v : Value} {F : List Fl} (h : w.ownsRow base t 9 v F.length (flF F)) : ∃ a cap, v = .slice a F.length cap ∧ F.length ≤ cap ∧ cap ≤ 9223372036854775807 ∧ FlRow base w.cell? a F := by
  rcases h.2 with ⟨rfl, h0⟩ | ⟨g, cap, cur, rfl, hb, hg, h1, h2, h3, h4⟩
  · rw [h0]
    exact ⟨none, 0, rfl, Nat.le_refl _, by omega, .inl (List.length_eq_zero_iff.1 h0)⟩
  · refine ⟨some ⟨g, 0, none⟩, cap, rfl, h1, by simpa [maxLen] using h2, .inr ⟨g, 0, rfl, hb, fun i f hi => flAt_of fun q u hq => ?_⟩⟩
    have e1 := ownsRow_cell hg h4 (flF_get F i f hi q u hq)
    rw [Nat.zero_add]
    exact e1
theorem fl_newA (w : World) (f : Fl) (t : TypeId) : ∀ j u, (flF [f])[j]? = some u → (w.alloc (.cells (flF [f]).toArray t)).cell? ((⟨w.heap.size, 0, none⟩ : Addr).add j) = some u := by
  intro j u hj
  rw [addr_add, Nat.zero_add]
  refine (World.cell?_alloc_at _ _ _ _ rfl).trans ?_
  simpa using hj
theorem Try.infoF : (Try.prog.info? 127).map (fun i => (i.zero, i.size, i.bytes)) = some (some (.agg #[.int .i64 0, .int .i64 0, .int .i64 0, .int .i64 0, .bool false, .slice none 0 0, .string ⟨#[]⟩, .slice none 0 0, .int .i64 0]), 9, 112) := by kernel_rfl
/-- The kids of a name; at the last one, without those of the top layer. -/
def kidsB (bare : Bool) (nm : ByteArray) (l : List (Nd × Nat)) : List (Nd × Nat) := l.filterMap fun q => if bare = true ∧ q.2 = 0 then none else (kidO nm q.1).map fun y => (y, q.2)
def stackB (bare : Bool) (xs : List Nd) (names : List ByteArray) (i : Nat) : List (Nd × Nat) := match i with
  | 0 => shP (layP xs)
  | i + 1 => match names[i]? with
    | some nm => shP (kidsB (bare && decide (i + 1 = names.length)) nm (stackB bare xs names i))
    | none => []
theorem kidsB_no (nm : ByteArray) (l : List (Nd × Nat)) : kidsB false nm l = kidsP nm l := by
  unfold kidsB kidsP
  simp
theorem stackB_no (xs : List Nd) (names : List ByteArray) : ∀ i, i ≤ names.length → stackB false xs names i = stackP xs (names.take i)
  | 0, _ => rfl
  | i + 1, h => by
    have e : names[i]? = some names[i] := List.getElem?_eq_getElem (by omega)
    rw [stackB, e, stackP_next e, ← stackB_no xs names i (by omega)]
    simp [kidsB_no]
theorem kidsB_small {bare : Bool} {nm : ByteArray} {l : List (Nd × Nat)} (h : SmallP l) : SmallP (kidsB bare nm l) := by
  have h1 := h.kid nm
  refine ⟨Nat.le_trans (List.length_filterMap_le _ _) h.1, fun q hq => h1.2 q ?_⟩
  obtain ⟨p, hp, e⟩ := List.mem_filterMap.1 hq
  refine List.mem_filterMap.2 ⟨p, hp, ?_⟩
  split at e
  · cases e
  · exact e
theorem stackB_small {bare : Bool} {xs : List Nd} (h : SmallP (layP xs)) (names : List ByteArray) : ∀ i, SmallP (stackB bare xs names i)
  | 0 => h.sh
  | i + 1 => by
    rw [stackB]
    split
    · exact (kidsB_small (stackB_small h names i)).sh
    · exact ⟨by simp, fun q hq => by cases hq⟩
end Go.Proofs.Ytkkhfnkmfkdhiab
