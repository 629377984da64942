/-
  PLACES IN A ROW; slices.IndexFunc, slices.DeleteFunc OF THEM: the walks.
  WHAT places GATHERS, in memory: no walk.
  FLOORS: the document's spots; what is shown of them: the walk.
-/
import Derived.Test.YtgmeecfdkcbggaaMiX
import Derived.Lib.SliceRun
import Derived.Deep.Upon
import Derived.Deep.LoopGhost
import Derived.Test.YtgmeecfdkcbggaaMeX
namespace Go.Proofs.Ytgmeecfdkcbggaa
open Go.RowKit
/-- A place, and where its list lies. -/
structure Pe where
  n : ByteArray
  a : Option Addr
  c : Nat
  L : List Sp
def Pe.pl (e : Pe) : ByteArray × List Sp := (e.n, e.L)
/-- A row of places that may be written. -/
structure PRow (w : World) (b : Nat) (G : List Pe) : Prop where
  cell : ∀ (i : Nat) e, G[i]? = some e → w.cell? ⟨b, i * 2, none⟩ = some (.string e.n) ∧ w.cell? ⟨b, i * 2 + 1, none⟩ = some (.slice e.a e.L.length e.c)
  free : ∀ j, w.frozen? ⟨b, j, none⟩ = false
  lt : b < w.heap.size
theorem PRow.mv {w w' : World} {b : Nat} {G : List Pe} {S : Nat → Prop} (h : PRow w b G) (hb : Mv S w w') (hs : ¬ S b) : PRow w' b G :=
  ⟨fun i e hi => ⟨(hb.cell (p := ⟨b, i * 2, none⟩) h.lt hs).trans (h.cell i e hi).1, (hb.cell (p := ⟨b, i * 2 + 1, none⟩) h.lt hs).trans (h.cell i e hi).2⟩, fun j => (hb.frozen (p := ⟨b, j, none⟩) h.lt hs).trans (h.free j), Nat.lt_of_lt_of_le h.lt hb.size⟩
theorem PRow.below {w w' : World} {b : Nat} {G : List Pe} (h : PRow w b G) (hb : Below w.heap.size w w') : PRow w' b G := h.mv (S := fun _ => False) (Mv.of hb) (fun e => e)
theorem PRow.set {w : World} {b : Nat} {G : List Pe} (h : PRow w b G) {i : Nat} {o : Pe} (hi : G[i]? = some o) (e : Pe) : PRow ((w.setCell ⟨b, i * 2, none⟩ (.string e.n)).setCell ⟨b, i * 2 + 1, none⟩ (.slice e.a e.L.length e.c)) b (G.set i e) := by
  obtain ⟨o1, o2⟩ := h.cell i o hi
  refine ⟨fun j f hj => ?_, fun j => by rw [World.frozen?_setCell, World.frozen?_setCell]; exact h.free j, by rw [World.size_setCell, World.size_setCell]; exact h.lt⟩
  rw [List.getElem?_set] at hj
  split at hj
  · rename_i e1
    subst e1
    split at hj
    · cases hj
      refine ⟨?_, ?_⟩
      · rw [World.cell?_setCell_other _ _ _ _ (by simp)]
        exact World.cell?_setCell_same _ _ _ o1
      · exact World.cell?_setCell_same _ _ _ ((World.cell?_setCell_other _ _ _ _ (by simp)).trans o2)
    · cases hj
  · rename_i e1
    obtain ⟨q1, q2⟩ := h.cell j f hj
    refine ⟨?_, ?_⟩
    · rw [World.cell?_setCell_other _ _ _ _ (fun e => by have := (Addr.mk.inj e).2.1; omega), World.cell?_setCell_other _ _ _ _ (fun e => by have := (Addr.mk.inj e).2.1; omega)]; exact q1
    · rw [World.cell?_setCell_other _ _ _ _ (fun e => by have := (Addr.mk.inj e).2.1; omega), World.cell?_setCell_other _ _ _ _ (fun e => by have := (Addr.mk.inj e).2.1; omega)]; exact q2
theorem PRow.sub {w : World} {b : Nat} {G G' : List Pe} (h : PRow w b G) (hs : ∀ (i : Nat) e, G'[i]? = some e → G[i]? = some e) : PRow w b G' := ⟨fun i e hi => h.cell i e (hs i e hi), h.free, h.lt⟩
set_option maxRecDepth 100000 in
set_option maxHeartbeats 1000000 in
theorem indexP_any {w : World} {b cap : Nat} {G : List Pe} (h : PRow w b G) (hl : G.length ≤ 1000) (hL : ∀ e ∈ G, e.L.length ≤ 1000) :
    Calls Try.prog 58 #[.slice (some ⟨b, 0, none⟩) G.length cap, .func (.func 44) #[] #[]] w fun e w' => ((e = .returned (.int .i64 (-1)) ∧ ∀ x ∈ G, x.L ≠ []) ∨ ∃ i x, e = .returned (.int .i64 (i : Nat)) ∧ G[i]? = some x ∧ x.L = [] ∧ ∀ x ∈ G.take i, x.L ≠ []) ∧ Below w.heap.size w w' := by
  obtain ⟨N, HN⟩ : ∃ N, Hid (G.length = N) := ⟨_, rfl⟩
  have HP : Hid _ := h
  have HL : Hid _ := hL
  rw [HN.out] at hl ⊢
  clear h hL
  go_enter Try.func58, Try.ntmps58
  go_wp2
  go_loopw [8] (fun i wr => ∃ j : Nat, j ≤ N ∧ i = .int .i64 j ∧ Hid (∀ x ∈ G.take j, x.L ≠ []) ∧ Below w.heap.size w wr) (fun i _ => N - (intOf i).toNat)
  case atStart => exact ⟨0, Nat.zero_le _, rfl, fun x hx => (by simp at hx), Below.refl _ _⟩
  case round =>
    obtain ⟨j, hj, rfl, HJ, hB⟩ := hrel
    by_cases hjl : j < N
    rotate_left
    · have hji : decide ((j : Int) < (N : Int)) = false := decide_eq_false (by omega)
      have HA : Hid (∀ x ∈ G, x.L ≠ []) := by
        have h1 := HJ.out
        rw [List.take_of_length_le (by rw [HN.out]; omega)] at h1
        exact h1
      go_wp2
      go_ret
      exact ⟨.inl ⟨rfl, HA.out⟩, hB⟩
    have hji : (j : Int) < (N : Int) := by omega
    obtain ⟨x, hx⟩ : ∃ x, G[j]? = some x := ⟨_, List.getElem?_eq_getElem (by rw [HN.out]; exact hjl)⟩
    obtain ⟨c0, c1⟩ := (HP.out.below hB).cell j x hx
    have hxl := HL.out x (List.mem_of_getElem? hx)
    have HX : Hid (G[j]? = some x) := hx
    have HC : Hid (Calls Try.prog 44 #[.agg #[.string x.n, .slice x.a x.L.length x.c]] wr fun e w' => e = .returned (.bool (decide (x.L.length = 0))) ∧ w' = wr.alloc (.cells #[.string x.n, .slice x.a x.L.length x.c] 67)) := none_any x.n x.a x.L.length x.c wr hxl
    obtain ⟨t, ht⟩ : ∃ t, (decide (x.L.length = 0)) = t := ⟨_, rfl⟩
    have HT : Hid (decide (x.L.length = 0) = t) := ht
    rw [ht] at HC
    have hal : Below wr.heap.size wr (wr.alloc (.cells #[.string x.n, .slice x.a x.L.length x.c] 67)) := (Below.refl _ _).alloc (Nat.le_refl _) _
    have hB2 := hB.trans (hal.mono hB.size)
    clear hx ht hal
    go_wp2_with fail
    refine HC.out.mono ?_
    rintro e w2 ⟨rfl, rfl⟩
    clear HC c0 c1
    cases t
    · have HN2 : Hid (∀ y ∈ G.take (j + 1), y.L ≠ []) := fun y hy => by
        rw [List.take_add_one, HX.out] at hy
        rcases List.mem_append.1 hy with h1 | h1
        · exact HJ.out y h1
        · simp at h1
          rw [h1]
          intro e
          have := HT.out
          rw [e] at this
          simp at this
      go_wp2
      go_roundw
      case rel => exact ⟨j + 1, by omega, by go_num, HN2.out, hB2⟩
      case measure => (simp [intOf]; try omega)
    · have HE : Hid (x.L = []) := List.eq_nil_of_length_eq_zero (of_decide_eq_true HT.out)
      go_wp2
      go_ret
      exact ⟨.inr ⟨j, x, rfl, HX.out, HE.out, HJ.out⟩, hB2⟩
/-- clear(s) of structs: some cells turn, and no others. -/
theorem run_clear_two {P : Program} (w : World) (t e ty : TypeId) (z1 z2 : Value) (ht : P.underlying t = some (.slice e)) (hv : ∀ w, (zeroValue e).run P w = .ok (.agg #[z1, z2]) w) (h1 : z1.oneCell' = true) (h2 : z2.oneCell' = true) (hz : (Value.agg #[z1, z2]).cells = #[z1, z2]) (b o n c : Nat)
    (hc : ∀ j, j < n * 2 → (w.cell? ⟨b, o + j, none⟩).isSome = true) (hf : ∀ j, j < n * 2 → w.frozen? ⟨b, o + j, none⟩ = false) :
    ∃ vs : List Value, vs.length = n * 2 ∧ (Builtin.clear_ #[t] ty #[.slice (some ⟨b, o, none⟩) n c]).run P w = .ok (.tuple #[]) (w.setCells b o vs) := by
  cases n with
  | zero => exact ⟨[], rfl, by simp [Builtin.clear_, run_underlying ht, World.setCells]⟩
  | succ m =>
    have hlen : (Builtin.zeroCells #[z1, z2] (m + 1)).toList.length = (m + 1) * 2 := by simp [Builtin.zeroCells]
    refine ⟨(Builtin.zeroCells #[z1, z2] (m + 1)).toList, hlen, ?_⟩
    have hst := run_storeCells_cells (P := P) b o (Builtin.zeroCells #[z1, z2] (m + 1)).toList 0 w (fun j hj => by rw [Nat.add_zero]; exact hc j (by omega)) (fun j hj => by rw [Nat.add_zero]; exact hf j (by omega)) (by
      intro v hv'
      simp only [Builtin.zeroCells, Array.toList_map, List.mem_map] at hv'
      obtain ⟨i, _, rfl⟩ := hv'
      have : i % (#[z1, z2] : Array Value).size < 2 := Nat.mod_lt _ (by simp)
      generalize i % (#[z1, z2] : Array Value).size = r at this
      match r, this with
      | 0, _ => exact h1
      | 1, _ => exact h2)
    rw [Nat.add_zero] at hst
    simp [Builtin.clear_, run_underlying ht, hv, hz, hst]
theorem mv_cells {w : World} {b o : Nat} (vs : List Value) : Mv (fun k => k = b) w (w.setCells b o vs) := by
  induction vs generalizing w o with
  | nil => exact Mv.refl _ _
  | cons v r ih => exact (Mv.setCell (S := fun k => k = b) (Mv.refl _ w) (p := ⟨b, o, none⟩) rfl v).trans ih
theorem zeroPl (w : World) : (zeroValue 67).run Try.prog w = .ok (.agg #[.string ⟨#[]⟩, .slice none 0 0]) w := by kernel_rfl
theorem take_set_at {α : Type} (R : List α) (k : Nat) (x : α) : (R.set k x).take k = R.take k := by
  apply List.ext_getElem?
  intro q
  rw [List.getElem?_take, List.getElem?_take]
  split
  · rw [List.getElem?_set_ne (by omega)]
  · rfl
/-- Those at which something is seen. -/
def someP (G : List Pe) : List Pe := G.filter fun e => !e.L.isEmpty
theorem someP_all {G : List Pe} (h : ∀ x ∈ G, x.L ≠ []) : someP G = G := List.filter_eq_self.2 fun x hx => by
  have := h x hx
  cases hL : x.L with
  | nil => exact absurd hL this
  | cons a b => rfl
theorem someP_next {G : List Pe} {j : Nat} {x : Pe} (h : G[j]? = some x) : someP (G.take (j + 1)) = someP (G.take j) ++ (if x.L = [] then [] else [x]) := by
  unfold someP
  rw [List.take_add_one, h, List.filter_append]
  congr 1
  show List.filter _ [x] = _
  rw [List.filter_cons]
  cases hL : x.L with
  | nil => simp
  | cons a b => simp
set_option maxRecDepth 100000 in
set_option maxHeartbeats 2000000 in
theorem delP_any {w : World} {b cap : Nat} {G : List Pe} (h : PRow w b G) (hl : G.length ≤ 1000) (hL : ∀ e ∈ G, e.L.length ≤ 1000) (hcap : G.length ≤ cap) (_hcap2 : cap ≤ 9223372036854775807) :
    Calls Try.prog 43 #[.slice (some ⟨b, 0, none⟩) G.length cap, .func (.func 44) #[] #[]] w fun e w' => e = .returned (.slice (some ⟨b, 0, none⟩) (someP G).length cap) ∧ PRow w' b (someP G) ∧ Mv (fun k => k = b) w w' := by
  have HI : Hid _ := indexP_any (cap := cap) h hl hL
  obtain ⟨N, HN⟩ : ∃ N, Hid (G.length = N) := ⟨_, rfl⟩
  have HP : Hid _ := h
  have HL : Hid _ := hL
  rw [HN.out] at hl hcap HI ⊢
  clear h hL
  go_enter Try.func43, Try.ntmps43
  go_wp2_with fail
  refine Calls.mono HI.out ?_
  rintro e w1 ⟨(⟨rfl, hno⟩ | ⟨i, x, rfl, hx, hxe, hfst⟩), hB1⟩
  · have HS : Hid (someP G = G) := someP_all hno
    have HP1 : Hid _ := HP.out.below hB1
    clear HI hno
    go_wp2
    go_ret
    refine ⟨?_, ?_, Mv.of hB1⟩
    · rw [HS.out, HN.out]; rfl
    · rw [HS.out]; exact HP1.out
  have hlt : i < N := by rw [← HN.out]; exact (List.getElem?_eq_some_iff.1 hx).1
  have HS0 : Hid (G.take i = someP (G.take (i + 1))) := by
    show _ = _
    rw [someP_next hx, if_pos hxe, List.append_nil, someP_all hfst]
  have HP1 : Hid _ := HP.out.below hB1
  have hne1 : ((i : Int) == -1) = false := by rw [beq_eq_false_iff_ne]; omega
  have HX0 : Hid (i < N) := hlt
  clear HI hx hxe hfst
  go_wp2
  go_loopg [5, 6, 7] (N - (i + 1)) (fun gg s5 s6 _ wr => ∃ (k j : Nat) (R : List Pe), s5 = .int .i64 k ∧ s6 = .int .i64 j ∧ k < j ∧ j ≤ N ∧ N - j ≤ gg ∧ R.length = N ∧ Hid (R.take k = someP (G.take j) ∧ R.drop j = G.drop j) ∧ Hid (PRow wr b R) ∧ Mv (fun q => q = b) w wr)
  case atStart => exact ⟨i, i + 1, G, rfl, by go_num, by omega, hlt, Nat.le_refl _, HN.out, ⟨HS0.out, rfl⟩, HP1.out, Mv.of hB1⟩
  case round =>
    obtain ⟨k, j, R, rfl, rfl, hkj, hjN, hgg, hRl, HR, HPR, hMv⟩ := hrel
    clear HP1 hB1 HS0 hlt hne1
    by_cases hjl : j < N
    · have hji : decide ((j : Int) < (N : Int)) = true := decide_eq_true (by omega)
      obtain ⟨x, hx⟩ : ∃ x, G[j]? = some x := ⟨_, List.getElem?_eq_getElem (by rw [HN.out]; exact hjl)⟩
      have hxR : R[j]? = some x := by
        have e1 := congrArg (fun l => l[0]?) HR.out.2
        simp only [List.getElem?_drop, Nat.add_zero] at e1
        rw [e1]; exact hx
      obtain ⟨o, ho⟩ : ∃ o, R[k]? = some o := ⟨_, List.getElem?_eq_getElem (by omega)⟩
      obtain ⟨c0, c1⟩ := HPR.out.cell j x hxR
      have hal : Below wr.heap.size wr (wr.alloc (.cells #[.string x.n, .slice x.a x.L.length x.c] 67)) := (Below.refl _ _).alloc (Nat.le_refl _) _
      have hal2 : Below wr.heap.size wr ((wr.alloc (.cells #[.string x.n, .slice x.a x.L.length x.c] 67)).alloc (.cells #[.string x.n, .slice x.a x.L.length x.c] 67)) := hal.alloc hal.size _
      obtain ⟨n0, n1⟩ := two_new wr (.string x.n) (.slice x.a x.L.length x.c) 67
      have m0 := mle_below ((Below.refl _ (wr.alloc (.cells #[.string x.n, .slice x.a x.L.length x.c] 67))).alloc (Nat.le_refl _) (.cells #[.string x.n, .slice x.a x.L.length x.c] 67)) _ _ n0
      have m1 := mle_below ((Below.refl _ (wr.alloc (.cells #[.string x.n, .slice x.a x.L.length x.c] 67))).alloc (Nat.le_refl _) (.cells #[.string x.n, .slice x.a x.L.length x.c] 67)) _ _ n1
      have hP2 := HPR.out.below hal2
      obtain ⟨d0, d1⟩ := hP2.cell k o ho
      have f0 := hP2.free (k * 2)
      have f1 := hP2.free (k * 2 + 1)
      have HP3 : Hid _ := hP2.set ho x
      have hMv2 := hMv.trans (Mv.of hal2)
      have hxl := HL.out x (List.mem_of_getElem? hx)
      have HC : Hid (Calls Try.prog 44 #[.agg #[.string x.n, .slice x.a x.L.length x.c]] (wr.alloc (.cells #[.string x.n, .slice x.a x.L.length x.c] 67)) fun e w' => e = .returned (.bool (decide (x.L.length = 0))) ∧ w' = (wr.alloc (.cells #[.string x.n, .slice x.a x.L.length x.c] 67)).alloc (.cells #[.string x.n, .slice x.a x.L.length x.c] 67)) := none_any x.n x.a x.L.length x.c _ hxl
      have HX : Hid (G[j]? = some x) := hx
      have HP2 : Hid _ := hP2
      have HO : Hid (R[k]? = some o) := ho
      have HD : Hid (R.drop (j + 1) = G.drop (j + 1)) := by
        show _ = _
        have e1 := congrArg (List.drop 1) HR.out.2
        rwa [List.drop_drop, List.drop_drop] at e1
      obtain ⟨t, ht⟩ : ∃ t, (decide (x.L.length = 0)) = t := ⟨_, rfl⟩
      have HT : Hid (decide (x.L.length = 0) = t) := ht
      rw [ht] at HC
      clear hx hxR ht hal hal2 hP2 ho HPR
      go_wp2_with fail
      refine HC.out.mono ?_
      rintro e w2 ⟨rfl, rfl⟩
      clear HC c0 c1 n0 n1
      cases t
      · have hne : x.L ≠ [] := fun e => by have := HT.out; rw [e] at this; simp at this
        have HR2 : Hid ((R.set k x).take (k + 1) = someP (G.take (j + 1)) ∧ (R.set k x).drop (j + 1) = G.drop (j + 1)) := by
          refine ⟨?_, ?_⟩
          · rw [someP_next HX.out, if_neg hne, ← HR.out.1, List.take_add_one, take_set_at, List.getElem?_set_self (by omega)]; rfl
          · rw [List.drop_set, if_pos (by omega)]; exact HD.out
        clear hne HR HD
        go_wp2
        go_roundg (N - (j + 1))
        case measure => omega
        case rel => exact ⟨k + 1, j + 1, R.set k x, by go_num, by go_num, by omega, by omega, Nat.le_refl _, by rw [List.length_set]; exact hRl, HR2.out, HP3.out, (hMv2.setCell (p := ⟨b, k * 2, none⟩) rfl _).setCell (p := ⟨b, k * 2 + 1, none⟩) rfl _⟩
      · have he : x.L = [] := List.eq_nil_of_length_eq_zero (of_decide_eq_true HT.out)
        have HR2 : Hid (R.take k = someP (G.take (j + 1)) ∧ R.drop (j + 1) = G.drop (j + 1)) := ⟨by rw [someP_next HX.out, if_pos he, List.append_nil]; exact HR.out.1, HD.out⟩
        clear he HR HD HP3 f0 f1 d0 d1 m0 m1
        go_wp2
        go_roundg (N - (j + 1))
        case measure => omega
        case rel => exact ⟨k, j + 1, R, rfl, by go_num, by omega, by omega, Nat.le_refl _, hRl, HR2.out, HP2.out, hMv2⟩
    · obtain rfl : j = N := by omega
      have hji : decide ((j : Int) < (j : Int)) = false := decide_eq_false (by omega)
      have HE : Hid (R.take k = someP G) := by
        have h1 := HR.out.1
        rwa [List.take_of_length_le (l := G) (by rw [HN.out]; omega)] at h1
      have HK : Hid (k = (someP G).length) := by
        show _ = _
        rw [← HE.out, List.length_take]; omega
      have hcs : ∀ q, q < (j - k) * 2 → (wr.cell? ⟨b, k * 2 + q, none⟩).isSome = true := fun q hq => by
        obtain ⟨y, hy⟩ : ∃ y, R[k + q / 2]? = some y := ⟨_, List.getElem?_eq_getElem (by omega)⟩
        obtain ⟨y0, y1⟩ := HPR.out.cell _ y hy
        rcases Nat.mod_two_eq_zero_or_one q with e | e
        · rw [show k * 2 + q = (k + q / 2) * 2 by omega, y0]; rfl
        · rw [show k * 2 + q = (k + q / 2) * 2 + 1 by omega, y1]; rfl
      obtain ⟨vs, hvs, hcl⟩ := run_clear_two (P := Try.prog) wr 64 67 0 (.string ⟨#[]⟩) (.slice none 0 0) Try.underlying64 zeroPl rfl rfl rfl b (k * 2) (j - k) (cap - k) hcs (fun q _ => HPR.out.free _)
      have HPE : Hid (PRow (wr.setCells b (k * 2) vs) b (someP G)) := by
        refine ⟨fun q e hq => ?_, fun q => by rw [World.frozen?_setCells]; exact HPR.out.free q, by have := (mv_cells (w := wr) (b := b) (o := k * 2) vs).size; exact Nat.lt_of_lt_of_le HPR.out.lt this⟩
        have hqk : q < k := by rw [HK.out]; exact (List.getElem?_eq_some_iff.1 hq).1
        rw [← HE.out, List.getElem?_take_of_lt hqk] at hq
        obtain ⟨y0, y1⟩ := HPR.out.cell q e hq
        exact ⟨(World.cell?_setCells_out b vs _ _ _ fun _ _ => .inl (by show q * 2 < k * 2; omega)).trans y0, (World.cell?_setCells_out b vs _ _ _ fun _ _ => .inl (by show q * 2 + 1 < k * 2; omega)).trans y1⟩
      have hMvE := hMv.trans (mv_cells (w := wr) (b := b) (o := k * 2) vs)
      clear hcs hvs HPR HR HE
      go_wp2
      go_ret
      exact ⟨by rw [← HK.out]; rfl, HPE.out, hMvE⟩
end Go.Proofs.Ytgmeecfdkcbggaa
namespace Go.Proofs.Ytgmeecfdkcbggaa
open Go.RowKit Go.Maps
theorem row_setCell {w : World} {base : Nat} {e : TypeId} {size g n cap : Nat} {xs : List Value} (h : w.ownsRow base e size (.slice (some ⟨g, 0, none⟩) n cap) n xs) (j : Nat) (u : Value) : (w.setCell ⟨g, j, none⟩ u).ownsRow base e size (.slice (some ⟨g, 0, none⟩) n cap) n (xs.set j u) := by
  refine ⟨by rw [List.length_set]; exact h.1, .inr ?_⟩
  rcases h.2 with ⟨e1, _⟩ | ⟨g', cap', cur, e1, hb, hg, h1, h2, h3, h4⟩
  · cases e1
  simp only [Value.slice.injEq, Option.some.injEq, Addr.mk.injEq, true_and] at e1
  obtain ⟨⟨rfl, _⟩, rfl⟩ := e1
  refine ⟨g, cap, cur.setIfInBounds j u, rfl, hb, ?_, h1, h2, by rw [Array.size_setIfInBounds]; exact h3, ?_⟩
  · obtain ⟨hlt, hk⟩ := Array.getElem?_eq_some_iff.1 hg
    show (w.heap.modify g _)[g]? = _
    rw [Array.getElem?_eq_getElem (by rw [Array.size_modify]; exact hlt), Array.getElem_modify_self, hk]
    rfl
  · rw [Array.toList_setIfInBounds, List.take_set, h4]
def plv : List Pe → List Value
  | [] => []
  | e :: r => .string e.n :: .slice e.a e.L.length e.c :: plv r
theorem plv_app : ∀ A B : List Pe, plv (A ++ B) = plv A ++ plv B
  | [], _ => rfl
  | e :: r, B => by simp [plv, plv_app r B]
theorem plv_at : ∀ (A : List Pe) (i : Nat) (e : Pe), A[i]? = some e → (plv A)[i * 2]? = some (.string e.n) ∧ (plv A)[i * 2 + 1]? = some (.slice e.a e.L.length e.c)
  | [], i, e, h => by simp at h
  | t :: A, 0, e, h => by simp at h; subst h; exact ⟨rfl, rfl⟩
  | t :: A, i + 1, e, h => by
    have := plv_at A i e (by simpa using h)
    rw [show (i + 1) * 2 = i * 2 + 2 by omega]
    simpa [plv] using this
theorem plv_one : ∀ (A : List Pe), ∀ u ∈ plv A, u.oneCell' = true
  | [], u, h => by cases h
  | e :: r, u, hu => by
    simp [plv] at hu
    rcases hu with rfl | rfl | hu
    · rfl
    · rfl
    · exact plv_one r u hu
theorem plv_set : ∀ (A : List Pe) (i : Nat) (e o : Pe), A[i]? = some o → o.n = e.n → plv (A.set i e) = (plv A).set (i * 2 + 1) (.slice e.a e.L.length e.c)
  | [], i, e, o, h, _ => by simp at h
  | t :: A, 0, e, o, h, hn => by
    simp at h
    subst h
    simp [plv, hn]
  | t :: A, i + 1, e, o, h, hn => by
    have := plv_set A i e o (by simpa using h) hn
    rw [show (i + 1) * 2 + 1 = i * 2 + 1 + 1 + 1 by omega]
    simp [plv, this]
/-- Where a name stands. -/
def idxN (nm : ByteArray) : List ByteArray → Nat → Option Nat
  | [], _ => none
  | x :: r, i => if x = nm then some i else idxN nm r (i + 1)
theorem idxN_no {nm : ByteArray} : ∀ {N : List ByteArray} {i : Nat}, nm ∉ N → idxN nm N i = none
  | [], _, _ => rfl
  | x :: r, i, h => by rw [idxN, if_neg (fun e => h (by rw [e]; exact List.mem_cons_self ..)), idxN_no fun e => h (List.mem_cons_of_mem _ e)]
theorem idxN_in {nm : ByteArray} : ∀ {N : List ByteArray} {i : Nat}, nm ∈ N → ∃ k, idxN nm N i = some (i + k) ∧ N[k]? = some nm
  | [], _, h => by cases h
  | x :: r, i, h => by
    rw [idxN]
    by_cases e : x = nm
    · rw [if_pos e]; exact ⟨0, rfl, by simp [e]⟩
    · rw [if_neg e]
      obtain ⟨k, h1, h2⟩ := idxN_in (i := i + 1) ((List.mem_cons.1 h).resolve_left fun q => e q.symm)
      exact ⟨k + 1, by rw [h1]; congr 1; omega, by simpa using h2⟩
theorem idxN_app {nm x : ByteArray} : ∀ {N : List ByteArray} {i : Nat}, idxN nm (N ++ [x]) i = (idxN nm N i).or (if x = nm then some (i + N.length) else none)
  | [], i => by
    show (if x = nm then some i else none) = (none : Option Nat).or (if x = nm then some (i + 0) else none)
    split <;> rfl
  | y :: r, i => by
    rw [List.cons_append, idxN, idxN]
    split
    · rfl
    · rw [idxN_app, List.length_cons, show i + 1 + r.length = i + (r.length + 1) by omega]
abbrev kN (nm : ByteArray) : Lit := .string nm.data.toList
theorem kN_inj {a b : ByteArray} (h : a ≠ b) : kN a ≠ kN b := fun e => h (by
  have e1 : a.data.toList = b.data.toList := by injection e
  have e2 : a.data = b.data := Array.toList_inj.1 e1
  cases a; cases b; simp at e2; rw [e2])
theorem kN_lit (nm : ByteArray) : WideAt.IsKeyLit (kN nm) := by simp [WideAt.IsKeyLit]
def TieN (D : DataW Unit) (N : List ByteArray) : Prop := IsMap D ∧ ∀ nm : ByteArray, Maps.has D (kN nm) = (idxN nm N 0).isSome ∧ D.atKey (kN nm) (.lit (.int .i64 0)) = .lit (.int .i64 (((idxN nm N 0).getD 0 : Nat) : Int))
theorem tieN_nil : TieN (.map []) [] := ⟨isMap_empty, fun _ => ⟨rfl, rfl⟩⟩
theorem tieN_put {D : DataW Unit} {N : List ByteArray} {x : ByteArray} (h : TieN D N) (hn : x ∉ N) : TieN (D.put (kN x) (.lit (.int .i64 (N.length : Int)))) (N ++ [x]) := by
  refine ⟨h.1.put _ _, fun nm => ?_⟩
  rw [idxN_app]
  by_cases e : x = nm
  · subst e
    rw [if_pos rfl, idxN_no hn, has_put_same h.1 (kN_lit _), atKey_put_same h.1 (kN_lit _)]
    exact ⟨rfl, by simp⟩
  · have hne := kN_inj fun q => e (Eq.symm q)
    rw [if_neg e, Option.or_none, has_put_other hne, atKey_put_other hne]
    exact h.2 nm
theorem keyS : Keyed Try.prog 9 := string_keyed Try.underlying9
theorem zeroI3 (w : World) : (zeroValue 3).run Try.prog w = .ok (.int .i64 0) w := by kernel_rfl
theorem omap_keep {w w' : World} {b n : Nat} {D : DataW Unit} (h : w.ownsMap Try.prog 9 (plainElem Try.prog 3) b n D) (hb : w'.heap[b]? = w.heap[b]?) : w'.ownsMap Try.prog 9 (plainElem Try.prog 3) b n D := by
  obtain ⟨es, clock, hh, r⟩ := h
  exact ⟨es, clock, hb.trans hh, r⟩
theorem omap_row {w : World} {b n base m : Nat} {D : DataW Unit} {t : TypeId} {size : Nat} {v : Value} {xs : List Value} (h : w.ownsMap Try.prog 9 (plainElem Try.prog 3) b n D) (hr : w.ownsRow base t size v m xs) : v.ownBlock ≠ some b := by
  obtain ⟨es, clock, hh, r⟩ := h
  rcases hr.2 with ⟨rfl, _⟩ | ⟨g, cap, cur, rfl, _, hg, _⟩
  · simp [Value.ownBlock]
  · intro e
    simp [Value.ownBlock] at e
    subst e
    rw [hh] at hg
    cases hg
theorem rows_ne {w : World} {b1 b2 n1 n2 s1 s2 : Nat} {t1 t2 : TypeId} {v1 v2 : Value} {x1 x2 : List Value} (ht : t1 ≠ t2) (h1 : w.ownsRow b1 t1 s1 v1 n1 x1) (h2 : w.ownsRow b2 t2 s2 v2 n2 x2) : v1.ownBlock = none ∨ v1.ownBlock ≠ v2.ownBlock := by
  rcases h1.2 with ⟨rfl, _⟩ | ⟨g, cap, cur, rfl, _, hg, _⟩
  · exact .inl rfl
  · right
    rcases h2.2 with ⟨rfl, _⟩ | ⟨g', cap', cur', rfl, _, hg', _⟩
    · simp [Value.ownBlock]
    · intro e
      simp [Value.ownBlock] at e
      subst e
      rw [hg] at hg'
      simp at hg'
      exact ht hg'.2
/-- What stands while kids are gone over. -/
structure PlJ (w W : World) (mb : Nat) (v : Value) (E : List Pe) : Prop where
  low : Below w.heap.size w W
  row : W.ownsRow w.heap.size 67 2 v E.length (plv E)
  each : ∀ e ∈ E, W.ownsRow w.heap.size 55 2 (.slice e.a e.L.length e.c) e.L.length (flatS e.L)
  apart : ∀ (i j : Nat) e f, E[i]? = some e → E[j]? = some f → i ≠ j → e.a ≠ f.a
  ne : ∀ e ∈ E, e.L ≠ []
  mp : ∃ D, W.ownsMap Try.prog 9 (plainElem Try.prog 3) mb E.length D ∧ TieN D (E.map (·.n))
  mlow : w.heap.size ≤ mb
theorem PlJ.keep {w W W' : World} {mb : Nat} {v : Value} {E : List Pe} (h : PlJ w W mb v E) (hb : Below W.heap.size W W') : PlJ w W' mb v E := by
  obtain ⟨D, h1, h2⟩ := h.mp
  exact ⟨h.low.trans (hb.mono h.low.size), ownsRow_bel h.row hb, fun e he => ownsRow_bel (h.each e he) hb, h.apart, h.ne, ⟨D, omap_keep h1 (hb.block mb h1.lt), h2⟩, h.mlow⟩
theorem own_some {w : World} {base : Nat} {t : TypeId} {a : Option Addr} {n cap size : Nat} {xs : List Value} (h : w.ownsRow base t size (.slice a n cap) n xs) (hn : 0 < n) : ∃ g, a = some ⟨g, 0, none⟩ ∧ base ≤ g ∧ g < w.heap.size := by
  rcases h.2 with ⟨_, h0⟩ | ⟨g, cap', cur, e, hb, hg, _⟩
  · omega
  · simp only [Value.slice.injEq, true_and] at e
    exact ⟨g, e.1, hb, (Array.getElem?_eq_some_iff.1 hg).1⟩
theorem PlJ.new {w W W1 W4 : World} {mb : Nat} {v v' : Value} {E : List Pe} {nm : ByteArray} {s : Sp} {D : DataW Unit} (h : PlJ w W mb v E) (hD : W1.ownsMap Try.prog 9 (plainElem Try.prog 3) mb (E.length + 1) D) (hT : TieN D (E.map (·.n) ++ [nm])) (hg1 : W.grownBy W1 (some mb))
    (hown : W4.ownsRow w.heap.size 67 2 v' (E.length + 1) (plv E ++ plv [⟨nm, some ⟨W1.heap.size, 0, none⟩, 1, [s]⟩]))
    (hg4 : ((W1.alloc (.cells #[.pointer (some ⟨s.b, s.p, none⟩), .int .i64 s.ly] 55)).alloc (.cells #[.string nm, .slice (some ⟨W1.heap.size, 0, none⟩) 1 1] 67)).grownBy W4 v.ownBlock) :
    PlJ w W4 mb v' (E ++ [⟨nm, some ⟨W1.heap.size, 0, none⟩, 1, [s]⟩]) := by
  have hs3 : ((W1.alloc (.cells #[.pointer (some ⟨s.b, s.p, none⟩), .int .i64 s.ly] 55)).alloc (.cells #[.string nm, .slice (some ⟨W1.heap.size, 0, none⟩) 1 1] 67)).heap.size = W1.heap.size + 1 + 1 := by rw [World.size_alloc, World.size_alloc]
  have hlow1 : w.heap.size ≤ W1.heap.size := Nat.le_trans h.low.size hg1.size
  have hvW : ∀ g, v.ownBlock = some g → w.heap.size ≤ g ∧ g < W.heap.size := fun g hg => ⟨(h.row.lt g hg).1, (h.row.lt g hg).2⟩
  -- what an elder block is
  have blk : ∀ k, k < W.heap.size → k ≠ mb → v.ownBlock ≠ some k → W4.heap[k]? = W.heap[k]? := fun k hk h1 h2 => by
    rw [hg4.block k (by rw [hs3]; have := hg1.size; omega) (fun e => h2 e.symm), Below.heap_alloc _ _ _ (by rw [World.size_alloc]; have := hg1.size; omega), Below.heap_alloc _ _ _ (by have := hg1.size; omega)]
    exact hg1.block k hk (by simpa using h1)
  obtain ⟨D0, hD0, _⟩ := h.mp
  have low4 : Below w.heap.size W W4 := ⟨hg4.os.trans hg1.os, hg4.tape.trans hg1.tape, hg4.output.trans hg1.output, by have h1 := hg4.size; rw [hs3] at h1; have := hg1.size; omega, fun k hk => blk k (Nat.lt_of_lt_of_le hk h.low.size) (fun e => by have := h.mlow; omega) (fun e => by have := (hvW k e).1; omega)⟩
  have hnew : ((W1.alloc (.cells #[.pointer (some ⟨s.b, s.p, none⟩), .int .i64 s.ly] 55))).ownsRow w.heap.size 55 2 (.slice (some ⟨W1.heap.size, 0, none⟩) 1 1) 1 (flatS [s]) :=
    ⟨rfl, .inr ⟨W1.heap.size, 1, #[.pointer (some ⟨s.b, s.p, none⟩), .int .i64 s.ly], rfl, hlow1, heap_alloc_new W1 _, Nat.le_refl _, by decide, rfl, rfl⟩⟩
  refine ⟨h.low.trans low4, ?_, ?_, ?_, ?_, ?_, h.mlow⟩
  · rw [List.length_append, plv_app]; exact hown
  · intro e he
    rcases List.mem_append.1 he with he | he
    · have hr := h.each e he
      refine owns_keep hr fun g hg => ?_
      have hn := omap_row hD0 hr
      have hne := rows_ne (show 55 ≠ 67 by decide) hr h.row
      refine blk g (hr.lt g hg).2 (fun e1 => hn (by rw [hg, e1])) (fun e1 => ?_)
      rcases hne with q | q
      · rw [hg] at q; cases q
      · exact q (hg.trans e1.symm)
    · rw [List.mem_singleton] at he
      subst he
      refine (hnew.alloc _).kept hg4 (.inr fun e1 => ?_)
      have h1 := (hvW W1.heap.size (by rw [← e1]; rfl)).2
      have := hg1.size
      omega
  · intro i j e f hi hj hij
    have key : ∀ (i : Nat) e, E[i]? = some e → e.a ≠ some ⟨W1.heap.size, 0, none⟩ := fun i e hi e1 => by
      have hr := h.each e (List.mem_of_getElem? hi)
      obtain ⟨g, e2, _, h3⟩ := own_some hr (List.length_pos_iff.2 (h.ne e (List.mem_of_getElem? hi)))
      rw [e1] at e2
      simp only [Option.some.injEq, Addr.mk.injEq] at e2
      have := hg1.size
      omega
    rw [List.getElem?_append] at hi hj
    split at hi
    · split at hj
      · exact h.apart i j e f hi hj hij
      · rw [List.getElem?_singleton] at hj
        split at hj
        · cases hj; exact key i e hi
        · cases hj
    · rename_i hil
      rw [List.getElem?_singleton] at hi
      split at hi
      · cases hi
        split at hj
        · exact fun e1 => key j f hj e1.symm
        · rw [List.getElem?_singleton] at hj
          split at hj
          · omega
          · cases hj
      · cases hi
  · intro e he
    rcases List.mem_append.1 he with he | he
    · exact h.ne e he
    · rw [List.mem_singleton] at he
      subst he
      simp
  · refine ⟨D, ?_, by rw [List.map_append]; exact hT⟩
    rw [List.length_append]
    refine omap_keep hD ?_
    have hmb := hD0.lt
    rw [hg4.block mb (by rw [hs3]; have := hg1.size; omega) (fun e => omap_row hD0 h.row e.symm), Below.heap_alloc _ _ _ (by rw [World.size_alloc]; have := hg1.size; omega), Below.heap_alloc _ _ _ (by have := hg1.size; omega)]
theorem PlJ.add {w W W2 : World} {mb rb cap : Nat} {E : List Pe} {i : Nat} {e : Pe} {s : Sp} {a2 : Option Addr} {c2 : Nat} (h : PlJ w W mb (.slice (some ⟨rb, 0, none⟩) E.length cap) E) (hi : E[i]? = some e)
    (hown : W2.ownsRow w.heap.size 55 2 (.slice a2 (e.L.length + 1) c2) (e.L.length + 1) (flatS e.L ++ flatS [s])) (hg : (W.alloc (.cells #[.pointer (some ⟨s.b, s.p, none⟩), .int .i64 s.ly] 55)).grownBy W2 (Value.slice e.a e.L.length e.c).ownBlock)
    (ho : (Value.slice a2 (e.L.length + 1) c2).ownBlock = (Value.slice e.a e.L.length e.c).ownBlock ∨ (Value.slice a2 (e.L.length + 1) c2).ownBlock = some (W.alloc (.cells #[.pointer (some ⟨s.b, s.p, none⟩), .int .i64 s.ly] 55)).heap.size) :
    PlJ w (W2.setCell ⟨rb, i * 2 + 1, none⟩ (.slice a2 (e.L.length + 1) c2)) mb (.slice (some ⟨rb, 0, none⟩) E.length cap) (E.set i ⟨e.n, a2, c2, e.L ++ [s]⟩) := by
  have hm := List.mem_of_getElem? hi
  have hre := h.each e hm
  have hpos := List.length_pos_iff.2 (h.ne e hm)
  obtain ⟨ge, ea, hge1, hge2⟩ := own_some hre hpos
  obtain ⟨g2, ea2, hg21, hg22⟩ := own_some hown (by omega)
  rw [World.size_alloc] at ho
  rw [ea, ea2] at ho
  simp only [Value.ownBlock, Option.some.injEq] at ho
  rw [ea] at hg
  simp only [Value.ownBlock] at hg
  have hilt := (List.getElem?_eq_some_iff.1 hi).1
  obtain ⟨rr, er, hrb1, hrb2⟩ := own_some h.row (by omega)
  simp only [Option.some.injEq, Addr.mk.injEq] at er
  obtain ⟨er, _⟩ := er
  subst er
  have hrbe : rb ≠ ge := fun q => by
    rcases rows_ne (show 67 ≠ 55 by decide) h.row hre with e1 | e1
    · cases e1
    · exact e1 (by rw [ea]; show some rb = some ge; rw [q])
  obtain ⟨D, hD, hT⟩ := h.mp
  have hmbe : mb ≠ ge := fun q => omap_row hD hre (by rw [ea, q]; rfl)
  have hmbr : mb ≠ rb := fun q => omap_row hD h.row (by rw [q]; rfl)
  have hsz2 := hg.size
  rw [World.size_alloc] at hsz2
  have blk : ∀ k, k < W.heap.size → k ≠ ge → W2.heap[k]? = W.heap[k]? := fun k hk h1 => by
    rw [hg.block k (by rw [World.size_alloc]; omega) (by simpa using h1), Below.heap_alloc _ _ _ hk]
  have blk2 : ∀ k, k < W.heap.size → k ≠ ge → k ≠ rb → (W2.setCell ⟨rb, i * 2 + 1, none⟩ (.slice a2 (e.L.length + 1) c2)).heap[k]? = W.heap[k]? := fun k hk h1 h2 => by
    rw [Below.heap_setCell _ _ _ _ (by exact h2)]; exact blk k hk h1
  have hrbg2 : g2 ≠ rb := by
    rcases ho with q | q
    · rw [q]; exact fun e1 => hrbe e1.symm
    · rw [q]; omega
  have low2 : Below w.heap.size W W2 := ⟨hg.os, hg.tape, hg.output, by omega, fun k hk => blk k (Nat.lt_of_lt_of_le hk h.low.size) (by omega)⟩
  refine ⟨h.low.trans (low2.setCell (p := ⟨rb, i * 2 + 1, none⟩) hrb1 _), ?_, ?_, ?_, ?_, ?_, h.mlow⟩
  · rw [List.length_set, plv_set E i ⟨e.n, a2, c2, e.L ++ [s]⟩ e hi rfl, show (e.L ++ [s]).length = e.L.length + 1 by simp]
    exact row_setCell (owns_keep h.row fun k hk => by
      simp [Value.ownBlock] at hk
      subst hk
      exact blk rb hrb2 hrbe) _ _
  · intro f hf
    obtain ⟨j, hj⟩ := List.getElem?_of_mem hf
    rw [List.getElem?_set] at hj
    split at hj
    · cases hj
      · show World.ownsRow _ _ _ _ (.slice a2 (e.L ++ [s]).length c2) (e.L ++ [s]).length (flatS (e.L ++ [s]))
        rw [flatS_app, show (e.L ++ [s]).length = e.L.length + 1 by simp]
        exact owns_keep hown fun k hk => by
          rw [ea2] at hk
          simp [Value.ownBlock] at hk
          subst hk
          exact Below.heap_setCell _ _ _ _ (by exact hrbg2)
    · rename_i hij
      have hr := h.each f (List.mem_of_getElem? hj)
      obtain ⟨gf, ef, hf1, hf2⟩ := own_some hr (List.length_pos_iff.2 (h.ne f (List.mem_of_getElem? hj)))
      have hfe : gf ≠ ge := fun q => h.apart j i f e hj hi (fun q => hij q.symm) (by rw [ef, ea, q])
      have hfr : gf ≠ rb := fun q => by
        rcases rows_ne (show 67 ≠ 55 by decide) h.row hr with e1 | e1
        · cases e1
        · exact e1 (by rw [ef]; show some rb = some gf; rw [q])
      refine owns_keep hr fun k hk => ?_
      rw [ef] at hk
      simp [Value.ownBlock] at hk
      subst hk
      exact blk2 _ hf2 hfe hfr
  · -- rows lie apart
    have key : ∀ (j : Nat) f, E[j]? = some f → j ≠ i → f.a ≠ a2 := fun j f hj hji e1 => by
      have hr := h.each f (List.mem_of_getElem? hj)
      obtain ⟨gf, ef, hf1, hf2⟩ := own_some hr (List.length_pos_iff.2 (h.ne f (List.mem_of_getElem? hj)))
      rw [ef, ea2] at e1
      simp only [Option.some.injEq, Addr.mk.injEq] at e1
      rcases ho with q | q
      · exact h.apart j i f e hj hi hji (by rw [ef, ea]; simp)
      · omega
    intro p q f f' hp hq hpq
    rw [List.getElem?_set] at hp hq
    split at hp
    · rename_i e1
      cases hp
      split at hq
      · omega
      · exact fun e2 => key q f' hq (by omega) e2.symm
    · split at hq
      · cases hq
        exact key p f hp (by omega)
      · exact h.apart p q f f' hp hq hpq
  · intro f hf
    obtain ⟨j, hj⟩ := List.getElem?_of_mem hf
    rw [List.getElem?_set] at hj
    split at hj
    · cases hj; simp
    · exact h.ne f (List.mem_of_getElem? hj)
  · refine ⟨D, ?_, ?_⟩
    · rw [List.length_set]
      exact omap_keep hD (blk2 mb hD.lt hmbe hmbr)
    · have e1 : (E.set i ⟨e.n, a2, c2, e.L ++ [s]⟩).map (·.n) = E.map (·.n) := by
        rw [List.map_set]
        apply List.ext_getElem?
        intro j
        rw [List.getElem?_set]
        split
        · rename_i e2
          subst e2
          obtain ⟨hlt, ee⟩ := List.getElem?_eq_some_iff.1 hi
          simp [hlt, ee]
        · rfl
      rw [e1]; exact hT
theorem PlJ.start {w W : World} {mb : Nat} (hl : Below w.heap.size w W) (hm : w.heap.size ≤ mb) {D : DataW Unit} (hD : W.ownsMap Try.prog 9 (plainElem Try.prog 3) mb 0 D) (hT : TieN D []) : PlJ w W mb (.slice none 0 0) [] :=
  ⟨hl, World.ownsRow_nil _ _ _ _, fun e he => (by cases he), fun i j e f hi => (by simp at hi), fun e he => (by cases he), ⟨D, hD, hT⟩, hm⟩
end Go.Proofs.Ytgmeecfdkcbggaa
namespace Go.Proofs.Ytgmeecfdkcbggaa
open Go.RowKit
/-- A node with its layer. -/
structure Fl where
  x : Nd
  h : Hd
  ly : Nat
def Fl.pr (f : Fl) : Nd × Nat := (f.x, f.ly)
def FlAt (c : Mem) (b p : Nat) (f : Fl) : Prop := NAt c b p f.x f.h ∧ c ⟨b, p + 8, none⟩ = some (.int .i64 f.ly)
def FlRow (base : Nat) (c : Mem) (a : Option Addr) (F : List Fl) : Prop := F = [] ∨ ∃ b off, a = some ⟨b, off, none⟩ ∧ base ≤ b ∧ ∀ i f, F[i]? = some f → FlAt c b (off + i * 9) f
def FlL (base : Nat) (c cN : Mem) (v : Value) (l : List (Nd × Nat)) : Prop := ∃ (a : Option Addr) (cap : Nat) (F : List Fl), v = .slice a F.length cap ∧ F.length ≤ cap ∧ cap ≤ 9223372036854775807 ∧ FlRow base c a F ∧ (∀ f ∈ F, NdV cN f.x f.h) ∧ F.map Fl.pr = l
theorem FlAt.on {c c' : Mem} {b p : Nat} {f : Fl} (h : FlAt c b p f) (hb : MLe c c') : FlAt c' b p f := ⟨h.1.on hb, hb _ _ h.2⟩
theorem FlRow.on {base base' : Nat} {c c' : Mem} {a : Option Addr} {F : List Fl} (h : FlRow base c a F) (hl : base' ≤ base) (hb : MLe c c') : FlRow base' c' a F := by
  rcases h with e | ⟨b, off, e, h0, h⟩
  · exact .inl e
  · exact .inr ⟨b, off, e, Nat.le_trans hl h0, fun i f hi => (h i f hi).on hb⟩
theorem FlL.on {base base' : Nat} {c c' cN : Mem} {v : Value} {l : List (Nd × Nat)} (h : FlL base c cN v l) (hl : base' ≤ base) (hb : MLe c c') : FlL base' c' cN v l := by
  obtain ⟨a, cap, F, h1, h2, h3, h4, h5, h6⟩ := h
  exact ⟨a, cap, F, h1, h2, h3, h4.on hl hb, h5, h6⟩
theorem FlL.take {base : Nat} {c cN : Mem} {a : Option Addr} {cap : Nat} {F : List Fl} (h2 : F.length ≤ cap) (h3 : cap ≤ 9223372036854775807) (h4 : FlRow base c a F) (h5 : ∀ f ∈ F, NdV cN f.x f.h) (n : Nat) (hn : n ≤ F.length) : FlL base c cN (.slice a n cap) ((F.map Fl.pr).take n) := by
  refine ⟨a, cap, F.take n, by rw [List.length_take, Nat.min_eq_left hn], by rw [List.length_take, Nat.min_eq_left hn]; omega, h3, ?_, fun f hf => h5 f (List.mem_of_mem_take hf), List.map_take⟩
  rcases h4 with e | ⟨b, off, e, h0, h⟩
  · subst e; exact .inl (by simp)
  · refine .inr ⟨b, off, e, h0, fun i f hi => h i f ?_⟩
    rw [List.getElem?_take] at hi
    split at hi
    · exact hi
    · cases hi
def PlainP (L : List (Nd × Nat)) : Prop := ∀ s ∈ L, s.1.kind = 2 ∧ s.1.opq = false
theorem dirP_app {L : List (Nd × Nat)} (h : PlainP L) (r : List (Nd × Nat)) : dirP (L ++ r) = L ++ dirP r := by
  induction L with
  | nil => rfl
  | cons s L ih =>
    have h1 := h s (List.mem_cons_self ..)
    rw [List.cons_append, dirP, if_neg (by rw [h1.1]; simp), if_neg (by rw [h1.2]; simp), ih fun t ht => h t (List.mem_cons_of_mem _ ht)]
    rfl
theorem take_nextM {α : Type} {l : List α} {n : Nat} {x : α} (h : l[n]? = some x) : l = l.take n ++ x :: l.drop (n + 1) := by
  obtain ⟨hlt, e⟩ := List.getElem?_eq_some_iff.1 h
  have e2 := List.drop_eq_getElem_cons hlt
  rw [e] at e2
  rw [← e2, List.take_append_drop]
set_option maxRecDepth 100000 in
set_option maxHeartbeats 2000000 in
theorem rshown_any {base : Nat} {w : World} {cN : Mem} {v : Value} {l : List (Nd × Nat)} (hv : FlL base w.cell? cN v l) (hlen : l.length ≤ 1000) :
    Calls Try.prog 36 #[v] w fun e w' => (∃ v', e = .returned v' ∧ FlL base w.cell? cN v' (shP l)) ∧ w' = w := by
  obtain ⟨a, cap, F, rfl, g1, g2, g3, g4, g5⟩ := hv
  have HT : Hid (∀ n, n ≤ F.length → FlL base w.cell? cN (.slice a n cap) (l.take n)) := fun n hn => by rw [← g5]; exact FlL.take g1 g2 g3 g4 n hn
  have hFl : F.length = l.length := by rw [← g5, List.length_map]
  have HC : Hid (∀ (i : Nat) q, l[i]? = some q → ∃ b off, a = some ⟨b, off, none⟩ ∧ w.cell? ⟨b, off + i * 9, none⟩ = some (.int .i64 q.1.kind) ∧ w.cell? ⟨b, off + i * 9 + 4, none⟩ = some (.bool q.1.opq)) := fun i q hi => by
    rw [← g5, List.getElem?_map] at hi
    obtain ⟨f, hf, rfl⟩ := Option.map_eq_some_iff.1 hi
    rcases g3 with e | ⟨b, off, e, _, h⟩
    · subst e; simp at hf
    · have h1 := (h i f hf).1
      refine ⟨b, off, e, ?_, ?_⟩
      · obtain ⟨⟨k, m, u, g, o, at_, d, ks⟩, hh, ly⟩ := f
        exact h1.split.1
      · obtain ⟨⟨k, m, u, g, o, at_, d, ks⟩, hh, ly⟩ := f
        exact h1.split.2.1
  obtain ⟨N, HN⟩ : ∃ N, Hid (F.length = N) := ⟨_, rfl⟩
  rw [HN.out] at HT hFl g1 ⊢
  have HFL : Hid (N = l.length) := hFl
  have hN : N ≤ 1000 := by omega
  clear g3 g4 g5 HN hFl hlen
  cases hl : l with
  | nil =>
    subst hl
    obtain rfl : N = 0 := HFL.out
    have HR : Hid (FlL base w.cell? cN (.slice a 0 cap) (shP [])) := HT.out 0 (Nat.le_refl _)
    clear HT HC HFL
    go_enter Try.func36, Try.ntmps36
    go_wp2
    go_loop [3] (fun i => i = .int .i64 0) (fun _ => 0)
    case atStart => rfl
    case round =>
      subst hrel
      go_wp2
      go_ret
      exact ⟨⟨_, rfl, HR.out⟩, rfl⟩
  | cons q r =>
    obtain ⟨b, off, rfl, c0, c1⟩ := HC.out 0 q (by rw [hl]; rfl)
    have hNp : 0 < N := by rw [HFL.out, hl]; simp
    rw [Nat.zero_mul, Nat.add_zero] at c0
    by_cases hk1 : q.1.kind = 1
    · have HR : Hid (FlL base w.cell? cN (.slice (some ⟨b, off, none⟩) 1 cap) (shP (q :: r))) := by
        have h := HT.out 1 hNp
        rw [hl] at h
        rw [shP, if_pos hk1]
        exact h
      rw [hk1] at c0
      clear HT HC HFL hl c1
      go_enter Try.func36, Try.ntmps36
      go_wp2
      go_ret
      exact ⟨⟨_, rfl, HR.out⟩, rfl⟩
    · have HSH : Hid (shP (q :: r) = dirP l) := by show _ = _; rw [shP, if_neg hk1, hl]
      rw [HSH.out]
      have HL : Hid (l = q :: r) := hl
      generalize hkk : q.1.kind = kk at *
      clear hl c1 HL
      go_enter Try.func36, Try.ntmps36
      go_wp2
      go_loop [3] (fun i => ∃ n : Nat, n ≤ N ∧ i = .int .i64 n ∧ Hid (PlainP (l.take n))) (fun i => N - (intOf i).toNat)
      case atStart => exact ⟨0, Nat.zero_le _, rfl, fun s hs => by cases hs⟩
      case round =>
        obtain ⟨n, hn, rfl, HP⟩ := hrel
        by_cases hnl : n < N
        rotate_left
        · have hb : decide ((n : Int) < (N : Int)) = false := decide_eq_false (by omega)
          have HR : Hid (FlL base w.cell? cN (.slice (some ⟨b, off, none⟩) n cap) (dirP l)) := by
            have h := HT.out n hn
            have e := dirP_app HP.out []
            rw [List.append_nil, dirP, List.append_nil, List.take_of_length_le (by rw [← HFL.out]; omega)] at e
            rw [List.take_of_length_le (by rw [← HFL.out]; omega)] at h
            rw [e]; exact h
          go_wp2
          go_ret
          exact ⟨⟨_, rfl, HR.out⟩, rfl⟩
        · have hb : decide ((n : Int) < (N : Int)) = true := decide_eq_true (by omega)
          obtain ⟨p, hp⟩ : ∃ p, l[n]? = some p := ⟨_, List.getElem?_eq_getElem (by rw [← HFL.out]; exact hnl)⟩
          obtain ⟨b', off', e, d0, d1⟩ := HC.out n p hp
          simp only [Option.some.injEq, Addr.mk.injEq] at e
          obtain ⟨rfl, rfl, _⟩ := e
          have HX : Hid (dirP l = l.take n ++ dirP (p :: l.drop (n + 1))) := by
            show _ = _
            conv => lhs; rw [take_nextM hp]
            exact dirP_app HP.out _
          have HK2 : Hid (l.take (n + 1) = l.take n ++ [p]) := by show _ = _; rw [List.take_add_one, hp]; rfl
          by_cases hp2 : p.1.kind = 2
          rotate_left
          · have HR : Hid (FlL base w.cell? cN (.slice (some ⟨b, off, none⟩) n cap) (dirP l)) := by
              have h := HT.out n hn
              rw [HX.out, dirP, if_pos hp2, List.append_nil]
              exact h
            generalize p.1.kind = pk at *
            clear hp HX HK2
            go_wp2
            go_ret
            exact ⟨⟨_, rfl, HR.out⟩, rfl⟩
          · rw [hp2] at d0
            by_cases ho : p.1.opq = true
            · have HR : Hid (FlL base w.cell? cN (.slice (some ⟨b, off, none⟩) (n + 1) cap) (dirP l)) := by
                have h := HT.out (n + 1) hnl
                rw [HX.out, dirP, if_neg (by rw [hp2]; simp), if_pos ho, ← HK2.out]
                exact h
              rw [ho] at d1
              clear hp HX HK2 HT
              go_wp2
              go_ret
              exact ⟨⟨_, rfl, HR.out⟩, rfl⟩
            · have hof : p.1.opq = false := by simpa using ho
              rw [hof] at d1
              have HP2 : Hid (PlainP (l.take (n + 1))) := fun s hs => by
                rw [HK2.out] at hs
                rcases List.mem_append.1 hs with e | e
                · exact HP.out s e
                · rw [List.mem_singleton] at e; rw [e]; exact ⟨hp2, hof⟩
              clear hp HX HK2 HP
              go_wp2
              go_round
              case rel => exact ⟨n + 1, by omega, by go_num, HP2.out⟩
              case measure => (simp [intOf]; try omega)
end Go.Proofs.Ytgmeecfdkcbggaa
