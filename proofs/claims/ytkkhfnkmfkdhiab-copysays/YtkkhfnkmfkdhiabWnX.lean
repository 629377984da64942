/-
  WHAT slices.Grow AND slices.Concat OF KIDS DO: the walks.
  WHAT THE CLOSURES OF Cut AND Put DO: the walks.
  A WAY DOWN A TREE, whose lists become new: the facts of no program.
-/
import Derived.Test.YtkkhfnkmfkdhiabWiY
import Derived.Lib.AppendZeros
import Derived.Test.YtkkhfnkmfkdhiabWmY
import Derived.Deep.RegionHeld3
namespace Go.Proofs.Ytkkhfnkmfkdhiab
open Go.RowKit

theorem zeroK_size (n : Nat) : (Builtin.zeroCells zK.cells n).size = n * 9 := by rw [size_zeroCells]; rfl

set_option maxRecDepth 100000 in
set_option maxHeartbeats 1000000 in
theorem growK_any (n : Nat) (w : World) (hn : n ≤ 1000) : Calls Try.prog 82 #[.slice none 0 0, .int .i64 n] w fun e w' => (∃ v, e = .returned v ∧ w'.ownsRow w.heap.size 102 9 v 0 (kfl [])) ∧ Below w.heap.size w w' := by
  by_cases h0 : n = 0
  · subst h0
    go_enter Try.func82, Try.ntmps82
    go_wp2
    go_ret
    exact ⟨⟨_, rfl, World.ownsRow_nil _ _ _ _⟩, Below.refl _ _⟩
  obtain ⟨i0, hi0, hz0, hz1, hz2⟩ := info_three Try.infoK
  have hr : ∀ ty, (Builtin.append_ #[23, 3] ty #[.slice none 0 0, .int .i64 n]).run Try.prog w = .ok (.slice (some ⟨w.heap.size, 0, none⟩) n (grownCap w n 0 102)) (w.drew.alloc (.cells (Builtin.zeroCells zK.cells n ++ Builtin.zeroCells zK.cells (grownCap w n 0 102 - n)) 102)) := fun ty => Lib.run_append_nil_zeros w 23 3 ty 102 i0 _ .i64 .i64 Try.underlying23 Try.underlying3 hi0 hz0 n (by omega) (by rw [hz1]; decide) (by omega) (by rw [hz2]; omega)
  have hge : n ≤ grownCap w n 0 102 := grownCap_ge w n 0 102
  have hle : grownCap w n 0 102 ≤ maxLen := grownCap_le_maxLen w n 0 102 (by unfold maxLen; omega)
  have hrow : (w.drew.alloc (.cells (Builtin.zeroCells zK.cells n ++ Builtin.zeroCells zK.cells (grownCap w n 0 102 - n)) 102)).ownsRow w.heap.size 102 9 (.slice (some ⟨w.heap.size, 0, none⟩) 0 (grownCap w n 0 102)) 0 [] :=
    World.ownsRow_made w.drew _ _ (Nat.le_refl _) hle (by rw [Array.size_append, zeroK_size, zeroK_size]; omega)
  have hB : Below w.heap.size w (w.drew.alloc (.cells (Builtin.zeroCells zK.cells n ++ Builtin.zeroCells zK.cells (grownCap w n 0 102 - n)) 102)) := (below_drewN (Below.refl _ w) 1).alloc (Nat.le_refl _) _
  generalize w.drew.alloc (.cells (Builtin.zeroCells zK.cells n ++ Builtin.zeroCells zK.cells (grownCap w n 0 102 - n)) 102) = w1 at hr hrow hB
  generalize grownCap w n 0 102 = c at hr hge hle hrow
  have hn0 : decide (0 < n) = true := decide_eq_true (by omega)
  have hn1 : decide (0 < (n : Int)) = true := decide_eq_true (by omega)
  unfold maxLen at hle
  clear hi0 hz0 hz1 hz2
  go_enter Try.func82, Try.ntmps82
  go_wp2_with (at_builtin; refine Lib.wpList_append_run _ rfl _ _ _ _ rfl _ _ rfl rfl _ _ (hr _) ?_)
  go_wp2
  go_ret
  exact ⟨⟨_, rfl, hrow⟩, hB⟩

/-- A part: where it lies, its room, what it has. -/
structure Pt where
  a : Option Addr
  c : Nat
  l : Khs
/-- All that the parts have. -/
def parts : List Pt → Khs
  | [] => []
  | p :: ps => p.l ++ parts ps
theorem parts_append : ∀ A B : List Pt, parts (A ++ B) = parts A ++ parts B
  | [], _ => rfl
  | p :: A, B => by simp [parts, parts_append A B]
theorem parts_succ {ps : List Pt} {k : Nat} {p : Pt} (h : ps[k]? = some p) : parts (ps.take (k + 1)) = parts (ps.take k) ++ p.l := by
  rw [List.take_add_one, h, parts_append]; simp [parts]
theorem parts_le (ps : List Pt) (k : Nat) : (parts (ps.take k)).length ≤ (parts ps).length := by
  have := parts_append (ps.take k) (ps.drop k)
  rw [List.take_append_drop] at this
  rw [this, List.length_append]; omega

set_option maxRecDepth 100000 in
set_option maxHeartbeats 1000000 in
theorem concatK_any (bs cp : Nat) (ps : List Pt) (w : World) (hm : ps.length ≤ 10) (hl : (parts ps).length ≤ 1000)
    (hc : ∀ i p, ps[i]? = some p → w.cell? ⟨bs, i, none⟩ = some (.slice p.a p.l.length p.c) ∧ KsH w.cell? p.a p.l) :
    Calls Try.prog 74 #[.slice (some ⟨bs, 0, none⟩) ps.length cp] w fun e w' => (∃ v, e = .returned v ∧ w'.ownsRow w.heap.size 102 9 v (parts ps).length (kfl (parts ps))) ∧ Below w.heap.size w w' := by
  obtain ⟨i0, hi0, hz0, hz1, hz2⟩ := info_three Try.infoK
  have HC : Hid (∀ i p, ps[i]? = some p → w.cell? ⟨bs, i, none⟩ = some (.slice p.a p.l.length p.c) ∧ KsH w.cell? p.a p.l) := hc
  have HL : Hid (∀ k, (parts (ps.take k)).length ≤ (parts ps).length) := parts_le ps
  clear hc
  go_enter Try.func74, Try.ntmps74
  go_wp2
  go_loop [11, 3] (fun i s => ∃ k : Nat, k ≤ ps.length ∧ i = .int .i64 k ∧ s = .int .i64 (parts (ps.take k)).length) (fun i _ => ps.length - (intOf i).toNat)
  case atStart => exact ⟨0, Nat.zero_le _, rfl, rfl⟩
  case round =>
    obtain ⟨k, hk, rfl, rfl⟩ := hrel
    by_cases hlt : k < ps.length
    · obtain ⟨p, hp⟩ : ∃ p, ps[k]? = some p := ⟨ps[k], by simp [hlt]⟩
      obtain ⟨q, _⟩ := HC.out k p hp
      have hki : (k : Int) < (ps.length : Int) := by omega
      have HS : Hid (parts (ps.take (k + 1)) = parts (ps.take k) ++ p.l) := parts_succ hp
      have h2 : (parts (ps.take k)).length + p.l.length ≤ 1000 := by
        have := HL.out (k + 1)
        rw [HS.out, List.length_append] at this; omega
      have HS2 : Hid ((parts (ps.take (k + 1))).length = (parts (ps.take k)).length + p.l.length) := by show _ = _; rw [HS.out, List.length_append]
      clear hp HS
      generalize (parts (ps.take k)).length = s at h2 HS2 ⊢
      go_wp2
      go_round
      case rel => exact ⟨k + 1, by omega, by go_num, by rw [HS2.out]; go_num⟩
      case measure => simp [intOf]; omega
    · have e1 : ps.take k = ps := List.take_of_length_le (by omega)
      rw [e1]
      clear e1
      go_wp2_with fail
      refine (growK_any _ _ hl).mono ?_
      rintro e w1 ⟨⟨v, rfl, hown⟩, hB⟩
      go_wp2
      go_loopw [27, 6] (fun i s wr => ∃ k : Nat, k ≤ ps.length ∧ i = .int .i64 k ∧ wr.ownsRow w.heap.size 102 9 s (parts (ps.take k)).length (kfl (parts (ps.take k))) ∧ Below w.heap.size w wr) (fun i _ _ => ps.length - (intOf i).toNat)
      case atStart => exact ⟨0, Nat.zero_le _, rfl, hown, hB⟩
      case round =>
        obtain ⟨k, hk, rfl, hown, hB⟩ := hrel
        by_cases hlt : k < ps.length
        · obtain ⟨p, hp⟩ : ∃ p, ps[k]? = some p := ⟨ps[k], by simp [hlt]⟩
          obtain ⟨q, hK⟩ := HC.out k p hp
          have hki : (k : Int) < (ps.length : Int) := by omega
          have HS : Hid (parts (ps.take (k + 1)) = parts (ps.take k) ++ p.l) := parts_succ hp
          have h2 : (parts (ps.take k)).length + p.l.length ≤ 1000 := by
            have := HL.out (k + 1)
            rw [HS.out, List.length_append] at this; omega
          have q2 : wr.cell? ⟨bs, k, none⟩ = some (.slice p.a p.l.length p.c) := (hB.cell (p := ⟨bs, k, none⟩) (World.block_lt_of_cell? _ _ q)).trans q
          have hb1 := hB.size
          have hK1 := hK.on (mle_below hB)
          clear hp q hK
          generalize parts (ps.take k) = P at h2 HS hown ⊢
          go_wp2_with (at_builtin; refine wpList_append_src _ rfl (.tmp 31) (.tmp 32) 23 rfl w.heap.size 102 i0 zK 9 120 Try.underlying23 hi0 hz0 hz1 hz2 rfl (by decide) _ P.length (kfl P) rfl hown p.a p.l.length p.c (kfl p.l) rfl (kfl_length p.l) (src_of_ksH hK1) (kfl_one _) (by unfold maxLen; omega) (by omega) hb1 ?_)
          intro v2 w4 hown4 hgrow4 _
          have hB4 := hB.grown hgrow4 hb1 (fun q e => (hown.lt q e).1)
          clear hgrow4 hown hB hb1
          go_wp2
          go_roundw
          case rel => exact ⟨k + 1, by omega, by go_num, by rw [HS.out, List.length_append, kfl_append]; exact hown4, hB4⟩
          case measure => simp [intOf]; omega
        · have e1 : ps.take k = ps := List.take_of_length_le (by omega)
          rw [e1] at hown
          clear e1
          go_wp2
          go_ret
          exact ⟨⟨_, rfl, hown⟩, hB⟩
end Go.Proofs.Ytkkhfnkmfkdhiab

namespace Go.Proofs.Ytkkhfnkmfkdhiab
open Go.RowKit

theorem kfl_take (L : Khs) (k : Nat) : kfl (L.take k) = (kfl L).take (k * 9) := by
  by_cases hk : k ≤ L.length
  · have h := kfl_append (L.take k) (L.drop k)
    rw [List.take_append_drop] at h
    have hl : (kfl (L.take k)).length = k * 9 := by rw [kfl_length, List.length_take, Nat.min_eq_left hk]
    conv => rhs; rw [h, ← hl, List.take_left]
  · have h1 : L.take k = L := List.take_of_length_le (by omega)
    have h2 : (kfl L).take (k * 9) = kfl L := List.take_of_length_le (by rw [kfl_length]; omega)
    rw [h1, h2]
theorem kfl_drop (L : Khs) (k : Nat) : kfl (L.drop k) = (kfl L).drop (k * 9) := by
  by_cases hk : k ≤ L.length
  · have h := kfl_append (L.take k) (L.drop k)
    rw [List.take_append_drop] at h
    have hl : (kfl (L.take k)).length = k * 9 := by rw [kfl_length, List.length_take, Nat.min_eq_left hk]
    conv => rhs; rw [h, ← hl, List.drop_left]
  · have h1 : L.drop k = [] := List.drop_of_length_le (by omega)
    have h2 : (kfl L).drop (k * 9) = [] := List.drop_of_length_le (by rw [kfl_length]; omega)
    rw [h1, h2]; rfl
theorem KsH.take {c : Mem} {a : Option Addr} {L : Khs} (h : KsH c a L) (k : Nat) : KsH c a (L.take k) := by
  obtain ⟨h1, h2⟩ := h
  refine ⟨?_, fun e he => h2 e (List.mem_of_mem_take he)⟩
  rcases h1 with rfl | ⟨b, off, ha, hc⟩
  · exact .inl (by simp)
  · refine .inr ⟨b, off, ha, fun j u hj => hc j u ?_⟩
    rw [kfl_take, List.getElem?_take] at hj
    split at hj
    · exact hj
    · cases hj
theorem KsH.drop {c : Mem} {a : Option Addr} {L : Khs} (h : KsH c a L) (k : Nat) : KsH c (a.map (·.add (k * 9))) (L.drop k) := by
  obtain ⟨h1, h2⟩ := h
  refine ⟨?_, fun e he => h2 e (List.mem_of_mem_drop he)⟩
  rcases h1 with rfl | ⟨b, off, rfl, hc⟩
  · exact .inl (by simp)
  · refine .inr ⟨b, off + k * 9, by simp [addr_add], fun j u hj => ?_⟩
    rw [kfl_drop, List.getElem?_drop] at hj
    have := hc _ u hj
    rw [← Nat.add_assoc] at this; exact this
theorem KsH.none {c : Mem} {a : Option Addr} {L : Khs} (h : L.length = 0) : KsH c a L := by
  have := List.eq_nil_of_length_eq_zero h
  subst this
  exact ⟨.inl rfl, fun e he => by cases he⟩

/-- One kid put, one cut, with where their lists lie. -/
def putH (m : ByteArray) (x : Nd) (h : Hd) (L : Khs) : Khs :=
  if kidI m (bare L) 0 < 0 then L.take (abvN m (bare L)) ++ ([(m, x, h)] ++ L.drop (abvN m (bare L))) else L.take (kidI m (bare L) 0).toNat ++ ([(m, x, h)] ++ L.drop ((kidI m (bare L) 0).toNat + 1))
def cutH (m : ByteArray) (L : Khs) : Khs := L.take (kidI m (bare L) 0).toNat ++ L.drop ((kidI m (bare L) 0).toNat + 1)
theorem bare_put (m : ByteArray) (x : Nd) (h : Hd) (L : Khs) : bare (putH m x h L) = putK m x (bare L) := by
  unfold putH putK
  split <;> simp [bare]
theorem bare_cut (m : ByteArray) (L : Khs) : bare (cutH m L) = cutK m (bare L) := by
  unfold cutH cutK
  rw [bare_append, bare_take, bare_drop]
theorem mem_put {m : ByteArray} {x : Nd} {h : Hd} {L : Khs} {e : ByteArray × Nd × Hd} (he : e ∈ putH m x h L) : e = (m, x, h) ∨ e ∈ L := by
  unfold putH at he
  split at he
  all_goals
    rcases List.mem_append.1 he with q | q
    · exact .inr (List.mem_of_mem_take q)
    · rcases List.mem_append.1 q with q | q
      · exact .inl (by simpa using q)
      · exact .inr (List.mem_of_mem_drop q)
theorem mem_cut {m : ByteArray} {L : Khs} {e : ByteArray × Nd × Hd} (he : e ∈ cutH m L) : e ∈ L := by
  unfold cutH at he
  rcases List.mem_append.1 he with q | q
  · exact List.mem_of_mem_take q
  · exact List.mem_of_mem_drop q
theorem put_len (m : ByteArray) (x : Nd) (h : Hd) (L : Khs) : (putH m x h L).length ≤ L.length + 1 := by
  unfold putH
  split <;> simp <;> omega
theorem cut_len (m : ByteArray) (L : Khs) : (cutH m L).length ≤ L.length := by
  unfold cutH
  simp; omega
/-- What the closures answer. -/
def altL (c : Option (Nd × Hd)) (m : ByteArray) (L : Khs) : Except Int Khs := match c with
  | some p => if nameB m = false then .error 4 else .ok (putH m p.1 p.2 L)
  | none => if kidI m (bare L) 0 < 0 then .error 5 else .ok (cutH m L)
theorem alt_last (c : Option (Nd × Hd)) (m : ByteArray) (L : Khs) : lastF (c.map (·.1)) m (bare L) = match altL c m L with | .error f => .error f | .ok M => .ok (bare M) := by
  cases c with
  | none => simp only [lastF, altL, Option.map]; split <;> simp [bare_cut]
  | some p => simp only [lastF, altL, Option.map]; split <;> simp [bare_put]
def AltR (c : Option (Nd × Hd)) (m : ByteArray) (L : Khs) (w w' : World) (e : Ending) : Prop :=
  ((∃ f, altL c m L = .error f ∧ f ≠ 0 ∧ e = .returned (.tuple #[.slice none 0 0, .iface 96 (.int .i64 f)])) ∨ ∃ M v, altL c m L = .ok M ∧ e = .returned (.tuple #[v, .nilIface]) ∧ w'.ownsRow w.heap.size 102 9 v M.length (kfl M)) ∧ Below w.heap.size w w'

theorem concat3K (bs : Nat) (A B C : Pt) (L : Khs) (w : World) (hL : L = A.l ++ (B.l ++ C.l)) (hl : L.length ≤ 1000)
    (h0 : w.cell? ⟨bs, 0, none⟩ = some (.slice A.a A.l.length A.c)) (h1 : w.cell? ⟨bs, 1, none⟩ = some (.slice B.a B.l.length B.c)) (h2 : w.cell? ⟨bs, 2, none⟩ = some (.slice C.a C.l.length C.c))
    (k0 : KsH w.cell? A.a A.l) (k1 : KsH w.cell? B.a B.l) (k2 : KsH w.cell? C.a C.l) :
    Calls Try.prog 74 #[.slice (some ⟨bs, 0, none⟩) 3 3] w fun e w' => (∃ v, e = .returned v ∧ w'.ownsRow w.heap.size 102 9 v L.length (kfl L)) ∧ Below w.heap.size w w' := by
  have hp : parts [A, B, C] = L := by rw [hL]; simp [parts]
  have := concatK_any bs 3 [A, B, C] w (by simp) (by rw [hp]; exact hl) (by
    intro i p hi
    match i with
    | 0 => simp at hi; subst hi; exact ⟨h0, k0⟩
    | 1 => simp at hi; subst hi; exact ⟨h1, k1⟩
    | 2 => simp at hi; subst hi; exact ⟨h2, k2⟩
    | j + 3 => simp at hi)
  rw [hp] at this
  exact this
theorem concat2K (bs : Nat) (A B : Pt) (L : Khs) (w : World) (hL : L = A.l ++ B.l) (hl : L.length ≤ 1000)
    (h0 : w.cell? ⟨bs, 0, none⟩ = some (.slice A.a A.l.length A.c)) (h1 : w.cell? ⟨bs, 1, none⟩ = some (.slice B.a B.l.length B.c))
    (k0 : KsH w.cell? A.a A.l) (k1 : KsH w.cell? B.a B.l) :
    Calls Try.prog 74 #[.slice (some ⟨bs, 0, none⟩) 2 2] w fun e w' => (∃ v, e = .returned v ∧ w'.ownsRow w.heap.size 102 9 v L.length (kfl L)) ∧ Below w.heap.size w w' := by
  have hp : parts [A, B] = L := by rw [hL]; simp [parts]
  have := concatK_any bs 2 [A, B] w (by simp) (by rw [hp]; exact hl) (by
    intro i p hi
    match i with
    | 0 => simp at hi; subst hi; exact ⟨h0, k0⟩
    | 1 => simp at hi; subst hi; exact ⟨h1, k1⟩
    | j + 2 => simp at hi)
  rw [hp] at this
  exact this

set_option maxRecDepth 100000 in
set_option maxHeartbeats 2000000 in
theorem cut1_any (a : Option Addr) (cap : Nat) (L : Khs) (m : ByteArray) (w : World) (hl : L.length ≤ 1000) (hcap : L.length ≤ cap) (hcm : cap ≤ 9223372036854775807) (h : KsH w.cell? a L) :
    Calls Try.prog 75 #[.slice a L.length cap, .string m] w fun e w' => AltR none m L w w' e := by
  have hP := fun W (hk : KsH W.cell? a L) => place_any a cap (bare L) m W (by rw [bare_length]; exact hl) (ksH_ksV hk)
  rw [bare_length] at hP
  have HP : Hid (∀ W, KsH W.cell? a L → Calls Try.prog 68 #[.slice a L.length cap, .string m] W fun e w' => e = .returned (.int .i64 (kidI m (bare L) 0)) ∧ Below W.heap.size W w') := hP
  clear hP
  have hat := kidI_at m (bare L) 0
  rcases hat with ⟨hn, _⟩ | ⟨p, x, hp, hx, _⟩
  · have HN : Hid (kidI m (bare L) 0 = -1) := hn
    have HE : Hid (altL none m L = .error 5) := by show _ = _; simp [altL, hn]
    clear hn
    go_enter Try.func75, Try.ntmps75
    go_wp2_with fail
    refine Calls.mono (HP.out _ h) ?_
    rintro e w1 ⟨rfl, hB⟩
    rw [HN.out]
    clear HP
    go_wp2
    go_ret2
    exact ⟨.inl ⟨5, HE.out, by decide, rfl⟩, hB⟩
  · rw [Nat.zero_add] at hp
    have hlt : p < L.length := by have := (List.getElem?_eq_some_iff.1 hx).1; rwa [bare_length] at this
    have HN : Hid (kidI m (bare L) 0 = (p : Int)) := hp
    have HM : Hid (cutH m L = L.take p ++ L.drop (p + 1)) := by show _ = _; unfold cutH; rw [hp]; rfl
    have HE : Hid (altL none m L = .ok (cutH m L)) := by
      show _ = _
      simp only [altL]
      rw [hp, if_neg (by omega)]
    have HL : Hid ((cutH m L).length ≤ 1000) := by have := cut_len m L; show _ ≤ _; omega
    clear hp hx
    have p1 : (0 : Int) ≤ (p : Int) := by omega
    have p2 : (p : Int) ≤ (L.length : Int) := by omega
    have p3 : (p : Int) ≤ (cap : Int) := by omega
    have p4 : (p : Int) + 1 ≤ (L.length : Int) := by omega
    have p5 : (0 : Int) ≤ (p : Int) + 1 := by omega
    have p6 : IntKind.i64.wrap ((p : Int) + 1) = (p : Int) + 1 := wrap_small (by omega) (by omega)
    have htl : (L.take p).length = p := by simp; omega
    have HCC : Hid (∀ (W : World) (bs : Nat), KsH W.cell? a L → W.cell? ⟨bs, 0, none⟩ = some (.slice a p cap) → W.cell? ⟨bs, 1, none⟩ = some (.slice (if cap = p + 1 then a else a.map (·.add ((p + 1) * 9))) (L.length - (p + 1)) (cap - (p + 1))) → Calls Try.prog 74 #[.slice (some ⟨bs, 0, none⟩) 2 2] W fun e w' => (∃ v, e = .returned v ∧ w'.ownsRow W.heap.size 102 9 v (cutH m L).length (kfl (cutH m L))) ∧ Below W.heap.size W w') := by
      intro W bs hk h0 h1
      have hk2 : KsH W.cell? (if cap = p + 1 then a else a.map (·.add ((p + 1) * 9))) (L.drop (p + 1)) := by
        split
        · exact KsH.none (by simp; omega)
        · exact hk.drop (p + 1)
      exact concat2K bs ⟨a, cap, L.take p⟩ ⟨if cap = p + 1 then a else a.map (·.add ((p + 1) * 9)), cap - (p + 1), L.drop (p + 1)⟩ (cutH m L) W HM.out HL.out (by rw [htl]; exact h0) (by rw [show (L.drop (p + 1)).length = L.length - (p + 1) by simp]; exact h1) (hk.take p) hk2
    clear htl HM HL
    go_enter Try.func75, Try.ntmps75
    go_wp2_with fail
    refine Calls.mono (HP.out _ h) ?_
    rintro e w1 ⟨rfl, hB⟩
    rw [HN.out]
    clear HP
    have c0 : (w1.drew.alloc (.cells #[.slice a p cap, .slice (if cap = p + 1 then a else a.map (·.add ((p + 1) * 9))) (L.length - (p + 1)) (cap - (p + 1))] 23)).cell? ⟨w1.heap.size, 0, none⟩ = some (.slice a p cap) := World.cell?_alloc_at _ _ _ _ rfl
    have c1 : (w1.drew.alloc (.cells #[.slice a p cap, .slice (if cap = p + 1 then a else a.map (·.add ((p + 1) * 9))) (L.length - (p + 1)) (cap - (p + 1))] 23)).cell? ⟨w1.heap.size, 1, none⟩ = some (.slice (if cap = p + 1 then a else a.map (·.add ((p + 1) * 9))) (L.length - (p + 1)) (cap - (p + 1))) := World.cell?_alloc_at _ _ _ _ rfl
    have hB1 : Below w.heap.size w (w1.drew.alloc (.cells #[.slice a p cap, .slice (if cap = p + 1 then a else a.map (·.add ((p + 1) * 9))) (L.length - (p + 1)) (cap - (p + 1))] 23)) := (below_drewN hB 1).alloc hB.size _
    have hk2 := h.on (mle_below hB1)
    go_wp2_with fail
    go_region_held3 (fun _ => True) (trivial) (first | (go_at_call 74; refine (HCC.out _ _ hk2 c0 c1).mono ?_; rintro e w2 ⟨⟨v, rfl, g1⟩, hB4⟩; generalize (if cap = p + 1 then a else a.map (·.add ((p + 1) * 9))) = AD at hk2 c0 c1 hB1 hB4 g1 ⊢))
    all_goals
      have hB5 := hB1.trans (hB4.mono hB1.size)
      have g2 : w2.ownsRow w.heap.size 102 9 v (cutH m L).length (kfl (cutH m L)) := g1.mono hB1.size
      clear hB1 hB4 hB hk2 c0 c1 HCC g1
      go_wp2
      go_ret2
      exact ⟨.inr ⟨_, _, HE.out, rfl, g2⟩, hB5⟩

set_option maxRecDepth 100000 in
set_option maxHeartbeats 2000000 in
theorem put1_any (a : Option Addr) (cap bx : Nat) (x : Nd) (hx : Hd) (L : Khs) (m : ByteArray) (w : World) (hl : L.length ≤ 900) (hcap : L.length ≤ cap) (hcm : cap ≤ 9223372036854775807) (h : KsH w.cell? a L) (hX : NBox w bx x hx) (hN : NdV w.cell? x hx) :
    Calls Try.prog 71 #[.slice a L.length cap, .string m, .pointer (some ⟨bx, 0, none⟩)] w fun e w' => AltR (some (x, hx)) m L w w' e := by
  obtain ⟨t, ht⟩ : ∃ t, nameB m = t := ⟨_, rfl⟩
  have HT : Hid (nameB m = t) := ht
  cases t
  · have HE : Hid (altL (some (x, hx)) m L = .error 4) := by show _ = _; simp [altL, ht]
    clear ht
    go_enter Try.func71, Try.ntmps71
    go_wp2_with fail
    refine (name_any m _).mono ?_
    rintro e w' ⟨rfl, rfl⟩
    rw [HT.out]
    go_wp2
    go_ret2
    exact ⟨.inl ⟨4, HE.out, by decide, rfl⟩, Below.refl _ _⟩
  have HE : Hid (altL (some (x, hx)) m L = .ok (putH m x hx L)) := by show _ = _; simp [altL, ht]
  have HL : Hid ((putH m x hx L).length ≤ 1000) := by have := put_len m x hx L; show _ ≤ _; omega
  clear ht
  have HP : Hid (∀ W, KsH W.cell? a L → Calls Try.prog 68 #[.slice a L.length cap, .string m] W fun e w' => e = .returned (.int .i64 (kidI m (bare L) 0)) ∧ Below W.heap.size W w') := by
    intro W hk
    have := place_any a cap (bare L) m W (by rw [bare_length]; omega) (ksH_ksV hk)
    rwa [bare_length] at this
  have HAB : Hid (∀ W, KsH W.cell? a L → Calls Try.prog 73 #[.slice a L.length cap, .string m] W fun e w' => e = .returned (.int .i64 (abvN m (bare L))) ∧ Below W.heap.size W w') := by
    intro W hk
    have := above_any a cap (bare L) m W (by rw [bare_length]; omega) (ksH_ksV hk)
    rwa [bare_length] at this
  obtain ⟨k, mo, u, g, o, at_, d, ks⟩ := x
  have HCC : Hid (∀ (W : World) (bs bk p q : Nat), p ≤ L.length → q ≤ L.length → putH m (.mk k mo u g o at_ d ks) hx L = L.take p ++ ([(m, .mk k mo u g o at_ d ks, hx)] ++ L.drop q) → KsH W.cell? a L → NdV W.cell? (.mk k mo u g o at_ d ks) hx → KdAt W.cell? bk 0 m (.mk k mo u g o at_ d ks) hx → W.cell? ⟨bs, 0, none⟩ = some (.slice a p cap) → W.cell? ⟨bs, 1, none⟩ = some (.slice (some ⟨bk, 0, none⟩) 1 1) → W.cell? ⟨bs, 2, none⟩ = some (.slice (if cap = q then a else a.map (·.add (q * 9))) (L.length - q) (cap - q)) →
      Calls Try.prog 74 #[.slice (some ⟨bs, 0, none⟩) 3 3] W fun e w' => (∃ v, e = .returned v ∧ w'.ownsRow W.heap.size 102 9 v (putH m (.mk k mo u g o at_ d ks) hx L).length (kfl (putH m (.mk k mo u g o at_ d ks) hx L))) ∧ Below W.heap.size W w') := by
    intro W bs bk p q hp hq hput hk hNx hKx h0 h1 h2
    have hk2 : KsH W.cell? (if cap = q then a else a.map (·.add (q * 9))) (L.drop q) := by
      split
      · exact KsH.none (by simp; omega)
      · exact hk.drop q
    have hk1 : KsH W.cell? (some ⟨bk, 0, none⟩) [(m, .mk k mo u g o at_ d ks, hx)] := by
      refine ⟨.inr ⟨bk, 0, rfl, fun j v hj => ?_⟩, fun e he => by simp at he; subst he; exact hNx⟩
      exact kdAt_iff.1 hKx j v (by simpa [kfl] using hj)
    exact concat3K bs ⟨a, cap, L.take p⟩ ⟨some ⟨bk, 0, none⟩, 1, [(m, .mk k mo u g o at_ d ks, hx)]⟩ ⟨if cap = q then a else a.map (·.add (q * 9)), cap - q, L.drop q⟩ _ W hput HL.out (by rw [show (L.take p).length = p by simp; omega]; exact h0) h1 (by rw [show (L.drop q).length = L.length - q by simp]; exact h2) (hk.take p) hk1 hk2
  rcases kidI_at m (bare L) 0 with ⟨hn, _⟩ | ⟨p, x, hp, hx', _⟩
  · have HN : Hid (kidI m (bare L) 0 = -1) := hn
    obtain ⟨p, hp⟩ : ∃ p, abvN m (bare L) = p := ⟨_, rfl⟩
    have HM : Hid (putH m (.mk k mo u g o at_ d ks) hx L = L.take p ++ ([(m, .mk k mo u g o at_ d ks, hx)] ++ L.drop p)) := by
      show _ = _
      unfold putH
      rw [if_pos (by rw [hn]; decide), hp]
    have hp1 : p ≤ L.length := by have := abvN_le m (bare L); rw [bare_length] at this; omega
    have hp2 := hp1
    have HA : Hid (abvN m (bare L) = p) := hp
    clear hn hp HL
    have p1 : (0 : Int) ≤ (p : Int) := by omega
    have p2 : (p : Int) ≤ (L.length : Int) := by omega
    have p3 : (p : Int) ≤ (cap : Int) := by omega
    go_enter Try.func71, Try.ntmps71
    go_wp2_with fail
    refine (name_any m _).mono ?_
    rintro e w' ⟨rfl, rfl⟩
    rw [HT.out]
    go_wp2_with fail
    refine Calls.mono (HP.out _ h) ?_
    rintro e w0 ⟨rfl, hB0⟩
    rw [HN.out]
    have h0 := h.on (mle_below hB0)
    go_wp2_with fail
    refine Calls.mono (HAB.out _ h0) ?_
    rintro e w1 ⟨rfl, hB01⟩
    rw [HA.out]
    have hB := hB0.trans (hB01.mono hB0.size)
    clear HP HAB hB0 hB01 h0
    have hs1 : w1.drew.heap.size = w1.heap.size := rfl
    have hB1 : Below w.heap.size w (w1.drew.alloc (.cells #[.string m, .int .i64 k, .int .i64 mo, .int .i64 u, .int .i64 g, .bool o, .slice hx.aa at_.length hx.ca, .string d, .slice hx.ak ks.length hx.ck] 102)) := (below_drewN hB 1).alloc hB.size _
    have hB2 : Below w.heap.size w ((w1.drew.alloc (.cells #[.string m, .int .i64 k, .int .i64 mo, .int .i64 u, .int .i64 g, .bool o, .slice hx.aa at_.length hx.ca, .string d, .slice hx.ak ks.length hx.ck] 102)).alloc (.cells #[.slice a p cap, .slice (some ⟨w1.heap.size, 0, none⟩) 1 1, .slice (if cap = p then a else a.map (·.add (p * 9))) (L.length - p) (cap - p)] 23)) := hB1.alloc hB1.size _
    have kd : KdAt ((w1.drew.alloc (.cells #[.string m, .int .i64 k, .int .i64 mo, .int .i64 u, .int .i64 g, .bool o, .slice hx.aa at_.length hx.ca, .string d, .slice hx.ak ks.length hx.ck] 102)).alloc (.cells #[.slice a p cap, .slice (some ⟨w1.heap.size, 0, none⟩) 1 1, .slice (if cap = p then a else a.map (·.add (p * 9))) (L.length - p) (cap - p)] 23)).cell? w1.heap.size 0 m (.mk k mo u g o at_ d ks) hx := by
      have hb := (Below.refl _ (w1.drew.alloc (.cells #[.string m, .int .i64 k, .int .i64 mo, .int .i64 u, .int .i64 g, .bool o, .slice hx.aa at_.length hx.ca, .string d, .slice hx.ak ks.length hx.ck] 102))).alloc (Nat.le_refl _) (.cells #[.slice a p cap, .slice (some ⟨w1.heap.size, 0, none⟩) 1 1, .slice (if cap = p then a else a.map (·.add (p * 9))) (L.length - p) (cap - p)] 23)
      refine KdAt.below ?_ hb
      exact ⟨World.cell?_alloc_at _ _ _ _ rfl, World.cell?_alloc_at _ _ _ _ rfl, World.cell?_alloc_at _ _ _ _ rfl, World.cell?_alloc_at _ _ _ _ rfl, World.cell?_alloc_at _ _ _ _ rfl, World.cell?_alloc_at _ _ _ _ rfl, World.cell?_alloc_at _ _ _ _ rfl, World.cell?_alloc_at _ _ _ _ rfl, World.cell?_alloc_at _ _ _ _ rfl⟩
    have nw : ∀ i v, (#[.slice a p cap, .slice (some ⟨w1.heap.size, 0, none⟩) 1 1, .slice (if cap = p then a else a.map (·.add (p * 9))) (L.length - p) (cap - p)] : Array Value)[i]? = some v → ((w1.drew.alloc (.cells #[.string m, .int .i64 k, .int .i64 mo, .int .i64 u, .int .i64 g, .bool o, .slice hx.aa at_.length hx.ca, .string d, .slice hx.ak ks.length hx.ck] 102)).alloc (.cells #[.slice a p cap, .slice (some ⟨w1.heap.size, 0, none⟩) 1 1, .slice (if cap = p then a else a.map (·.add (p * 9))) (L.length - p) (cap - p)] 23)).cell? ⟨w1.heap.size + 1, i, none⟩ = some v := by
      intro i v hv
      have e : ((w1.drew.alloc (.cells #[.string m, .int .i64 k, .int .i64 mo, .int .i64 u, .int .i64 g, .bool o, .slice hx.aa at_.length hx.ca, .string d, .slice hx.ak ks.length hx.ck] 102)).alloc (.cells #[.slice a p cap, .slice (some ⟨w1.heap.size, 0, none⟩) 1 1, .slice (if cap = p then a else a.map (·.add (p * 9))) (L.length - p) (cap - p)] 23)).cell? ⟨(w1.drew.alloc (.cells #[.string m, .int .i64 k, .int .i64 mo, .int .i64 u, .int .i64 g, .bool o, .slice hx.aa at_.length hx.ca, .string d, .slice hx.ak ks.length hx.ck] 102)).heap.size, i, none⟩ = (#[.slice a p cap, .slice (some ⟨w1.heap.size, 0, none⟩) 1 1, .slice (if cap = p then a else a.map (·.add (p * 9))) (L.length - p) (cap - p)] : Array Value)[i]? := World.cell?_alloc_at _ _ _ _ rfl
      rw [World.size_alloc] at e
      exact e.trans hv
    have n0 := nw 0 _ rfl
    have n1 := nw 1 _ rfl
    have n2 := nw 2 _ rfl
    have hk2 := h.on (mle_below hB2)
    have hN2 := hN.ab hB2
    have hX1 := hX.below hB
    have T0 : NBox w1.drew bx (.mk k mo u g o at_ d ks) hx := hX1
    have T1 := hX.below hB1
    have T2 := hX.below hB2
    obtain ⟨y0, y1, y2, y3, y4, y5, y6, y7⟩ := hX1
    clear nw
    go_wp2_with fail
    go_region_held3 (fun w' => w'.cell? ⟨bx, 0, none⟩ = some (.int .i64 k) ∧ w'.cell? ⟨bx, 1, none⟩ = some (.int .i64 mo) ∧ w'.cell? ⟨bx, 2, none⟩ = some (.int .i64 u) ∧ w'.cell? ⟨bx, 3, none⟩ = some (.int .i64 g) ∧ w'.cell? ⟨bx, 4, none⟩ = some (.bool o) ∧ w'.cell? ⟨bx, 5, none⟩ = some (.slice hx.aa at_.length hx.ca) ∧ w'.cell? ⟨bx, 6, none⟩ = some (.string d) ∧ w'.cell? ⟨bx, 7, none⟩ = some (.slice hx.ak ks.length hx.ck)) (first | exact T0 | exact T1 | exact T2 | exact T3) (first | (go_at_call 74; refine (HCC.out _ _ _ p (p) hp1 hp2 HM.out hk2 hN2 kd n0 n1 n2).mono ?_; rintro e w2 ⟨⟨v, rfl, g1⟩, hB4⟩; have T3 := T2.below hB4; generalize (if cap = p then a else a.map (·.add (p * 9))) = AD at hk2 hN2 kd n0 n1 n2 hB2 hB4 g1 T2 ⊢))
    all_goals
      have hB5 := hB2.trans (hB4.mono hB2.size)
      have g2 : w2.ownsRow w.heap.size 102 9 v (putH m (.mk k mo u g o at_ d ks) hx L).length (kfl (putH m (.mk k mo u g o at_ d ks) hx L)) := g1.mono hB2.size
      clear T0 T1 T2 T3 hB1 hB2 hB4 hB hk2 hN2 kd n0 n1 n2 HCC g1 y0 y1 y2 y3 y4 y5 y6 y7 hX
      go_wp2
      go_ret2
      exact ⟨.inr ⟨_, _, HE.out, rfl, g2⟩, hB5⟩
  · rw [Nat.zero_add] at hp
    have hlt : p < L.length := by have := (List.getElem?_eq_some_iff.1 hx').1; rwa [bare_length] at this
    have HN : Hid (kidI m (bare L) 0 = (p : Int)) := hp
    have HM : Hid (putH m (.mk k mo u g o at_ d ks) hx L = L.take p ++ ([(m, .mk k mo u g o at_ d ks, hx)] ++ L.drop (p + 1))) := by
      show _ = _
      unfold putH
      rw [if_neg (by rw [hp]; omega), hp]; rfl
    have hp1 : p ≤ L.length := by omega
    have hp2 : p + 1 ≤ L.length := by omega
    clear hp hx' HL
    have p1 : (0 : Int) ≤ (p : Int) := by omega
    have p2 : (p : Int) ≤ (L.length : Int) := by omega
    have p3 : (p : Int) ≤ (cap : Int) := by omega
    have p4 : (p : Int) + 1 ≤ (L.length : Int) := by omega
    have p5 : (0 : Int) ≤ (p : Int) + 1 := by omega
    have p6 : IntKind.i64.wrap ((p : Int) + 1) = (p : Int) + 1 := wrap_small (by omega) (by omega)
    have p7 : decide ((p : Int) < 0) = false := decide_eq_false (by omega)
    go_enter Try.func71, Try.ntmps71
    go_wp2_with fail
    refine (name_any m _).mono ?_
    rintro e w' ⟨rfl, rfl⟩
    rw [HT.out]
    go_wp2_with fail
    refine Calls.mono (HP.out _ h) ?_
    rintro e w1 ⟨rfl, hB⟩
    rw [HN.out]
    clear HP HAB
    have hs1 : w1.drew.heap.size = w1.heap.size := rfl
    have hB1 : Below w.heap.size w (w1.drew.alloc (.cells #[.string m, .int .i64 k, .int .i64 mo, .int .i64 u, .int .i64 g, .bool o, .slice hx.aa at_.length hx.ca, .string d, .slice hx.ak ks.length hx.ck] 102)) := (below_drewN hB 1).alloc hB.size _
    have hB2 : Below w.heap.size w ((w1.drew.alloc (.cells #[.string m, .int .i64 k, .int .i64 mo, .int .i64 u, .int .i64 g, .bool o, .slice hx.aa at_.length hx.ca, .string d, .slice hx.ak ks.length hx.ck] 102)).alloc (.cells #[.slice a p cap, .slice (some ⟨w1.heap.size, 0, none⟩) 1 1, .slice (if cap = p + 1 then a else a.map (·.add ((p + 1) * 9))) (L.length - (p + 1)) (cap - (p + 1))] 23)) := hB1.alloc hB1.size _
    have kd : KdAt ((w1.drew.alloc (.cells #[.string m, .int .i64 k, .int .i64 mo, .int .i64 u, .int .i64 g, .bool o, .slice hx.aa at_.length hx.ca, .string d, .slice hx.ak ks.length hx.ck] 102)).alloc (.cells #[.slice a p cap, .slice (some ⟨w1.heap.size, 0, none⟩) 1 1, .slice (if cap = p + 1 then a else a.map (·.add ((p + 1) * 9))) (L.length - (p + 1)) (cap - (p + 1))] 23)).cell? w1.heap.size 0 m (.mk k mo u g o at_ d ks) hx := by
      have hb := (Below.refl _ (w1.drew.alloc (.cells #[.string m, .int .i64 k, .int .i64 mo, .int .i64 u, .int .i64 g, .bool o, .slice hx.aa at_.length hx.ca, .string d, .slice hx.ak ks.length hx.ck] 102))).alloc (Nat.le_refl _) (.cells #[.slice a p cap, .slice (some ⟨w1.heap.size, 0, none⟩) 1 1, .slice (if cap = p + 1 then a else a.map (·.add ((p + 1) * 9))) (L.length - (p + 1)) (cap - (p + 1))] 23)
      refine KdAt.below ?_ hb
      exact ⟨World.cell?_alloc_at _ _ _ _ rfl, World.cell?_alloc_at _ _ _ _ rfl, World.cell?_alloc_at _ _ _ _ rfl, World.cell?_alloc_at _ _ _ _ rfl, World.cell?_alloc_at _ _ _ _ rfl, World.cell?_alloc_at _ _ _ _ rfl, World.cell?_alloc_at _ _ _ _ rfl, World.cell?_alloc_at _ _ _ _ rfl, World.cell?_alloc_at _ _ _ _ rfl⟩
    have nw : ∀ i v, (#[.slice a p cap, .slice (some ⟨w1.heap.size, 0, none⟩) 1 1, .slice (if cap = p + 1 then a else a.map (·.add ((p + 1) * 9))) (L.length - (p + 1)) (cap - (p + 1))] : Array Value)[i]? = some v → ((w1.drew.alloc (.cells #[.string m, .int .i64 k, .int .i64 mo, .int .i64 u, .int .i64 g, .bool o, .slice hx.aa at_.length hx.ca, .string d, .slice hx.ak ks.length hx.ck] 102)).alloc (.cells #[.slice a p cap, .slice (some ⟨w1.heap.size, 0, none⟩) 1 1, .slice (if cap = p + 1 then a else a.map (·.add ((p + 1) * 9))) (L.length - (p + 1)) (cap - (p + 1))] 23)).cell? ⟨w1.heap.size + 1, i, none⟩ = some v := by
      intro i v hv
      have e : ((w1.drew.alloc (.cells #[.string m, .int .i64 k, .int .i64 mo, .int .i64 u, .int .i64 g, .bool o, .slice hx.aa at_.length hx.ca, .string d, .slice hx.ak ks.length hx.ck] 102)).alloc (.cells #[.slice a p cap, .slice (some ⟨w1.heap.size, 0, none⟩) 1 1, .slice (if cap = p + 1 then a else a.map (·.add ((p + 1) * 9))) (L.length - (p + 1)) (cap - (p + 1))] 23)).cell? ⟨(w1.drew.alloc (.cells #[.string m, .int .i64 k, .int .i64 mo, .int .i64 u, .int .i64 g, .bool o, .slice hx.aa at_.length hx.ca, .string d, .slice hx.ak ks.length hx.ck] 102)).heap.size, i, none⟩ = (#[.slice a p cap, .slice (some ⟨w1.heap.size, 0, none⟩) 1 1, .slice (if cap = p + 1 then a else a.map (·.add ((p + 1) * 9))) (L.length - (p + 1)) (cap - (p + 1))] : Array Value)[i]? := World.cell?_alloc_at _ _ _ _ rfl
      rw [World.size_alloc] at e
      exact e.trans hv
    have n0 := nw 0 _ rfl
    have n1 := nw 1 _ rfl
    have n2 := nw 2 _ rfl
    have hk2 := h.on (mle_below hB2)
    have hN2 := hN.ab hB2
    have hX1 := hX.below hB
    have T0 : NBox w1.drew bx (.mk k mo u g o at_ d ks) hx := hX1
    have T1 := hX.below hB1
    have T2 := hX.below hB2
    obtain ⟨y0, y1, y2, y3, y4, y5, y6, y7⟩ := hX1
    clear nw
    go_wp2_with fail
    go_region_held3 (fun w' => w'.cell? ⟨bx, 0, none⟩ = some (.int .i64 k) ∧ w'.cell? ⟨bx, 1, none⟩ = some (.int .i64 mo) ∧ w'.cell? ⟨bx, 2, none⟩ = some (.int .i64 u) ∧ w'.cell? ⟨bx, 3, none⟩ = some (.int .i64 g) ∧ w'.cell? ⟨bx, 4, none⟩ = some (.bool o) ∧ w'.cell? ⟨bx, 5, none⟩ = some (.slice hx.aa at_.length hx.ca) ∧ w'.cell? ⟨bx, 6, none⟩ = some (.string d) ∧ w'.cell? ⟨bx, 7, none⟩ = some (.slice hx.ak ks.length hx.ck)) (first | exact T0 | exact T1 | exact T2 | exact T3) (first | (go_at_call 74; refine (HCC.out _ _ _ p (p + 1) hp1 hp2 HM.out hk2 hN2 kd n0 n1 n2).mono ?_; rintro e w2 ⟨⟨v, rfl, g1⟩, hB4⟩; have T3 := T2.below hB4; generalize (if cap = p + 1 then a else a.map (·.add ((p + 1) * 9))) = AD at hk2 hN2 kd n0 n1 n2 hB2 hB4 g1 T2 ⊢))
    all_goals
      have hB5 := hB2.trans (hB4.mono hB2.size)
      have g2 : w2.ownsRow w.heap.size 102 9 v (putH m (.mk k mo u g o at_ d ks) hx L).length (kfl (putH m (.mk k mo u g o at_ d ks) hx L)) := g1.mono hB2.size
      clear T0 T1 T2 T3 hB1 hB2 hB4 hB hk2 hN2 kd n0 n1 n2 HCC g1 y0 y1 y2 y3 y4 y5 y6 y7 hX
      go_wp2
      go_ret2
      exact ⟨.inr ⟨_, _, HE.out, rfl, g2⟩, hB5⟩
end Go.Proofs.Ytkkhfnkmfkdhiab

namespace Go.Proofs.Ytkkhfnkmfkdhiab
open Go.RowKit

/-- Names in memory. -/
def Strs (c : Mem) (a : Option Addr) (l : List ByteArray) : Prop := l = [] ∨ ∃ b off, a = some ⟨b, off, none⟩ ∧ ∀ i s, l[i]? = some s → c ⟨b, off + i, none⟩ = some (.string s)
theorem Strs.on {c c' : Mem} {a : Option Addr} {l : List ByteArray} (h : Strs c a l) (hb : MLe c c') : Strs c' a l := by
  rcases h with h | ⟨b, off, ha, hc⟩
  · exact .inl h
  · exact .inr ⟨b, off, ha, fun i s hi => hb _ _ (hc i s hi)⟩
theorem Nd.eta (x : Nd) : x.with x.kids = x := by obtain ⟨k, m, u, g, o, at_, d, ks⟩ := x; rfl
/-- What is hidden: the result's box too. -/
def upS (nb : Nat) (S : Nat → Bool) : Nat → Bool := fun k => k == nb + 1 || S k
theorem upS_no {nb k : Nat} {S : Nat → Bool} : upS nb S k = false ↔ k ≠ nb + 1 ∧ S k = false := by simp [upS]
theorem mle_up {W w' : World} {S : Nat → Bool} {nb : Nat} (hb : Below W.heap.size W w') (hsz : W.heap.size = nb) : MLe (offS W.cell? S) (offS w'.cell? (upS nb S)) := mle_step fun k hk hs => ⟨upS_no.2 ⟨by omega, hs⟩, hb.block k hk⟩
theorem nat_offS {c : Mem} {S : Nat → Bool} {b p : Nat} {x : Nd} {h : Hd} (hs : S b = false) (hk : NAt c b p x h) : NAt (offS c S) b p x h := nat_iff.2 fun q u hq => (offS_ne hs).trans (nat_iff.1 hk q u hq)
/-- Where a change stands, on its way down. -/
structure Spine (W wr : World) (S : Nat → Bool) (nb : Nat) (x0 : Nd) (c : Option Nd) (l rest : List ByteArray) (ab ap : Nat) (y : Nd) (hy : Hd) : Prop where
  low : Below W.heap.size W wr
  sz : W.heap.size = nb
  res : NBw wr (nb + 1) zN zH
  atc : NAt wr.cell? ab ap y hy
  fz : ∀ q, wr.frozen? ⟨ab, q, none⟩ = false
  ge : nb ≤ ab
  ne : ab ≠ nb + 1
  hS : ∀ k, S k = true → k < W.heap.size
  tree : NdV (offS W.cell? S) y hy
  wand : ∃ plug : Nd → Nd, (chgF c l x0 = (chgF c rest y).map plug) ∧ ∀ w', Below W.heap.size W w' → (∀ q v, wr.cell? q = some v → (∀ i, i < 8 → q ≠ ⟨ab, ap + i, none⟩) → w'.cell? q = some v) → ∀ z hz, NAt w'.cell? ab ap z hz → NdV (offS w'.cell? (upS nb S)) z hz → ∃ hr, NBox w' nb (plug z) hr ∧ NdV (offS w'.cell? (upS nb S)) (plug z) hr
theorem NAt.lt {w : World} {b p : Nat} {x : Nd} {h : Hd} (hk : NAt w.cell? b p x h) : b < w.heap.size := by
  obtain ⟨k, m, u, g, o, at_, d, ks⟩ := x
  exact World.block_lt_of_cell? _ _ hk.1
theorem Spine.start {W wr : World} {S : Nat → Bool} {nb : Nat} {x0 : Nd} {c : Option Nd} {l : List ByteArray} {h : Hd} (low : Below W.heap.size W wr) (sz : W.heap.size = nb) (res : NBw wr (nb + 1) zN zH) (box : NBw wr nb x0 h) (hS : ∀ k, S k = true → k < W.heap.size) (tree : NdV (offS W.cell? S) x0 h) : Spine W wr S nb x0 c l l nb 0 x0 h := by
  refine ⟨low, sz, res, box.1.at, box.2, Nat.le_refl _, by omega, hS, tree, id, ?_, ?_⟩
  · cases chgF c l x0 <;> rfl
  · intro w' _ _ z hz hA hN
    exact ⟨hz, hA.box, hN⟩
theorem Spine.below {W wr w' : World} {S : Nat → Bool} {nb : Nat} {x0 : Nd} {c : Option Nd} {l rest : List ByteArray} {ab ap : Nat} {y : Nd} {hy : Hd} (h : Spine W wr S nb x0 c l rest ab ap y hy) (hb : Below wr.heap.size wr w') : Spine W w' S nb x0 c l rest ab ap y hy := by
  obtain ⟨plug, h1, h2⟩ := h.wand
  refine ⟨h.low.trans (hb.mono h.low.size), h.sz, h.res.below hb, h.atc.below hb, fun q => (hb.frozen (p := ⟨ab, q, none⟩) h.atc.lt).trans (h.fz q), h.ge, h.ne, h.hS, h.tree, plug, h1, ?_⟩
  intro w2 hl hq z hz hA hN
  exact h2 w2 hl (fun q v hv hn => hq q v ((hb.cell (World.block_lt_of_cell? _ _ hv)).trans hv) hn) z hz hA hN
/-- The seventh cell of a node is written. -/
theorem nat_set7 {w : World} {b p : Nat} {y : Nd} {hy : Hd} (h : NAt w.cell? b p y hy) (ks' : Kds) (ak : Option Addr) (ck : Nat) : NAt (w.setCell ⟨b, p + 7, none⟩ (.slice ak ks'.length ck)).cell? b p (y.with ks') ⟨hy.aa, hy.ca, ak, ck⟩ := by
  obtain ⟨k, m, u, g, o, at_, d, ks⟩ := y
  obtain ⟨h0, h1, h2, h3, h4, h5, h6, h7⟩ := h
  have e : ∀ o, o ≠ p + 7 → (w.setCell ⟨b, p + 7, none⟩ (.slice ak ks'.length ck)).cell? ⟨b, o, none⟩ = w.cell? ⟨b, o, none⟩ := fun o ho => World.cell?_setCell_other _ _ _ _ (fun e => ho (Addr.mk.inj e).2.1.symm)
  exact ⟨(e _ (by omega)).trans h0, (e _ (by omega)).trans h1, (e _ (by omega)).trans h2, (e _ (by omega)).trans h3, (e _ (by omega)).trans h4, (e _ (by omega)).trans h5, (e _ (by omega)).trans h6, World.cell?_setCell_same _ _ _ h7⟩
theorem chg_step {c : Option Nd} {m m' : ByteArray} {rest : List ByteArray} {y z : Nd} {p : Nat} (hk : y.kind = 2) (hp : kidI m y.kids 0 = (p : Int)) (hz : y.kids[p]? = some (m, z)) : chgF c (m :: m' :: rest) y = (chgF c (m' :: rest) z).map fun q => y.with (y.kids.set p (m, q)) := by
  rw [chgF, if_neg (by simp [hk]), if_neg (by rw [hp]; omega), hp]
  have e : y.kid p = z := by unfold Nd.kid; rw [hz]
  simp only [Int.toNat_natCast]
  rw [e]
/-- One step down. -/
theorem Spine.step {W wr w2 : World} {S : Nat → Bool} {nb : Nat} {x0 : Nd} {c : Option Nd} {l rest : List ByteArray} {m m' : ByteArray} {ab ap : Nat} {y z : Nd} {hy : Hd} {L : Khs} {base g p ck : Nat} {hz : Hd} (h : Spine W wr S nb x0 c l (m :: m' :: rest) ab ap y hy) (hb : Below wr.heap.size wr w2) (hbase : wr.heap.size ≤ base)
    (hL : bare L = y.kids) (hLN : ∀ e ∈ L, NdV (offS W.cell? S) e.2.1 e.2.2) (hk : y.kind = 2) (hp : kidI m y.kids 0 = (p : Int)) (he : L[p]? = some (m, z, hz)) (hrow : w2.ownsRow base 102 9 (.slice (some ⟨g, 0, none⟩) y.kids.length ck) y.kids.length (kfl L)) :
    Spine W (w2.setCell ⟨ab, ap + 7, none⟩ (.slice (some ⟨g, 0, none⟩) y.kids.length ck)) S nb x0 c l (m' :: rest) g (p * 9 + 1) z hz := by
  obtain ⟨plug, h1, h2⟩ := h.wand
  have hlt := h.atc.lt
  obtain ⟨a0, c0, hv, hc1, hc2, hf⟩ := owns_cells hrow
  simp only [Value.slice.injEq, true_and] at hv
  obtain ⟨rfl, rfl⟩ := hv
  rcases hf with ⟨e, _⟩ | ⟨g', e, hg1, hg2, hg3, hg4⟩
  · cases e
  simp only [Option.some.injEq, Addr.mk.injEq, and_true] at e
  subst e
  have hgab : g ≠ ab := by omega
  have hge : W.heap.size ≤ g := by have := h.low.size; omega
  have hgS : upS nb S g = false := upS_no.2 ⟨by have := h.res.1.lt; omega, by
    cases hs : S g with
    | false => rfl
    | true => have := h.hS g hs; omega⟩
  have hyk : y.kids[p]? = some (m, z) := by
    rw [← hL]; unfold bare; rw [List.getElem?_map, he]; rfl
  -- the new world
  have hcell : ∀ q : Addr, q ≠ ⟨ab, ap + 7, none⟩ → (w2.setCell ⟨ab, ap + 7, none⟩ (.slice (some ⟨g, 0, none⟩) y.kids.length ck)).cell? q = w2.cell? q := fun q hq => World.cell?_setCell_other _ _ _ _ (fun e => hq e.symm)
  have hcg : ∀ j u, (kfl L)[j]? = some u → (w2.setCell ⟨ab, ap + 7, none⟩ (.slice (some ⟨g, 0, none⟩) y.kids.length ck)).cell? ⟨g, j, none⟩ = some u := fun j u hj => (hcell _ (fun e => hgab (Addr.mk.inj e).1)).trans (hg3 j u hj)
  have hlow3 : Below W.heap.size W (w2.setCell ⟨ab, ap + 7, none⟩ (.slice (some ⟨g, 0, none⟩) y.kids.length ck)) := (h.low.trans (hb.mono h.low.size)).setCell (p := ⟨ab, ap + 7, none⟩) (by show W.heap.size ≤ ab; have := h.ge; have := h.sz; omega) _
  refine ⟨hlow3, h.sz, (h.res.below hb).other (p := ⟨ab, ap + 7, none⟩) h.ne _, ?_, fun q => by rw [World.frozen?_setCell]; exact hg4 q, by have := h.sz; omega, by have := h.res.1.lt; omega, h.hS, hLN _ (List.mem_of_getElem? he), ?_⟩
  · refine nat_iff.2 fun q u hq => ?_
    have := kfl_get L p m z hz he (q + 1) u (by simpa using hq)
    have := hcg _ _ this
    rw [show p * 9 + 1 + q = p * 9 + (q + 1) by omega]; exact this
  · refine ⟨fun q => plug (y.with (y.kids.set p (m, q))), ?_, ?_⟩
    · rw [h1, chg_step hk hp hyk]
      cases chgF c (m' :: rest) z <;> rfl
    · intro w' hl hq zz hzz hA hN
      have hat3 := nat_set7 (h.atc.below hb) y.kids (some ⟨g, 0, none⟩) ck
      rw [Nd.eta] at hat3
      refine h2 w' hl ?_ (y.with (y.kids.set p (m, zz))) ⟨hy.aa, hy.ca, some ⟨g, 0, none⟩, ck⟩ ?_ ?_
      · intro q v hv hn
        have hqlt : q.block < wr.heap.size := World.block_lt_of_cell? _ _ hv
        refine hq q v ?_ (fun i hi e => ?_)
        · rw [hcell q (hn 7 (by omega))]; exact (hb.cell hqlt).trans hv
        · rw [e] at hqlt; simp at hqlt; omega
      · have hw' : ∀ q v, (w2.setCell ⟨ab, ap + 7, none⟩ (.slice (some ⟨g, 0, none⟩) y.kids.length ck)).cell? q = some v → q.block ≠ g → w'.cell? q = some v := fun q v hv hne => hq q v hv (fun i hi e => hne (by rw [e]))
        obtain ⟨k, mo, u, gg, o, at_, d, ks⟩ := y
        obtain ⟨e0, e1, e2, e3, e4, e5, e6, e7⟩ := hat3
        have hlen : (ks.set p (m, zz)).length = ks.length := List.length_set
        refine ⟨hw' _ _ e0 hgab.symm, hw' _ _ e1 hgab.symm, hw' _ _ e2 hgab.symm, hw' _ _ e3 hgab.symm, hw' _ _ e4 hgab.symm, hw' _ _ e5 hgab.symm, hw' _ _ e6 hgab.symm, ?_⟩
        show w'.cell? _ = some (.slice _ (ks.set p (m, zz)).length _)
        rw [hlen]
        exact hw' _ _ e7 hgab.symm
      · have ht := h.tree
        obtain ⟨k, mo, u, gg, o, at_, d, ks⟩ := y
        obtain ⟨t1, t2, t3, _⟩ := ndV_iff.1 ht
        have hlen : (ks.set p (m, zz)).length = ks.length := List.length_set
        refine ndV_iff.2 ⟨t1.on (mle_up hl h.sz), t2, ⟨by show (ks.set p (m, zz)).length ≤ ck; rw [hlen]; exact hc1, hc2⟩, .inr ⟨g, 0, rfl, fun i => if i = p then hzz else ((L[i]?).map (fun e => e.2.2)).getD hzz, ?_⟩⟩
        intro i n xx hi
        dsimp only
        change (ks.set p (m, zz))[i]? = some (n, xx) at hi
        have hil : i < ks.length := by have := (List.getElem?_eq_some_iff.1 hi).1; rwa [hlen] at this
        have hLl : i < L.length := by have := congrArg List.length hL; rw [bare_length] at this; show i < L.length; rw [this]; exact hil
        have hcell' : ∀ j u, (kfl L)[j]? = some u → (∀ q, q < 8 → j ≠ p * 9 + 1 + q) → w'.cell? ⟨g, j, none⟩ = some u := fun j u hj hn => hq _ _ (hcg j u hj) (fun q hqq e => hn q hqq (Addr.mk.inj e).2.1)
        by_cases hip : i = p
        · subst hip
          rw [List.getElem?_set_self hil] at hi
          simp only [Option.some.injEq, Prod.mk.injEq] at hi
          obtain ⟨rfl, rfl⟩ := hi
          rw [if_pos rfl, Nat.zero_add]
          refine ⟨⟨?_, nat_offS hgS hA⟩, hN⟩
          rw [offS_ne hgS]
          refine hcell' _ _ (by have := kfl_get L i m z hz he 0 _ rfl; simpa using this) (fun q hq' e => by omega)
        · rw [List.getElem?_set_ne (by omega)] at hi
          have hLi : L[i]? = some (n, xx, L[i].2.2) := by
            have e1 : (bare L)[i]? = some (n, xx) := by rw [hL]; exact hi
            unfold bare at e1
            rw [List.getElem?_map, List.getElem?_eq_getElem hLl] at e1
            simp at e1
            rw [List.getElem?_eq_getElem hLl]
            congr 1
            exact Prod.ext e1.1 (Prod.ext e1.2 rfl)
          rw [if_neg hip, hLi]
          simp only [Option.map_some, Option.getD_some]
          rw [Nat.zero_add]
          refine ⟨kdAt_iff.2 fun q u hq' => ?_, (hLN _ (List.mem_of_getElem? hLi)).on (mle_up hl h.sz)⟩
          rw [offS_ne hgS]
          have hq9 : q < 9 := by have := (List.getElem?_eq_some_iff.1 hq').1; simp [ndL_length] at this; omega
          exact hcell' _ _ (kfl_get L i _ _ _ hLi q u hq') (fun r hr e => by omega)
/-- At the end. -/
theorem Spine.fin {W wr w2 : World} {S : Nat → Bool} {nb : Nat} {x0 : Nd} {c : Option Nd} {l : List ByteArray} {m : ByteArray} {ab ap : Nat} {y : Nd} {hy : Hd} {M : Khs} {base n ck : Nat} {ak : Option Addr} (h : Spine W wr S nb x0 c l [m] ab ap y hy) (hb : Below wr.heap.size wr w2) (hbase : wr.heap.size ≤ base)
    (hMN : ∀ e ∈ M, NdV (offS W.cell? S) e.2.1 e.2.2) (hk : y.kind = 2) (hM : lastF c m y.kids = .ok (bare M)) (hn : M.length = n) (hrow : w2.ownsRow base 102 9 (.slice ak n ck) n (kfl M)) :
    ∃ r hr, chgF c l x0 = .ok r ∧ NBox (w2.setCell ⟨ab, ap + 7, none⟩ (.slice ak n ck)) nb r hr ∧ NdV (offS (w2.setCell ⟨ab, ap + 7, none⟩ (.slice ak n ck)).cell? (upS nb S)) r hr ∧ Below W.heap.size W (w2.setCell ⟨ab, ap + 7, none⟩ (.slice ak n ck)) ∧ NBw (w2.setCell ⟨ab, ap + 7, none⟩ (.slice ak n ck)) (nb + 1) zN zH := by
  subst hn
  obtain ⟨plug, h1, h2⟩ := h.wand
  have hlt := h.atc.lt
  have hlow3 : Below W.heap.size W (w2.setCell ⟨ab, ap + 7, none⟩ (.slice ak M.length ck)) := (h.low.trans (hb.mono h.low.size)).setCell (p := ⟨ab, ap + 7, none⟩) (by show W.heap.size ≤ ab; have := h.ge; have := h.sz; omega) _
  have hrow3 := owns_set hrow (p := ⟨ab, ap + 7, none⟩) (show ab < base by omega) (.slice ak M.length ck)
  obtain ⟨a8, c8, e8, h81, h82, hK8, _⟩ := ksH_of_ownsS (S := upS nb S) (fun k hk => by
    simp [upS] at hk
    rcases hk with hk | hk
    · have := h.res.1.lt; omega
    · have := h.hS k hk; have := h.low.size; omega) hrow3 (fun e he => (hMN e he).on (mle_up hlow3 h.sz))
  simp only [Value.slice.injEq, true_and] at e8
  obtain ⟨rfl, rfl⟩ := e8
  have hat3 := nat_set7 (h.atc.below hb) (bare M) ak ck
  rw [bare_length] at hat3
  have hN3 : NdV (offS (w2.setCell ⟨ab, ap + 7, none⟩ (.slice ak M.length ck)).cell? (upS nb S)) (y.with (bare M)) ⟨hy.aa, hy.ca, ak, ck⟩ := by
    have ht := h.tree
    obtain ⟨k, mo, u, gg, o, at_, d, ks⟩ := y
    obtain ⟨t1, t2, t3, _⟩ := ndV_iff.1 ht
    exact ndV_iff.2 ⟨t1.on (mle_up hlow3 h.sz), t2, ⟨by rw [bare_length]; exact h81, h82⟩, ksH_ksV hK8⟩
  obtain ⟨hr, g1, g2⟩ := h2 _ hlow3 (fun q v hv hn => (World.cell?_setCell_other _ _ _ _ (fun e => hn 7 (by omega) e.symm)).trans ((hb.cell (World.block_lt_of_cell? _ _ hv)).trans hv)) _ _ hat3 hN3
  refine ⟨_, hr, ?_, g1, g2, hlow3, (h.res.below hb).other (p := ⟨ab, ap + 7, none⟩) h.ne _⟩
  rw [h1, chgF, if_neg (by simp [hk]), hM]
  rfl
end Go.Proofs.Ytkkhfnkmfkdhiab
