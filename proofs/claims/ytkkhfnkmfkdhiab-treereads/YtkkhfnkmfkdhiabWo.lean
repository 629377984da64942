/-
  WHAT THE CLOSURES OF Cut AND Put DO: the walks.
-/
import Derived.Test.YtkkhfnkmfkdhiabWm
import Derived.Test.YtkkhfnkmfkdhiabWn
import Derived.Deep.RegionHeld3
namespace Go.Proofs.Ytkkhfnkmfkdhiab
open Go.RowKit

theorem kfl_take (L : Khs) (k : Nat) : kfl (L.take k) = (kfl L).take (k * 9) := by
  by_cases hk : k ≤ L.length
  · have h := kfl_append (L.take k) (L.drop k)
    rw [List.take_append_drop] at h
    have hl : (kfl (L.take k)).length = k * 9 := by rw [kfl_length, List.length_take, Nat.min_eq_left hk]
    conv => rhs; rw [h, ← hl, List.take_left]
  · have h1 : L.take k = L := List.take_of_length_le (by omega)
    have h2 : (kfl L).take (k * 9) = kfl L := List.take_of_length_le (by rw [kfl_length]; omega)
    rw [h1, h2]
theorem kfl_drop (L : Khs) (k : Nat) : kfl (L.drop k) = (kfl L).drop (k * 9) := by
  by_cases hk : k ≤ L.length
  · have h := kfl_append (L.take k) (L.drop k)
    rw [List.take_append_drop] at h
    have hl : (kfl (L.take k)).length = k * 9 := by rw [kfl_length, List.length_take, Nat.min_eq_left hk]
    conv => rhs; rw [h, ← hl, List.drop_left]
  · have h1 : L.drop k = [] := List.drop_of_length_le (by omega)
    have h2 : (kfl L).drop (k * 9) = [] := List.drop_of_length_le (by rw [kfl_length]; omega)
    rw [h1, h2]; rfl
theorem KsH.take {c : Mem} {a : Option Addr} {L : Khs} (h : KsH c a L) (k : Nat) : KsH c a (L.take k) := by
  obtain ⟨h1, h2⟩ := h
  refine ⟨?_, fun e he => h2 e (List.mem_of_mem_take he)⟩
  rcases h1 with rfl | ⟨b, off, ha, hc⟩
  · exact .inl (by simp)
  · refine .inr ⟨b, off, ha, fun j u hj => hc j u ?_⟩
    rw [kfl_take, List.getElem?_take] at hj
    split at hj
    · exact hj
    · cases hj
theorem KsH.drop {c : Mem} {a : Option Addr} {L : Khs} (h : KsH c a L) (k : Nat) : KsH c (a.map (·.add (k * 9))) (L.drop k) := by
  obtain ⟨h1, h2⟩ := h
  refine ⟨?_, fun e he => h2 e (List.mem_of_mem_drop he)⟩
  rcases h1 with rfl | ⟨b, off, rfl, hc⟩
  · exact .inl (by simp)
  · refine .inr ⟨b, off + k * 9, by simp [addr_add], fun j u hj => ?_⟩
    rw [kfl_drop, List.getElem?_drop] at hj
    have := hc _ u hj
    rw [← Nat.add_assoc] at this; exact this
theorem KsH.none {c : Mem} {a : Option Addr} {L : Khs} (h : L.length = 0) : KsH c a L := by
  have := List.eq_nil_of_length_eq_zero h
  subst this
  exact ⟨.inl rfl, fun e he => by cases he⟩

/-- One kid put, one cut, with where their lists lie. -/
def putH (m : ByteArray) (x : Nd) (h : Hd) (L : Khs) : Khs :=
  if kidI m (bare L) 0 < 0 then L.take (abvN m (bare L)) ++ ([(m, x, h)] ++ L.drop (abvN m (bare L))) else L.take (kidI m (bare L) 0).toNat ++ ([(m, x, h)] ++ L.drop ((kidI m (bare L) 0).toNat + 1))
def cutH (m : ByteArray) (L : Khs) : Khs := L.take (kidI m (bare L) 0).toNat ++ L.drop ((kidI m (bare L) 0).toNat + 1)
theorem bare_put (m : ByteArray) (x : Nd) (h : Hd) (L : Khs) : bare (putH m x h L) = putK m x (bare L) := by
  unfold putH putK
  split <;> simp [bare]
theorem bare_cut (m : ByteArray) (L : Khs) : bare (cutH m L) = cutK m (bare L) := by
  unfold cutH cutK
  rw [bare_append, bare_take, bare_drop]
theorem mem_put {m : ByteArray} {x : Nd} {h : Hd} {L : Khs} {e : ByteArray × Nd × Hd} (he : e ∈ putH m x h L) : e = (m, x, h) ∨ e ∈ L := by
  unfold putH at he
  split at he
  all_goals
    rcases List.mem_append.1 he with q | q
    · exact .inr (List.mem_of_mem_take q)
    · rcases List.mem_append.1 q with q | q
      · exact .inl (by simpa using q)
      · exact .inr (List.mem_of_mem_drop q)
theorem mem_cut {m : ByteArray} {L : Khs} {e : ByteArray × Nd × Hd} (he : e ∈ cutH m L) : e ∈ L := by
  unfold cutH at he
  rcases List.mem_append.1 he with q | q
  · exact List.mem_of_mem_take q
  · exact List.mem_of_mem_drop q
theorem put_len (m : ByteArray) (x : Nd) (h : Hd) (L : Khs) : (putH m x h L).length ≤ L.length + 1 := by
  unfold putH
  split <;> simp <;> omega
theorem cut_len (m : ByteArray) (L : Khs) : (cutH m L).length ≤ L.length := by
  unfold cutH
  simp; omega
/-- What the closures answer. -/
def altL (c : Option (Nd × Hd)) (m : ByteArray) (L : Khs) : Except Int Khs := match c with
  | some p => if nameB m = false then .error 4 else .ok (putH m p.1 p.2 L)
  | none => if kidI m (bare L) 0 < 0 then .error 5 else .ok (cutH m L)
theorem alt_last (c : Option (Nd × Hd)) (m : ByteArray) (L : Khs) : lastF (c.map (·.1)) m (bare L) = match altL c m L with | .error f => .error f | .ok M => .ok (bare M) := by
  cases c with
  | none => simp only [lastF, altL, Option.map]; split <;> simp [bare_cut]
  | some p => simp only [lastF, altL, Option.map]; split <;> simp [bare_put]
def AltR (c : Option (Nd × Hd)) (m : ByteArray) (L : Khs) (w w' : World) (e : Ending) : Prop :=
  ((∃ f, altL c m L = .error f ∧ f ≠ 0 ∧ e = .returned (.tuple #[.slice none 0 0, .iface 96 (.int .i64 f)])) ∨ ∃ M v, altL c m L = .ok M ∧ e = .returned (.tuple #[v, .nilIface]) ∧ w'.ownsRow w.heap.size 102 9 v M.length (kfl M)) ∧ Below w.heap.size w w'

theorem concat3K (bs : Nat) (A B C : Pt) (L : Khs) (w : World) (hL : L = A.l ++ (B.l ++ C.l)) (hl : L.length ≤ 1000)
    (h0 : w.cell? ⟨bs, 0, none⟩ = some (.slice A.a A.l.length A.c)) (h1 : w.cell? ⟨bs, 1, none⟩ = some (.slice B.a B.l.length B.c)) (h2 : w.cell? ⟨bs, 2, none⟩ = some (.slice C.a C.l.length C.c))
    (k0 : KsH w.cell? A.a A.l) (k1 : KsH w.cell? B.a B.l) (k2 : KsH w.cell? C.a C.l) :
    Calls Try.prog 74 #[.slice (some ⟨bs, 0, none⟩) 3 3] w fun e w' => (∃ v, e = .returned v ∧ w'.ownsRow w.heap.size 102 9 v L.length (kfl L)) ∧ Below w.heap.size w w' := by
  have hp : parts [A, B, C] = L := by rw [hL]; simp [parts]
  have := concatK_any bs 3 [A, B, C] w (by simp) (by rw [hp]; exact hl) (by
    intro i p hi
    match i with
    | 0 => simp at hi; subst hi; exact ⟨h0, k0⟩
    | 1 => simp at hi; subst hi; exact ⟨h1, k1⟩
    | 2 => simp at hi; subst hi; exact ⟨h2, k2⟩
    | j + 3 => simp at hi)
  rw [hp] at this
  exact this
theorem concat2K (bs : Nat) (A B : Pt) (L : Khs) (w : World) (hL : L = A.l ++ B.l) (hl : L.length ≤ 1000)
    (h0 : w.cell? ⟨bs, 0, none⟩ = some (.slice A.a A.l.length A.c)) (h1 : w.cell? ⟨bs, 1, none⟩ = some (.slice B.a B.l.length B.c))
    (k0 : KsH w.cell? A.a A.l) (k1 : KsH w.cell? B.a B.l) :
    Calls Try.prog 74 #[.slice (some ⟨bs, 0, none⟩) 2 2] w fun e w' => (∃ v, e = .returned v ∧ w'.ownsRow w.heap.size 102 9 v L.length (kfl L)) ∧ Below w.heap.size w w' := by
  have hp : parts [A, B] = L := by rw [hL]; simp [parts]
  have := concatK_any bs 2 [A, B] w (by simp) (by rw [hp]; exact hl) (by
    intro i p hi
    match i with
    | 0 => simp at hi; subst hi; exact ⟨h0, k0⟩
    | 1 => simp at hi; subst hi; exact ⟨h1, k1⟩
    | j + 2 => simp at hi)
  rw [hp] at this
  exact this

set_option maxRecDepth 100000 in
set_option maxHeartbeats 2000000 in
theorem cut1_any (a : Option Addr) (cap : Nat) (L : Khs) (m : ByteArray) (w : World) (hl : L.length ≤ 1000) (hcap : L.length ≤ cap) (hcm : cap ≤ 9223372036854775807) (h : KsH w.cell? a L) :
    Calls Try.prog 75 #[.slice a L.length cap, .string m] w fun e w' => AltR none m L w w' e := by
  have hP := fun W (hk : KsH W.cell? a L) => place_any a cap (bare L) m W (by rw [bare_length]; exact hl) (ksH_ksV hk)
  rw [bare_length] at hP
  have HP : Hid (∀ W, KsH W.cell? a L → Calls Try.prog 68 #[.slice a L.length cap, .string m] W fun e w' => e = .returned (.int .i64 (kidI m (bare L) 0)) ∧ Below W.heap.size W w') := hP
  clear hP
  have hat := kidI_at m (bare L) 0
  rcases hat with ⟨hn, _⟩ | ⟨p, x, hp, hx, _⟩
  · have HN : Hid (kidI m (bare L) 0 = -1) := hn
    have HE : Hid (altL none m L = .error 5) := by show _ = _; simp [altL, hn]
    clear hn
    go_enter Try.func75, Try.ntmps75
    go_wp2_with fail
    refine Calls.mono (HP.out _ h) ?_
    rintro e w1 ⟨rfl, hB⟩
    rw [HN.out]
    clear HP
    go_wp2
    go_ret2
    exact ⟨.inl ⟨5, HE.out, by decide, rfl⟩, hB⟩
  · rw [Nat.zero_add] at hp
    have hlt : p < L.length := by have := (List.getElem?_eq_some_iff.1 hx).1; rwa [bare_length] at this
    have HN : Hid (kidI m (bare L) 0 = (p : Int)) := hp
    have HM : Hid (cutH m L = L.take p ++ L.drop (p + 1)) := by show _ = _; unfold cutH; rw [hp]; rfl
    have HE : Hid (altL none m L = .ok (cutH m L)) := by
      show _ = _
      simp only [altL]
      rw [hp, if_neg (by omega)]
    have HL : Hid ((cutH m L).length ≤ 1000) := by have := cut_len m L; show _ ≤ _; omega
    clear hp hx
    have p1 : (0 : Int) ≤ (p : Int) := by omega
    have p2 : (p : Int) ≤ (L.length : Int) := by omega
    have p3 : (p : Int) ≤ (cap : Int) := by omega
    have p4 : (p : Int) + 1 ≤ (L.length : Int) := by omega
    have p5 : (0 : Int) ≤ (p : Int) + 1 := by omega
    have p6 : IntKind.i64.wrap ((p : Int) + 1) = (p : Int) + 1 := wrap_small (by omega) (by omega)
    have htl : (L.take p).length = p := by simp; omega
    have HCC : Hid (∀ (W : World) (bs : Nat), KsH W.cell? a L → W.cell? ⟨bs, 0, none⟩ = some (.slice a p cap) → W.cell? ⟨bs, 1, none⟩ = some (.slice (if cap = p + 1 then a else a.map (·.add ((p + 1) * 9))) (L.length - (p + 1)) (cap - (p + 1))) → Calls Try.prog 74 #[.slice (some ⟨bs, 0, none⟩) 2 2] W fun e w' => (∃ v, e = .returned v ∧ w'.ownsRow W.heap.size 102 9 v (cutH m L).length (kfl (cutH m L))) ∧ Below W.heap.size W w') := by
      intro W bs hk h0 h1
      have hk2 : KsH W.cell? (if cap = p + 1 then a else a.map (·.add ((p + 1) * 9))) (L.drop (p + 1)) := by
        split
        · exact KsH.none (by simp; omega)
        · exact hk.drop (p + 1)
      exact concat2K bs ⟨a, cap, L.take p⟩ ⟨if cap = p + 1 then a else a.map (·.add ((p + 1) * 9)), cap - (p + 1), L.drop (p + 1)⟩ (cutH m L) W HM.out HL.out (by rw [htl]; exact h0) (by rw [show (L.drop (p + 1)).length = L.length - (p + 1) by simp]; exact h1) (hk.take p) hk2
    clear htl HM HL
    go_enter Try.func75, Try.ntmps75
    go_wp2_with fail
    refine Calls.mono (HP.out _ h) ?_
    rintro e w1 ⟨rfl, hB⟩
    rw [HN.out]
    clear HP
    have c0 : (w1.drew.alloc (.cells #[.slice a p cap, .slice (if cap = p + 1 then a else a.map (·.add ((p + 1) * 9))) (L.length - (p + 1)) (cap - (p + 1))] 23)).cell? ⟨w1.heap.size, 0, none⟩ = some (.slice a p cap) := World.cell?_alloc_at _ _ _ _ rfl
    have c1 : (w1.drew.alloc (.cells #[.slice a p cap, .slice (if cap = p + 1 then a else a.map (·.add ((p + 1) * 9))) (L.length - (p + 1)) (cap - (p + 1))] 23)).cell? ⟨w1.heap.size, 1, none⟩ = some (.slice (if cap = p + 1 then a else a.map (·.add ((p + 1) * 9))) (L.length - (p + 1)) (cap - (p + 1))) := World.cell?_alloc_at _ _ _ _ rfl
    have hB1 : Below w.heap.size w (w1.drew.alloc (.cells #[.slice a p cap, .slice (if cap = p + 1 then a else a.map (·.add ((p + 1) * 9))) (L.length - (p + 1)) (cap - (p + 1))] 23)) := (below_drewN hB 1).alloc hB.size _
    have hk2 := h.on (mle_below hB1)
    go_wp2_with fail
    go_region_held3 (fun _ => True) (trivial) (first | (go_at_call 74; refine (HCC.out _ _ hk2 c0 c1).mono ?_; rintro e w2 ⟨⟨v, rfl, g1⟩, hB4⟩; generalize (if cap = p + 1 then a else a.map (·.add ((p + 1) * 9))) = AD at hk2 c0 c1 hB1 hB4 g1 ⊢))
    all_goals
      have hB5 := hB1.trans (hB4.mono hB1.size)
      have g2 : w2.ownsRow w.heap.size 102 9 v (cutH m L).length (kfl (cutH m L)) := g1.mono hB1.size
      clear hB1 hB4 hB hk2 c0 c1 HCC g1
      go_wp2
      go_ret2
      exact ⟨.inr ⟨_, _, HE.out, rfl, g2⟩, hB5⟩

set_option maxRecDepth 100000 in
set_option maxHeartbeats 2000000 in
theorem put1_any (a : Option Addr) (cap bx : Nat) (x : Nd) (hx : Hd) (L : Khs) (m : ByteArray) (w : World) (hl : L.length ≤ 900) (hcap : L.length ≤ cap) (hcm : cap ≤ 9223372036854775807) (h : KsH w.cell? a L) (hX : NBox w bx x hx) (hN : NdV w.cell? x hx) :
    Calls Try.prog 71 #[.slice a L.length cap, .string m, .pointer (some ⟨bx, 0, none⟩)] w fun e w' => AltR (some (x, hx)) m L w w' e := by
  obtain ⟨t, ht⟩ : ∃ t, nameB m = t := ⟨_, rfl⟩
  have HT : Hid (nameB m = t) := ht
  cases t
  · have HE : Hid (altL (some (x, hx)) m L = .error 4) := by show _ = _; simp [altL, ht]
    clear ht
    go_enter Try.func71, Try.ntmps71
    go_wp2_with fail
    refine (name_any m _).mono ?_
    rintro e w' ⟨rfl, rfl⟩
    rw [HT.out]
    go_wp2
    go_ret2
    exact ⟨.inl ⟨4, HE.out, by decide, rfl⟩, Below.refl _ _⟩
  have HE : Hid (altL (some (x, hx)) m L = .ok (putH m x hx L)) := by show _ = _; simp [altL, ht]
  have HL : Hid ((putH m x hx L).length ≤ 1000) := by have := put_len m x hx L; show _ ≤ _; omega
  clear ht
  have HP : Hid (∀ W, KsH W.cell? a L → Calls Try.prog 68 #[.slice a L.length cap, .string m] W fun e w' => e = .returned (.int .i64 (kidI m (bare L) 0)) ∧ Below W.heap.size W w') := by
    intro W hk
    have := place_any a cap (bare L) m W (by rw [bare_length]; omega) (ksH_ksV hk)
    rwa [bare_length] at this
  have HAB : Hid (∀ W, KsH W.cell? a L → Calls Try.prog 73 #[.slice a L.length cap, .string m] W fun e w' => e = .returned (.int .i64 (abvN m (bare L))) ∧ Below W.heap.size W w') := by
    intro W hk
    have := above_any a cap (bare L) m W (by rw [bare_length]; omega) (ksH_ksV hk)
    rwa [bare_length] at this
  obtain ⟨k, mo, u, g, o, at_, d, ks⟩ := x
  have HCC : Hid (∀ (W : World) (bs bk p q : Nat), p ≤ L.length → q ≤ L.length → putH m (.mk k mo u g o at_ d ks) hx L = L.take p ++ ([(m, .mk k mo u g o at_ d ks, hx)] ++ L.drop q) → KsH W.cell? a L → NdV W.cell? (.mk k mo u g o at_ d ks) hx → KdAt W.cell? bk 0 m (.mk k mo u g o at_ d ks) hx → W.cell? ⟨bs, 0, none⟩ = some (.slice a p cap) → W.cell? ⟨bs, 1, none⟩ = some (.slice (some ⟨bk, 0, none⟩) 1 1) → W.cell? ⟨bs, 2, none⟩ = some (.slice (if cap = q then a else a.map (·.add (q * 9))) (L.length - q) (cap - q)) →
      Calls Try.prog 74 #[.slice (some ⟨bs, 0, none⟩) 3 3] W fun e w' => (∃ v, e = .returned v ∧ w'.ownsRow W.heap.size 102 9 v (putH m (.mk k mo u g o at_ d ks) hx L).length (kfl (putH m (.mk k mo u g o at_ d ks) hx L))) ∧ Below W.heap.size W w') := by
    intro W bs bk p q hp hq hput hk hNx hKx h0 h1 h2
    have hk2 : KsH W.cell? (if cap = q then a else a.map (·.add (q * 9))) (L.drop q) := by
      split
      · exact KsH.none (by simp; omega)
      · exact hk.drop q
    have hk1 : KsH W.cell? (some ⟨bk, 0, none⟩) [(m, .mk k mo u g o at_ d ks, hx)] := by
      refine ⟨.inr ⟨bk, 0, rfl, fun j v hj => ?_⟩, fun e he => by simp at he; subst he; exact hNx⟩
      exact kdAt_iff.1 hKx j v (by simpa [kfl] using hj)
    exact concat3K bs ⟨a, cap, L.take p⟩ ⟨some ⟨bk, 0, none⟩, 1, [(m, .mk k mo u g o at_ d ks, hx)]⟩ ⟨if cap = q then a else a.map (·.add (q * 9)), cap - q, L.drop q⟩ _ W hput HL.out (by rw [show (L.take p).length = p by simp; omega]; exact h0) h1 (by rw [show (L.drop q).length = L.length - q by simp]; exact h2) (hk.take p) hk1 hk2
  rcases kidI_at m (bare L) 0 with ⟨hn, _⟩ | ⟨p, x, hp, hx', _⟩
  · have HN : Hid (kidI m (bare L) 0 = -1) := hn
    obtain ⟨p, hp⟩ : ∃ p, abvN m (bare L) = p := ⟨_, rfl⟩
    have HM : Hid (putH m (.mk k mo u g o at_ d ks) hx L = L.take p ++ ([(m, .mk k mo u g o at_ d ks, hx)] ++ L.drop p)) := by
      show _ = _
      unfold putH
      rw [if_pos (by rw [hn]; decide), hp]
    have hp1 : p ≤ L.length := by have := abvN_le m (bare L); rw [bare_length] at this; omega
    have hp2 := hp1
    have HA : Hid (abvN m (bare L) = p) := hp
    clear hn hp HL
    have p1 : (0 : Int) ≤ (p : Int) := by omega
    have p2 : (p : Int) ≤ (L.length : Int) := by omega
    have p3 : (p : Int) ≤ (cap : Int) := by omega
    go_enter Try.func71, Try.ntmps71
    go_wp2_with fail
    refine (name_any m _).mono ?_
    rintro e w' ⟨rfl, rfl⟩
    rw [HT.out]
    go_wp2_with fail
    refine Calls.mono (HP.out _ h) ?_
    rintro e w0 ⟨rfl, hB0⟩
    rw [HN.out]
    have h0 := h.on (mle_below hB0)
    go_wp2_with fail
    refine Calls.mono (HAB.out _ h0) ?_
    rintro e w1 ⟨rfl, hB01⟩
    rw [HA.out]
    have hB := hB0.trans (hB01.mono hB0.size)
    clear HP HAB hB0 hB01 h0
    have hs1 : w1.drew.heap.size = w1.heap.size := rfl
    have hB1 : Below w.heap.size w (w1.drew.alloc (.cells #[.string m, .int .i64 k, .int .i64 mo, .int .i64 u, .int .i64 g, .bool o, .slice hx.aa at_.length hx.ca, .string d, .slice hx.ak ks.length hx.ck] 102)) := (below_drewN hB 1).alloc hB.size _
    have hB2 : Below w.heap.size w ((w1.drew.alloc (.cells #[.string m, .int .i64 k, .int .i64 mo, .int .i64 u, .int .i64 g, .bool o, .slice hx.aa at_.length hx.ca, .string d, .slice hx.ak ks.length hx.ck] 102)).alloc (.cells #[.slice a p cap, .slice (some ⟨w1.heap.size, 0, none⟩) 1 1, .slice (if cap = p then a else a.map (·.add (p * 9))) (L.length - p) (cap - p)] 23)) := hB1.alloc hB1.size _
    have kd : KdAt ((w1.drew.alloc (.cells #[.string m, .int .i64 k, .int .i64 mo, .int .i64 u, .int .i64 g, .bool o, .slice hx.aa at_.length hx.ca, .string d, .slice hx.ak ks.length hx.ck] 102)).alloc (.cells #[.slice a p cap, .slice (some ⟨w1.heap.size, 0, none⟩) 1 1, .slice (if cap = p then a else a.map (·.add (p * 9))) (L.length - p) (cap - p)] 23)).cell? w1.heap.size 0 m (.mk k mo u g o at_ d ks) hx := by
      have hb := (Below.refl _ (w1.drew.alloc (.cells #[.string m, .int .i64 k, .int .i64 mo, .int .i64 u, .int .i64 g, .bool o, .slice hx.aa at_.length hx.ca, .string d, .slice hx.ak ks.length hx.ck] 102))).alloc (Nat.le_refl _) (.cells #[.slice a p cap, .slice (some ⟨w1.heap.size, 0, none⟩) 1 1, .slice (if cap = p then a else a.map (·.add (p * 9))) (L.length - p) (cap - p)] 23)
      refine KdAt.below ?_ hb
      exact ⟨World.cell?_alloc_at _ _ _ _ rfl, World.cell?_alloc_at _ _ _ _ rfl, World.cell?_alloc_at _ _ _ _ rfl, World.cell?_alloc_at _ _ _ _ rfl, World.cell?_alloc_at _ _ _ _ rfl, World.cell?_alloc_at _ _ _ _ rfl, World.cell?_alloc_at _ _ _ _ rfl, World.cell?_alloc_at _ _ _ _ rfl, World.cell?_alloc_at _ _ _ _ rfl⟩
    have nw : ∀ i v, (#[.slice a p cap, .slice (some ⟨w1.heap.size, 0, none⟩) 1 1, .slice (if cap = p then a else a.map (·.add (p * 9))) (L.length - p) (cap - p)] : Array Value)[i]? = some v → ((w1.drew.alloc (.cells #[.string m, .int .i64 k, .int .i64 mo, .int .i64 u, .int .i64 g, .bool o, .slice hx.aa at_.length hx.ca, .string d, .slice hx.ak ks.length hx.ck] 102)).alloc (.cells #[.slice a p cap, .slice (some ⟨w1.heap.size, 0, none⟩) 1 1, .slice (if cap = p then a else a.map (·.add (p * 9))) (L.length - p) (cap - p)] 23)).cell? ⟨w1.heap.size + 1, i, none⟩ = some v := by
      intro i v hv
      have e : ((w1.drew.alloc (.cells #[.string m, .int .i64 k, .int .i64 mo, .int .i64 u, .int .i64 g, .bool o, .slice hx.aa at_.length hx.ca, .string d, .slice hx.ak ks.length hx.ck] 102)).alloc (.cells #[.slice a p cap, .slice (some ⟨w1.heap.size, 0, none⟩) 1 1, .slice (if cap = p then a else a.map (·.add (p * 9))) (L.length - p) (cap - p)] 23)).cell? ⟨(w1.drew.alloc (.cells #[.string m, .int .i64 k, .int .i64 mo, .int .i64 u, .int .i64 g, .bool o, .slice hx.aa at_.length hx.ca, .string d, .slice hx.ak ks.length hx.ck] 102)).heap.size, i, none⟩ = (#[.slice a p cap, .slice (some ⟨w1.heap.size, 0, none⟩) 1 1, .slice (if cap = p then a else a.map (·.add (p * 9))) (L.length - p) (cap - p)] : Array Value)[i]? := World.cell?_alloc_at _ _ _ _ rfl
      rw [World.size_alloc] at e
      exact e.trans hv
    have n0 := nw 0 _ rfl
    have n1 := nw 1 _ rfl
    have n2 := nw 2 _ rfl
    have hk2 := h.on (mle_below hB2)
    have hN2 := hN.ab hB2
    have hX1 := hX.below hB
    have T0 : NBox w1.drew bx (.mk k mo u g o at_ d ks) hx := hX1
    have T1 := hX.below hB1
    have T2 := hX.below hB2
    obtain ⟨y0, y1, y2, y3, y4, y5, y6, y7⟩ := hX1
    clear nw
    go_wp2_with fail
    go_region_held3 (fun w' => w'.cell? ⟨bx, 0, none⟩ = some (.int .i64 k) ∧ w'.cell? ⟨bx, 1, none⟩ = some (.int .i64 mo) ∧ w'.cell? ⟨bx, 2, none⟩ = some (.int .i64 u) ∧ w'.cell? ⟨bx, 3, none⟩ = some (.int .i64 g) ∧ w'.cell? ⟨bx, 4, none⟩ = some (.bool o) ∧ w'.cell? ⟨bx, 5, none⟩ = some (.slice hx.aa at_.length hx.ca) ∧ w'.cell? ⟨bx, 6, none⟩ = some (.string d) ∧ w'.cell? ⟨bx, 7, none⟩ = some (.slice hx.ak ks.length hx.ck)) (first | exact T0 | exact T1 | exact T2 | exact T3) (first | (go_at_call 74; refine (HCC.out _ _ _ p (p) hp1 hp2 HM.out hk2 hN2 kd n0 n1 n2).mono ?_; rintro e w2 ⟨⟨v, rfl, g1⟩, hB4⟩; have T3 := T2.below hB4; generalize (if cap = p then a else a.map (·.add (p * 9))) = AD at hk2 hN2 kd n0 n1 n2 hB2 hB4 g1 T2 ⊢))
    all_goals
      have hB5 := hB2.trans (hB4.mono hB2.size)
      have g2 : w2.ownsRow w.heap.size 102 9 v (putH m (.mk k mo u g o at_ d ks) hx L).length (kfl (putH m (.mk k mo u g o at_ d ks) hx L)) := g1.mono hB2.size
      clear T0 T1 T2 T3 hB1 hB2 hB4 hB hk2 hN2 kd n0 n1 n2 HCC g1 y0 y1 y2 y3 y4 y5 y6 y7 hX
      go_wp2
      go_ret2
      exact ⟨.inr ⟨_, _, HE.out, rfl, g2⟩, hB5⟩
  · rw [Nat.zero_add] at hp
    have hlt : p < L.length := by have := (List.getElem?_eq_some_iff.1 hx').1; rwa [bare_length] at this
    have HN : Hid (kidI m (bare L) 0 = (p : Int)) := hp
    have HM : Hid (putH m (.mk k mo u g o at_ d ks) hx L = L.take p ++ ([(m, .mk k mo u g o at_ d ks, hx)] ++ L.drop (p + 1))) := by
      show _ = _
      unfold putH
      rw [if_neg (by rw [hp]; omega), hp]; rfl
    have hp1 : p ≤ L.length := by omega
    have hp2 : p + 1 ≤ L.length := by omega
    clear hp hx' HL
    have p1 : (0 : Int) ≤ (p : Int) := by omega
    have p2 : (p : Int) ≤ (L.length : Int) := by omega
    have p3 : (p : Int) ≤ (cap : Int) := by omega
    have p4 : (p : Int) + 1 ≤ (L.length : Int) := by omega
    have p5 : (0 : Int) ≤ (p : Int) + 1 := by omega
    have p6 : IntKind.i64.wrap ((p : Int) + 1) = (p : Int) + 1 := wrap_small (by omega) (by omega)
    have p7 : decide ((p : Int) < 0) = false := decide_eq_false (by omega)
    go_enter Try.func71, Try.ntmps71
    go_wp2_with fail
    refine (name_any m _).mono ?_
    rintro e w' ⟨rfl, rfl⟩
    rw [HT.out]
    go_wp2_with fail
    refine Calls.mono (HP.out _ h) ?_
    rintro e w1 ⟨rfl, hB⟩
    rw [HN.out]
    clear HP HAB
    have hs1 : w1.drew.heap.size = w1.heap.size := rfl
    have hB1 : Below w.heap.size w (w1.drew.alloc (.cells #[.string m, .int .i64 k, .int .i64 mo, .int .i64 u, .int .i64 g, .bool o, .slice hx.aa at_.length hx.ca, .string d, .slice hx.ak ks.length hx.ck] 102)) := (below_drewN hB 1).alloc hB.size _
    have hB2 : Below w.heap.size w ((w1.drew.alloc (.cells #[.string m, .int .i64 k, .int .i64 mo, .int .i64 u, .int .i64 g, .bool o, .slice hx.aa at_.length hx.ca, .string d, .slice hx.ak ks.length hx.ck] 102)).alloc (.cells #[.slice a p cap, .slice (some ⟨w1.heap.size, 0, none⟩) 1 1, .slice (if cap = p + 1 then a else a.map (·.add ((p + 1) * 9))) (L.length - (p + 1)) (cap - (p + 1))] 23)) := hB1.alloc hB1.size _
    have kd : KdAt ((w1.drew.alloc (.cells #[.string m, .int .i64 k, .int .i64 mo, .int .i64 u, .int .i64 g, .bool o, .slice hx.aa at_.length hx.ca, .string d, .slice hx.ak ks.length hx.ck] 102)).alloc (.cells #[.slice a p cap, .slice (some ⟨w1.heap.size, 0, none⟩) 1 1, .slice (if cap = p + 1 then a else a.map (·.add ((p + 1) * 9))) (L.length - (p + 1)) (cap - (p + 1))] 23)).cell? w1.heap.size 0 m (.mk k mo u g o at_ d ks) hx := by
      have hb := (Below.refl _ (w1.drew.alloc (.cells #[.string m, .int .i64 k, .int .i64 mo, .int .i64 u, .int .i64 g, .bool o, .slice hx.aa at_.length hx.ca, .string d, .slice hx.ak ks.length hx.ck] 102))).alloc (Nat.le_refl _) (.cells #[.slice a p cap, .slice (some ⟨w1.heap.size, 0, none⟩) 1 1, .slice (if cap = p + 1 then a else a.map (·.add ((p + 1) * 9))) (L.length - (p + 1)) (cap - (p + 1))] 23)
      refine KdAt.below ?_ hb
      exact ⟨World.cell?_alloc_at _ _ _ _ rfl, World.cell?_alloc_at _ _ _ _ rfl, World.cell?_alloc_at _ _ _ _ rfl, World.cell?_alloc_at _ _ _ _ rfl, World.cell?_alloc_at _ _ _ _ rfl, World.cell?_alloc_at _ _ _ _ rfl, World.cell?_alloc_at _ _ _ _ rfl, World.cell?_alloc_at _ _ _ _ rfl, World.cell?_alloc_at _ _ _ _ rfl⟩
    have nw : ∀ i v, (#[.slice a p cap, .slice (some ⟨w1.heap.size, 0, none⟩) 1 1, .slice (if cap = p + 1 then a else a.map (·.add ((p + 1) * 9))) (L.length - (p + 1)) (cap - (p + 1))] : Array Value)[i]? = some v → ((w1.drew.alloc (.cells #[.string m, .int .i64 k, .int .i64 mo, .int .i64 u, .int .i64 g, .bool o, .slice hx.aa at_.length hx.ca, .string d, .slice hx.ak ks.length hx.ck] 102)).alloc (.cells #[.slice a p cap, .slice (some ⟨w1.heap.size, 0, none⟩) 1 1, .slice (if cap = p + 1 then a else a.map (·.add ((p + 1) * 9))) (L.length - (p + 1)) (cap - (p + 1))] 23)).cell? ⟨w1.heap.size + 1, i, none⟩ = some v := by
      intro i v hv
      have e : ((w1.drew.alloc (.cells #[.string m, .int .i64 k, .int .i64 mo, .int .i64 u, .int .i64 g, .bool o, .slice hx.aa at_.length hx.ca, .string d, .slice hx.ak ks.length hx.ck] 102)).alloc (.cells #[.slice a p cap, .slice (some ⟨w1.heap.size, 0, none⟩) 1 1, .slice (if cap = p + 1 then a else a.map (·.add ((p + 1) * 9))) (L.length - (p + 1)) (cap - (p + 1))] 23)).cell? ⟨(w1.drew.alloc (.cells #[.string m, .int .i64 k, .int .i64 mo, .int .i64 u, .int .i64 g, .bool o, .slice hx.aa at_.length hx.ca, .string d, .slice hx.ak ks.length hx.ck] 102)).heap.size, i, none⟩ = (#[.slice a p cap, .slice (some ⟨w1.heap.size, 0, none⟩) 1 1, .slice (if cap = p + 1 then a else a.map (·.add ((p + 1) * 9))) (L.length - (p + 1)) (cap - (p + 1))] : Array Value)[i]? := World.cell?_alloc_at _ _ _ _ rfl
      rw [World.size_alloc] at e
      exact e.trans hv
    have n0 := nw 0 _ rfl
    have n1 := nw 1 _ rfl
    have n2 := nw 2 _ rfl
    have hk2 := h.on (mle_below hB2)
    have hN2 := hN.ab hB2
    have hX1 := hX.below hB
    have T0 : NBox w1.drew bx (.mk k mo u g o at_ d ks) hx := hX1
    have T1 := hX.below hB1
    have T2 := hX.below hB2
    obtain ⟨y0, y1, y2, y3, y4, y5, y6, y7⟩ := hX1
    clear nw
    go_wp2_with fail
    go_region_held3 (fun w' => w'.cell? ⟨bx, 0, none⟩ = some (.int .i64 k) ∧ w'.cell? ⟨bx, 1, none⟩ = some (.int .i64 mo) ∧ w'.cell? ⟨bx, 2, none⟩ = some (.int .i64 u) ∧ w'.cell? ⟨bx, 3, none⟩ = some (.int .i64 g) ∧ w'.cell? ⟨bx, 4, none⟩ = some (.bool o) ∧ w'.cell? ⟨bx, 5, none⟩ = some (.slice hx.aa at_.length hx.ca) ∧ w'.cell? ⟨bx, 6, none⟩ = some (.string d) ∧ w'.cell? ⟨bx, 7, none⟩ = some (.slice hx.ak ks.length hx.ck)) (first | exact T0 | exact T1 | exact T2 | exact T3) (first | (go_at_call 74; refine (HCC.out _ _ _ p (p + 1) hp1 hp2 HM.out hk2 hN2 kd n0 n1 n2).mono ?_; rintro e w2 ⟨⟨v, rfl, g1⟩, hB4⟩; have T3 := T2.below hB4; generalize (if cap = p + 1 then a else a.map (·.add ((p + 1) * 9))) = AD at hk2 hN2 kd n0 n1 n2 hB2 hB4 g1 T2 ⊢))
    all_goals
      have hB5 := hB2.trans (hB4.mono hB2.size)
      have g2 : w2.ownsRow w.heap.size 102 9 v (putH m (.mk k mo u g o at_ d ks) hx L).length (kfl (putH m (.mk k mo u g o at_ d ks) hx L)) := g1.mono hB2.size
      clear T0 T1 T2 T3 hB1 hB2 hB4 hB hk2 hN2 kd n0 n1 n2 HCC g1 y0 y1 y2 y3 y4 y5 y6 y7 hX
      go_wp2
      go_ret2
      exact ⟨.inr ⟨_, _, HE.out, rfl, g2⟩, hB5⟩
end Go.Proofs.Ytkkhfnkmfkdhiab
