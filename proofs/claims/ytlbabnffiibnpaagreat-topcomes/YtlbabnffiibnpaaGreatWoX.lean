/-
  WHAT THE CLOSURES OF Cut AND Put DO: the walks.
  A WAY DOWN A TREE, whose lists become new: the facts of no program.
  STEPS ALONG NAMES: the iterator's walk.
  NAMES IN WHAT IS SEEN; ALL THAT IS SEEN, LAID FLAT: the facts of no program.
  LAID FLAT IT SHOWS THE SAME: the facts of no program.
-/
import Derived.Test.YtlbabnffiibnpaaGreatNnX
import Derived.Test.YtlbabnffiibnpaaGreatMeX
import Derived.Deep.RegionHeld3
namespace Go.Proofs.YtlbabnffiibnpaaGreat
open Go.RowKit
theorem kfl_take (L : Khs) (k : Nat) : kfl (L.take k) = (kfl L).take (k * 9) := by
  by_cases hk : k ≤ L.length
  · have h := kfl_append (L.take k) (L.drop k)
    rw [List.take_append_drop] at h
    have hl : (kfl (L.take k)).length = k * 9 := by rw [kfl_length, List.length_take, Nat.min_eq_left hk]
    conv => rhs; rw [h, ← hl, List.take_left]
  · have h1 : L.take k = L := List.take_of_length_le (by omega)
    have h2 : (kfl L).take (k * 9) = kfl L := List.take_of_length_le (by rw [kfl_length]; omega)
    rw [h1, h2]
theorem kfl_drop (L : Khs) (k : Nat) : kfl (L.drop k) = (kfl L).drop (k * 9) := by
  by_cases hk : k ≤ L.length
  · have h := kfl_append (L.take k) (L.drop k)
    rw [List.take_append_drop] at h
    have hl : (kfl (L.take k)).length = k * 9 := by rw [kfl_length, List.length_take, Nat.min_eq_left hk]
    conv => rhs; rw [h, ← hl, List.drop_left]
  · have h1 : L.drop k = [] := List.drop_of_length_le (by omega)
    have h2 : (kfl L).drop (k * 9) = [] := List.drop_of_length_le (by rw [kfl_length]; omega)
    rw [h1, h2]; rfl
theorem KsH.take {c : Mem} {a : Option Addr} {L : Khs} (h : KsH c a L) (k : Nat) : KsH c a (L.take k) := by
  obtain ⟨h1, h2⟩ := h
  refine ⟨?_, fun e he => h2 e (List.mem_of_mem_take he)⟩
  rcases h1 with rfl | ⟨b, off, ha, hc⟩
  · exact .inl (by simp)
  · refine .inr ⟨b, off, ha, fun j u hj => hc j u ?_⟩
    rw [kfl_take, List.getElem?_take] at hj
    split at hj
    · exact hj
    · cases hj
theorem KsH.drop {c : Mem} {a : Option Addr} {L : Khs} (h : KsH c a L) (k : Nat) : KsH c (a.map (·.add (k * 9))) (L.drop k) := by
  obtain ⟨h1, h2⟩ := h
  refine ⟨?_, fun e he => h2 e (List.mem_of_mem_drop he)⟩
  rcases h1 with rfl | ⟨b, off, rfl, hc⟩
  · exact .inl (by simp)
  · refine .inr ⟨b, off + k * 9, by simp [addr_add], fun j u hj => ?_⟩
    rw [kfl_drop, List.getElem?_drop] at hj
    have := hc _ u hj
    rw [← Nat.add_assoc] at this; exact this
theorem KsH.none {c : Mem} {a : Option Addr} {L : Khs} (h : L.length = 0) : KsH c a L := by
  have := List.eq_nil_of_length_eq_zero h
  subst this
  exact ⟨.inl rfl, fun e he => by cases he⟩
/-- One kid put, one cut, with where their lists lie. -/
def putH (m : ByteArray) (x : Nd) (h : Hd) (L : Khs) : Khs :=
  if kidI m (bare L) 0 < 0 then L.take (abvN m (bare L)) ++ ([(m, x, h)] ++ L.drop (abvN m (bare L))) else L.take (kidI m (bare L) 0).toNat ++ ([(m, x, h)] ++ L.drop ((kidI m (bare L) 0).toNat + 1))
def cutH (m : ByteArray) (L : Khs) : Khs := L.take (kidI m (bare L) 0).toNat ++ L.drop ((kidI m (bare L) 0).toNat + 1)
theorem bare_put (m : ByteArray) (x : Nd) (h : Hd) (L : Khs) : bare (putH m x h L) = putK m x (bare L) := by
  unfold putH putK
  split <;> simp [bare]
theorem bare_cut (m : ByteArray) (L : Khs) : bare (cutH m L) = cutK m (bare L) := by
  unfold cutH cutK
  rw [bare_append, bare_take, bare_drop]
theorem mem_put {m : ByteArray} {x : Nd} {h : Hd} {L : Khs} {e : ByteArray × Nd × Hd} (he : e ∈ putH m x h L) : e = (m, x, h) ∨ e ∈ L := by
  unfold putH at he
  split at he
  all_goals
    rcases List.mem_append.1 he with q | q
    · exact .inr (List.mem_of_mem_take q)
    · rcases List.mem_append.1 q with q | q
      · exact .inl (by simpa using q)
      · exact .inr (List.mem_of_mem_drop q)
theorem put_len (m : ByteArray) (x : Nd) (h : Hd) (L : Khs) : (putH m x h L).length ≤ L.length + 1 := by
  unfold putH
  split <;> simp <;> omega
/-- What the closures answer. -/
def altL (c : Option (Nd × Hd)) (m : ByteArray) (L : Khs) : Except Int Khs := match c with
  | some p => if nameB m = false then .error 4 else .ok (putH m p.1 p.2 L)
  | none => if kidI m (bare L) 0 < 0 then .error 5 else .ok (cutH m L)
theorem alt_last (c : Option (Nd × Hd)) (m : ByteArray) (L : Khs) : lastF (c.map (·.1)) m (bare L) = match altL c m L with | .error f => .error f | .ok M => .ok (bare M) := by
  cases c with
  | none => simp only [lastF, altL, Option.map]; split <;> simp [bare_cut]
  | some p => simp only [lastF, altL, Option.map]; split <;> simp [bare_put]
def AltR (c : Option (Nd × Hd)) (m : ByteArray) (L : Khs) (w w' : World) (e : Ending) : Prop :=
  ((∃ f, altL c m L = .error f ∧ f ≠ 0 ∧ e = .returned (.tuple #[.slice none 0 0, .iface 44 (.int .i64 f)])) ∨ ∃ M v, altL c m L = .ok M ∧ e = .returned (.tuple #[v, .nilIface]) ∧ w'.ownsRow w.heap.size 61 9 v M.length (kfl M)) ∧ Below w.heap.size w w'
theorem concat3K (bs : Nat) (A B C : Pt) (L : Khs) (w : World) (hL : L = A.l ++ (B.l ++ C.l)) (hl : L.length ≤ 1000)
    (h0 : w.cell? ⟨bs, 0, none⟩ = some (.slice A.a A.l.length A.c)) (h1 : w.cell? ⟨bs, 1, none⟩ = some (.slice B.a B.l.length B.c)) (h2 : w.cell? ⟨bs, 2, none⟩ = some (.slice C.a C.l.length C.c))
    (k0 : KsH w.cell? A.a A.l) (k1 : KsH w.cell? B.a B.l) (k2 : KsH w.cell? C.a C.l) :
    Calls Tryz.prog 34 #[.slice (some ⟨bs, 0, none⟩) 3 3] w fun e w' => (∃ v, e = .returned v ∧ w'.ownsRow w.heap.size 61 9 v L.length (kfl L)) ∧ Below w.heap.size w w' := by
  have hp : parts [A, B, C] = L := by rw [hL]; simp [parts]
  have := concatK_any bs 3 [A, B, C] w (by simp) (by rw [hp]; exact hl) (by
    intro i p hi
    match i with
    | 0 => simp at hi; subst hi; exact ⟨h0, k0⟩
    | 1 => simp at hi; subst hi; exact ⟨h1, k1⟩
    | 2 => simp at hi; subst hi; exact ⟨h2, k2⟩
    | j + 3 => simp at hi)
  rw [hp] at this
  exact this
set_option maxRecDepth 100000 in
set_option maxHeartbeats 2000000 in
theorem put1_any (a : Option Addr) (cap bx : Nat) (x : Nd) (hx : Hd) (L : Khs) (m : ByteArray) (w : World) (hl : L.length ≤ 900) (hcap : L.length ≤ cap) (hcm : cap ≤ 9223372036854775807) (h : KsH w.cell? a L) (hX : NBox w bx x hx) (hN : NdV w.cell? x hx) :
    Calls Tryz.prog 31 #[.slice a L.length cap, .string m, .pointer (some ⟨bx, 0, none⟩)] w fun e w' => AltR (some (x, hx)) m L w w' e := by
  obtain ⟨t, ht⟩ : ∃ t, nameB m = t := ⟨_, rfl⟩
  have HT : Hid (nameB m = t) := ht
  cases t
  · have HE : Hid (altL (some (x, hx)) m L = .error 4) := by show _ = _; simp [altL, ht]
    clear ht
    go_enter Tryz.func31, Tryz.ntmps31
    go_wp2_with fail
    refine (name_any m _).mono ?_
    rintro e w' ⟨rfl, rfl⟩
    rw [HT.out]
    go_wp2
    go_ret2
    exact ⟨.inl ⟨4, HE.out, by decide, rfl⟩, Below.refl _ _⟩
  have HE : Hid (altL (some (x, hx)) m L = .ok (putH m x hx L)) := by show _ = _; simp [altL, ht]
  have HL : Hid ((putH m x hx L).length ≤ 1000) := by have := put_len m x hx L; show _ ≤ _; omega
  clear ht
  have HP : Hid (∀ W, KsH W.cell? a L → Calls Tryz.prog 32 #[.slice a L.length cap, .string m] W fun e w' => e = .returned (.int .i64 (kidI m (bare L) 0)) ∧ Below W.heap.size W w') := by
    intro W hk
    have := place_any a cap (bare L) m W (by rw [bare_length]; omega) (ksH_ksV hk)
    rwa [bare_length] at this
  have HAB : Hid (∀ W, KsH W.cell? a L → Calls Tryz.prog 33 #[.slice a L.length cap, .string m] W fun e w' => e = .returned (.int .i64 (abvN m (bare L))) ∧ Below W.heap.size W w') := by
    intro W hk
    have := above_any a cap (bare L) m W (by rw [bare_length]; omega) (ksH_ksV hk)
    rwa [bare_length] at this
  obtain ⟨k, mo, u, g, o, at_, d, ks⟩ := x
  have HCC : Hid (∀ (W : World) (bs bk p q : Nat), p ≤ L.length → q ≤ L.length → putH m (.mk k mo u g o at_ d ks) hx L = L.take p ++ ([(m, .mk k mo u g o at_ d ks, hx)] ++ L.drop q) → KsH W.cell? a L → NdV W.cell? (.mk k mo u g o at_ d ks) hx → KdAt W.cell? bk 0 m (.mk k mo u g o at_ d ks) hx → W.cell? ⟨bs, 0, none⟩ = some (.slice a p cap) → W.cell? ⟨bs, 1, none⟩ = some (.slice (some ⟨bk, 0, none⟩) 1 1) → W.cell? ⟨bs, 2, none⟩ = some (.slice (if cap = q then a else a.map (·.add (q * 9))) (L.length - q) (cap - q)) →
      Calls Tryz.prog 34 #[.slice (some ⟨bs, 0, none⟩) 3 3] W fun e w' => (∃ v, e = .returned v ∧ w'.ownsRow W.heap.size 61 9 v (putH m (.mk k mo u g o at_ d ks) hx L).length (kfl (putH m (.mk k mo u g o at_ d ks) hx L))) ∧ Below W.heap.size W w') := by
    intro W bs bk p q hp hq hput hk hNx hKx h0 h1 h2
    have hk2 : KsH W.cell? (if cap = q then a else a.map (·.add (q * 9))) (L.drop q) := by
      split
      · exact KsH.none (by simp; omega)
      · exact hk.drop q
    have hk1 : KsH W.cell? (some ⟨bk, 0, none⟩) [(m, .mk k mo u g o at_ d ks, hx)] := by
      refine ⟨.inr ⟨bk, 0, rfl, fun j v hj => ?_⟩, fun e he => by simp at he; subst he; exact hNx⟩
      exact kdAt_iff.1 hKx j v (by simpa [kfl] using hj)
    exact concat3K bs ⟨a, cap, L.take p⟩ ⟨some ⟨bk, 0, none⟩, 1, [(m, .mk k mo u g o at_ d ks, hx)]⟩ ⟨if cap = q then a else a.map (·.add (q * 9)), cap - q, L.drop q⟩ _ W hput HL.out (by rw [show (L.take p).length = p by simp; omega]; exact h0) h1 (by rw [show (L.drop q).length = L.length - q by simp]; exact h2) (hk.take p) hk1 hk2
  rcases kidI_at m (bare L) 0 with ⟨hn, _⟩ | ⟨p, x, hp, hx', _⟩
  · have HN : Hid (kidI m (bare L) 0 = -1) := hn
    obtain ⟨p, hp⟩ : ∃ p, abvN m (bare L) = p := ⟨_, rfl⟩
    have HM : Hid (putH m (.mk k mo u g o at_ d ks) hx L = L.take p ++ ([(m, .mk k mo u g o at_ d ks, hx)] ++ L.drop p)) := by
      show _ = _
      unfold putH
      rw [if_pos (by rw [hn]; decide), hp]
    have hp1 : p ≤ L.length := by have := abvN_le m (bare L); rw [bare_length] at this; omega
    have hp2 := hp1
    have HA : Hid (abvN m (bare L) = p) := hp
    clear hn hp HL
    have p1 : (0 : Int) ≤ (p : Int) := by omega
    have p2 : (p : Int) ≤ (L.length : Int) := by omega
    have p3 : (p : Int) ≤ (cap : Int) := by omega
    go_enter Tryz.func31, Tryz.ntmps31
    go_wp2_with fail
    refine (name_any m _).mono ?_
    rintro e w' ⟨rfl, rfl⟩
    rw [HT.out]
    go_wp2_with fail
    refine Calls.mono (HP.out _ h) ?_
    rintro e w0 ⟨rfl, hB0⟩
    rw [HN.out]
    have h0 := h.on (mle_below hB0)
    go_wp2_with fail
    refine Calls.mono (HAB.out _ h0) ?_
    rintro e w1 ⟨rfl, hB01⟩
    rw [HA.out]
    have hB := hB0.trans (hB01.mono hB0.size)
    clear HP HAB hB0 hB01 h0
    have hs1 : w1.drew.heap.size = w1.heap.size := rfl
    have hB1 : Below w.heap.size w (w1.drew.alloc (.cells #[.string m, .int .i64 k, .int .i64 mo, .int .i64 u, .int .i64 g, .bool o, .slice hx.aa at_.length hx.ca, .string d, .slice hx.ak ks.length hx.ck] 61)) := (below_drewN hB 1).alloc hB.size _
    have hB2 : Below w.heap.size w ((w1.drew.alloc (.cells #[.string m, .int .i64 k, .int .i64 mo, .int .i64 u, .int .i64 g, .bool o, .slice hx.aa at_.length hx.ca, .string d, .slice hx.ak ks.length hx.ck] 61)).alloc (.cells #[.slice a p cap, .slice (some ⟨w1.heap.size, 0, none⟩) 1 1, .slice (if cap = p then a else a.map (·.add (p * 9))) (L.length - p) (cap - p)] 32)) := hB1.alloc hB1.size _
    have kd : KdAt ((w1.drew.alloc (.cells #[.string m, .int .i64 k, .int .i64 mo, .int .i64 u, .int .i64 g, .bool o, .slice hx.aa at_.length hx.ca, .string d, .slice hx.ak ks.length hx.ck] 61)).alloc (.cells #[.slice a p cap, .slice (some ⟨w1.heap.size, 0, none⟩) 1 1, .slice (if cap = p then a else a.map (·.add (p * 9))) (L.length - p) (cap - p)] 32)).cell? w1.heap.size 0 m (.mk k mo u g o at_ d ks) hx := by
      have hb := (Below.refl _ (w1.drew.alloc (.cells #[.string m, .int .i64 k, .int .i64 mo, .int .i64 u, .int .i64 g, .bool o, .slice hx.aa at_.length hx.ca, .string d, .slice hx.ak ks.length hx.ck] 61))).alloc (Nat.le_refl _) (.cells #[.slice a p cap, .slice (some ⟨w1.heap.size, 0, none⟩) 1 1, .slice (if cap = p then a else a.map (·.add (p * 9))) (L.length - p) (cap - p)] 32)
      refine KdAt.below ?_ hb
      exact ⟨World.cell?_alloc_at _ _ _ _ rfl, World.cell?_alloc_at _ _ _ _ rfl, World.cell?_alloc_at _ _ _ _ rfl, World.cell?_alloc_at _ _ _ _ rfl, World.cell?_alloc_at _ _ _ _ rfl, World.cell?_alloc_at _ _ _ _ rfl, World.cell?_alloc_at _ _ _ _ rfl, World.cell?_alloc_at _ _ _ _ rfl, World.cell?_alloc_at _ _ _ _ rfl⟩
    have nw : ∀ i v, (#[.slice a p cap, .slice (some ⟨w1.heap.size, 0, none⟩) 1 1, .slice (if cap = p then a else a.map (·.add (p * 9))) (L.length - p) (cap - p)] : Array Value)[i]? = some v → ((w1.drew.alloc (.cells #[.string m, .int .i64 k, .int .i64 mo, .int .i64 u, .int .i64 g, .bool o, .slice hx.aa at_.length hx.ca, .string d, .slice hx.ak ks.length hx.ck] 61)).alloc (.cells #[.slice a p cap, .slice (some ⟨w1.heap.size, 0, none⟩) 1 1, .slice (if cap = p then a else a.map (·.add (p * 9))) (L.length - p) (cap - p)] 32)).cell? ⟨w1.heap.size + 1, i, none⟩ = some v := by
      intro i v hv
      have e : ((w1.drew.alloc (.cells #[.string m, .int .i64 k, .int .i64 mo, .int .i64 u, .int .i64 g, .bool o, .slice hx.aa at_.length hx.ca, .string d, .slice hx.ak ks.length hx.ck] 61)).alloc (.cells #[.slice a p cap, .slice (some ⟨w1.heap.size, 0, none⟩) 1 1, .slice (if cap = p then a else a.map (·.add (p * 9))) (L.length - p) (cap - p)] 32)).cell? ⟨(w1.drew.alloc (.cells #[.string m, .int .i64 k, .int .i64 mo, .int .i64 u, .int .i64 g, .bool o, .slice hx.aa at_.length hx.ca, .string d, .slice hx.ak ks.length hx.ck] 61)).heap.size, i, none⟩ = (#[.slice a p cap, .slice (some ⟨w1.heap.size, 0, none⟩) 1 1, .slice (if cap = p then a else a.map (·.add (p * 9))) (L.length - p) (cap - p)] : Array Value)[i]? := World.cell?_alloc_at _ _ _ _ rfl
      rw [World.size_alloc] at e
      exact e.trans hv
    have n0 := nw 0 _ rfl
    have n1 := nw 1 _ rfl
    have n2 := nw 2 _ rfl
    have hk2 := h.on (mle_below hB2)
    have hN2 := hN.ab hB2
    have hX1 := hX.below hB
    have T0 : NBox w1.drew bx (.mk k mo u g o at_ d ks) hx := hX1
    have T1 := hX.below hB1
    have T2 := hX.below hB2
    obtain ⟨y0, y1, y2, y3, y4, y5, y6, y7⟩ := hX1
    clear nw
    go_wp2_with fail
    go_region_held3 (fun w' => w'.cell? ⟨bx, 0, none⟩ = some (.int .i64 k) ∧ w'.cell? ⟨bx, 1, none⟩ = some (.int .i64 mo) ∧ w'.cell? ⟨bx, 2, none⟩ = some (.int .i64 u) ∧ w'.cell? ⟨bx, 3, none⟩ = some (.int .i64 g) ∧ w'.cell? ⟨bx, 4, none⟩ = some (.bool o) ∧ w'.cell? ⟨bx, 5, none⟩ = some (.slice hx.aa at_.length hx.ca) ∧ w'.cell? ⟨bx, 6, none⟩ = some (.string d) ∧ w'.cell? ⟨bx, 7, none⟩ = some (.slice hx.ak ks.length hx.ck)) (first | exact T0 | exact T1 | exact T2 | exact T3) (first | (go_at_call 34; refine (HCC.out _ _ _ p (p) hp1 hp2 HM.out hk2 hN2 kd n0 n1 n2).mono ?_; rintro e w2 ⟨⟨v, rfl, g1⟩, hB4⟩; have T3 := T2.below hB4; generalize (if cap = p then a else a.map (·.add (p * 9))) = AD at hk2 hN2 kd n0 n1 n2 hB2 hB4 g1 T2 ⊢))
    all_goals
      have hB5 := hB2.trans (hB4.mono hB2.size)
      have g2 : w2.ownsRow w.heap.size 61 9 v (putH m (.mk k mo u g o at_ d ks) hx L).length (kfl (putH m (.mk k mo u g o at_ d ks) hx L)) := g1.mono hB2.size
      clear T0 T1 T2 T3 hB1 hB2 hB4 hB hk2 hN2 kd n0 n1 n2 HCC g1 y0 y1 y2 y3 y4 y5 y6 y7 hX
      go_wp2
      go_ret2
      exact ⟨.inr ⟨_, _, HE.out, rfl, g2⟩, hB5⟩
  · rw [Nat.zero_add] at hp
    have hlt : p < L.length := by have := (List.getElem?_eq_some_iff.1 hx').1; rwa [bare_length] at this
    have HN : Hid (kidI m (bare L) 0 = (p : Int)) := hp
    have HM : Hid (putH m (.mk k mo u g o at_ d ks) hx L = L.take p ++ ([(m, .mk k mo u g o at_ d ks, hx)] ++ L.drop (p + 1))) := by
      show _ = _
      unfold putH
      rw [if_neg (by rw [hp]; omega), hp]; rfl
    have hp1 : p ≤ L.length := by omega
    have hp2 : p + 1 ≤ L.length := by omega
    clear hp hx' HL
    have p1 : (0 : Int) ≤ (p : Int) := by omega
    have p2 : (p : Int) ≤ (L.length : Int) := by omega
    have p3 : (p : Int) ≤ (cap : Int) := by omega
    have p4 : (p : Int) + 1 ≤ (L.length : Int) := by omega
    have p5 : (0 : Int) ≤ (p : Int) + 1 := by omega
    have p6 : IntKind.i64.wrap ((p : Int) + 1) = (p : Int) + 1 := wrap_small (by omega) (by omega)
    have p7 : decide ((p : Int) < 0) = false := decide_eq_false (by omega)
    go_enter Tryz.func31, Tryz.ntmps31
    go_wp2_with fail
    refine (name_any m _).mono ?_
    rintro e w' ⟨rfl, rfl⟩
    rw [HT.out]
    go_wp2_with fail
    refine Calls.mono (HP.out _ h) ?_
    rintro e w1 ⟨rfl, hB⟩
    rw [HN.out]
    clear HP HAB
    have hs1 : w1.drew.heap.size = w1.heap.size := rfl
    have hB1 : Below w.heap.size w (w1.drew.alloc (.cells #[.string m, .int .i64 k, .int .i64 mo, .int .i64 u, .int .i64 g, .bool o, .slice hx.aa at_.length hx.ca, .string d, .slice hx.ak ks.length hx.ck] 61)) := (below_drewN hB 1).alloc hB.size _
    have hB2 : Below w.heap.size w ((w1.drew.alloc (.cells #[.string m, .int .i64 k, .int .i64 mo, .int .i64 u, .int .i64 g, .bool o, .slice hx.aa at_.length hx.ca, .string d, .slice hx.ak ks.length hx.ck] 61)).alloc (.cells #[.slice a p cap, .slice (some ⟨w1.heap.size, 0, none⟩) 1 1, .slice (if cap = p + 1 then a else a.map (·.add ((p + 1) * 9))) (L.length - (p + 1)) (cap - (p + 1))] 32)) := hB1.alloc hB1.size _
    have kd : KdAt ((w1.drew.alloc (.cells #[.string m, .int .i64 k, .int .i64 mo, .int .i64 u, .int .i64 g, .bool o, .slice hx.aa at_.length hx.ca, .string d, .slice hx.ak ks.length hx.ck] 61)).alloc (.cells #[.slice a p cap, .slice (some ⟨w1.heap.size, 0, none⟩) 1 1, .slice (if cap = p + 1 then a else a.map (·.add ((p + 1) * 9))) (L.length - (p + 1)) (cap - (p + 1))] 32)).cell? w1.heap.size 0 m (.mk k mo u g o at_ d ks) hx := by
      have hb := (Below.refl _ (w1.drew.alloc (.cells #[.string m, .int .i64 k, .int .i64 mo, .int .i64 u, .int .i64 g, .bool o, .slice hx.aa at_.length hx.ca, .string d, .slice hx.ak ks.length hx.ck] 61))).alloc (Nat.le_refl _) (.cells #[.slice a p cap, .slice (some ⟨w1.heap.size, 0, none⟩) 1 1, .slice (if cap = p + 1 then a else a.map (·.add ((p + 1) * 9))) (L.length - (p + 1)) (cap - (p + 1))] 32)
      refine KdAt.below ?_ hb
      exact ⟨World.cell?_alloc_at _ _ _ _ rfl, World.cell?_alloc_at _ _ _ _ rfl, World.cell?_alloc_at _ _ _ _ rfl, World.cell?_alloc_at _ _ _ _ rfl, World.cell?_alloc_at _ _ _ _ rfl, World.cell?_alloc_at _ _ _ _ rfl, World.cell?_alloc_at _ _ _ _ rfl, World.cell?_alloc_at _ _ _ _ rfl, World.cell?_alloc_at _ _ _ _ rfl⟩
    have nw : ∀ i v, (#[.slice a p cap, .slice (some ⟨w1.heap.size, 0, none⟩) 1 1, .slice (if cap = p + 1 then a else a.map (·.add ((p + 1) * 9))) (L.length - (p + 1)) (cap - (p + 1))] : Array Value)[i]? = some v → ((w1.drew.alloc (.cells #[.string m, .int .i64 k, .int .i64 mo, .int .i64 u, .int .i64 g, .bool o, .slice hx.aa at_.length hx.ca, .string d, .slice hx.ak ks.length hx.ck] 61)).alloc (.cells #[.slice a p cap, .slice (some ⟨w1.heap.size, 0, none⟩) 1 1, .slice (if cap = p + 1 then a else a.map (·.add ((p + 1) * 9))) (L.length - (p + 1)) (cap - (p + 1))] 32)).cell? ⟨w1.heap.size + 1, i, none⟩ = some v := by
      intro i v hv
      have e : ((w1.drew.alloc (.cells #[.string m, .int .i64 k, .int .i64 mo, .int .i64 u, .int .i64 g, .bool o, .slice hx.aa at_.length hx.ca, .string d, .slice hx.ak ks.length hx.ck] 61)).alloc (.cells #[.slice a p cap, .slice (some ⟨w1.heap.size, 0, none⟩) 1 1, .slice (if cap = p + 1 then a else a.map (·.add ((p + 1) * 9))) (L.length - (p + 1)) (cap - (p + 1))] 32)).cell? ⟨(w1.drew.alloc (.cells #[.string m, .int .i64 k, .int .i64 mo, .int .i64 u, .int .i64 g, .bool o, .slice hx.aa at_.length hx.ca, .string d, .slice hx.ak ks.length hx.ck] 61)).heap.size, i, none⟩ = (#[.slice a p cap, .slice (some ⟨w1.heap.size, 0, none⟩) 1 1, .slice (if cap = p + 1 then a else a.map (·.add ((p + 1) * 9))) (L.length - (p + 1)) (cap - (p + 1))] : Array Value)[i]? := World.cell?_alloc_at _ _ _ _ rfl
      rw [World.size_alloc] at e
      exact e.trans hv
    have n0 := nw 0 _ rfl
    have n1 := nw 1 _ rfl
    have n2 := nw 2 _ rfl
    have hk2 := h.on (mle_below hB2)
    have hN2 := hN.ab hB2
    have hX1 := hX.below hB
    have T0 : NBox w1.drew bx (.mk k mo u g o at_ d ks) hx := hX1
    have T1 := hX.below hB1
    have T2 := hX.below hB2
    obtain ⟨y0, y1, y2, y3, y4, y5, y6, y7⟩ := hX1
    clear nw
    go_wp2_with fail
    go_region_held3 (fun w' => w'.cell? ⟨bx, 0, none⟩ = some (.int .i64 k) ∧ w'.cell? ⟨bx, 1, none⟩ = some (.int .i64 mo) ∧ w'.cell? ⟨bx, 2, none⟩ = some (.int .i64 u) ∧ w'.cell? ⟨bx, 3, none⟩ = some (.int .i64 g) ∧ w'.cell? ⟨bx, 4, none⟩ = some (.bool o) ∧ w'.cell? ⟨bx, 5, none⟩ = some (.slice hx.aa at_.length hx.ca) ∧ w'.cell? ⟨bx, 6, none⟩ = some (.string d) ∧ w'.cell? ⟨bx, 7, none⟩ = some (.slice hx.ak ks.length hx.ck)) (first | exact T0 | exact T1 | exact T2 | exact T3) (first | (go_at_call 34; refine (HCC.out _ _ _ p (p + 1) hp1 hp2 HM.out hk2 hN2 kd n0 n1 n2).mono ?_; rintro e w2 ⟨⟨v, rfl, g1⟩, hB4⟩; have T3 := T2.below hB4; generalize (if cap = p + 1 then a else a.map (·.add ((p + 1) * 9))) = AD at hk2 hN2 kd n0 n1 n2 hB2 hB4 g1 T2 ⊢))
    all_goals
      have hB5 := hB2.trans (hB4.mono hB2.size)
      have g2 : w2.ownsRow w.heap.size 61 9 v (putH m (.mk k mo u g o at_ d ks) hx L).length (kfl (putH m (.mk k mo u g o at_ d ks) hx L)) := g1.mono hB2.size
      clear T0 T1 T2 T3 hB1 hB2 hB4 hB hk2 hN2 kd n0 n1 n2 HCC g1 y0 y1 y2 y3 y4 y5 y6 y7 hX
      go_wp2
      go_ret2
      exact ⟨.inr ⟨_, _, HE.out, rfl, g2⟩, hB5⟩
end Go.Proofs.YtlbabnffiibnpaaGreat
namespace Go.Proofs.YtlbabnffiibnpaaGreat
open Go.RowKit
/-- Names in memory. -/
def Strs (c : Mem) (a : Option Addr) (l : List ByteArray) : Prop := l = [] ∨ ∃ b off, a = some ⟨b, off, none⟩ ∧ ∀ i s, l[i]? = some s → c ⟨b, off + i, none⟩ = some (.string s)
theorem Strs.on {c c' : Mem} {a : Option Addr} {l : List ByteArray} (h : Strs c a l) (hb : MLe c c') : Strs c' a l := by
  rcases h with h | ⟨b, off, ha, hc⟩
  · exact .inl h
  · exact .inr ⟨b, off, ha, fun i s hi => hb _ _ (hc i s hi)⟩
theorem Nd.eta (x : Nd) : x.with x.kids = x := by obtain ⟨k, m, u, g, o, at_, d, ks⟩ := x; rfl
/-- What is hidden: the result's box too. -/
def upS (nb : Nat) (S : Nat → Bool) : Nat → Bool := fun k => k == nb + 1 || S k
theorem upS_no {nb k : Nat} {S : Nat → Bool} : upS nb S k = false ↔ k ≠ nb + 1 ∧ S k = false := by simp [upS]
theorem mle_up {W w' : World} {S : Nat → Bool} {nb : Nat} (hb : Below W.heap.size W w') (hsz : W.heap.size = nb) : MLe (offS W.cell? S) (offS w'.cell? (upS nb S)) := mle_step fun k hk hs => ⟨upS_no.2 ⟨by omega, hs⟩, hb.block k hk⟩
theorem nat_offS {c : Mem} {S : Nat → Bool} {b p : Nat} {x : Nd} {h : Hd} (hs : S b = false) (hk : NAt c b p x h) : NAt (offS c S) b p x h := nat_iff.2 fun q u hq => (offS_ne hs).trans (nat_iff.1 hk q u hq)
/-- Where a change stands, on its way down. -/
structure Spine (W wr : World) (S : Nat → Bool) (nb : Nat) (x0 : Nd) (c : Option Nd) (l rest : List ByteArray) (ab ap : Nat) (y : Nd) (hy : Hd) : Prop where
  low : Below W.heap.size W wr
  sz : W.heap.size = nb
  res : NBw wr (nb + 1) zN zH
  atc : NAt wr.cell? ab ap y hy
  fz : ∀ q, wr.frozen? ⟨ab, q, none⟩ = false
  ge : nb ≤ ab
  ne : ab ≠ nb + 1
  hS : ∀ k, S k = true → k < W.heap.size
  tree : NdV (offS W.cell? S) y hy
  wand : ∃ plug : Nd → Nd, (chgF c l x0 = (chgF c rest y).map plug) ∧ ∀ w', Below W.heap.size W w' → (∀ q v, wr.cell? q = some v → (∀ i, i < 8 → q ≠ ⟨ab, ap + i, none⟩) → w'.cell? q = some v) → ∀ z hz, NAt w'.cell? ab ap z hz → NdV (offS w'.cell? (upS nb S)) z hz → ∃ hr, NBox w' nb (plug z) hr ∧ NdV (offS w'.cell? (upS nb S)) (plug z) hr
theorem NAt.lt {w : World} {b p : Nat} {x : Nd} {h : Hd} (hk : NAt w.cell? b p x h) : b < w.heap.size := by
  obtain ⟨k, m, u, g, o, at_, d, ks⟩ := x
  exact World.block_lt_of_cell? _ _ hk.1
theorem Spine.start {W wr : World} {S : Nat → Bool} {nb : Nat} {x0 : Nd} {c : Option Nd} {l : List ByteArray} {h : Hd} (low : Below W.heap.size W wr) (sz : W.heap.size = nb) (res : NBw wr (nb + 1) zN zH) (box : NBw wr nb x0 h) (hS : ∀ k, S k = true → k < W.heap.size) (tree : NdV (offS W.cell? S) x0 h) : Spine W wr S nb x0 c l l nb 0 x0 h := by
  refine ⟨low, sz, res, box.1.at, box.2, Nat.le_refl _, by omega, hS, tree, id, ?_, ?_⟩
  · cases chgF c l x0 <;> rfl
  · intro w' _ _ z hz hA hN
    exact ⟨hz, hA.box, hN⟩
theorem Spine.below {W wr w' : World} {S : Nat → Bool} {nb : Nat} {x0 : Nd} {c : Option Nd} {l rest : List ByteArray} {ab ap : Nat} {y : Nd} {hy : Hd} (h : Spine W wr S nb x0 c l rest ab ap y hy) (hb : Below wr.heap.size wr w') : Spine W w' S nb x0 c l rest ab ap y hy := by
  obtain ⟨plug, h1, h2⟩ := h.wand
  refine ⟨h.low.trans (hb.mono h.low.size), h.sz, h.res.below hb, h.atc.below hb, fun q => (hb.frozen (p := ⟨ab, q, none⟩) h.atc.lt).trans (h.fz q), h.ge, h.ne, h.hS, h.tree, plug, h1, ?_⟩
  intro w2 hl hq z hz hA hN
  exact h2 w2 hl (fun q v hv hn => hq q v ((hb.cell (World.block_lt_of_cell? _ _ hv)).trans hv) hn) z hz hA hN
/-- The seventh cell of a node is written. -/
theorem nat_set7 {w : World} {b p : Nat} {y : Nd} {hy : Hd} (h : NAt w.cell? b p y hy) (ks' : Kds) (ak : Option Addr) (ck : Nat) : NAt (w.setCell ⟨b, p + 7, none⟩ (.slice ak ks'.length ck)).cell? b p (y.with ks') ⟨hy.aa, hy.ca, ak, ck⟩ := by
  obtain ⟨k, m, u, g, o, at_, d, ks⟩ := y
  obtain ⟨h0, h1, h2, h3, h4, h5, h6, h7⟩ := h
  have e : ∀ o, o ≠ p + 7 → (w.setCell ⟨b, p + 7, none⟩ (.slice ak ks'.length ck)).cell? ⟨b, o, none⟩ = w.cell? ⟨b, o, none⟩ := fun o ho => World.cell?_setCell_other _ _ _ _ (fun e => ho (Addr.mk.inj e).2.1.symm)
  exact ⟨(e _ (by omega)).trans h0, (e _ (by omega)).trans h1, (e _ (by omega)).trans h2, (e _ (by omega)).trans h3, (e _ (by omega)).trans h4, (e _ (by omega)).trans h5, (e _ (by omega)).trans h6, World.cell?_setCell_same _ _ _ h7⟩
theorem chg_step {c : Option Nd} {m m' : ByteArray} {rest : List ByteArray} {y z : Nd} {p : Nat} (hk : y.kind = 2) (hp : kidI m y.kids 0 = (p : Int)) (hz : y.kids[p]? = some (m, z)) : chgF c (m :: m' :: rest) y = (chgF c (m' :: rest) z).map fun q => y.with (y.kids.set p (m, q)) := by
  rw [chgF, if_neg (by simp [hk]), if_neg (by rw [hp]; omega), hp]
  have e : y.kid p = z := by unfold Nd.kid; rw [hz]
  simp only [Int.toNat_natCast]
  rw [e]
/-- One step down. -/
theorem Spine.step {W wr w2 : World} {S : Nat → Bool} {nb : Nat} {x0 : Nd} {c : Option Nd} {l rest : List ByteArray} {m m' : ByteArray} {ab ap : Nat} {y z : Nd} {hy : Hd} {L : Khs} {base g p ck : Nat} {hz : Hd} (h : Spine W wr S nb x0 c l (m :: m' :: rest) ab ap y hy) (hb : Below wr.heap.size wr w2) (hbase : wr.heap.size ≤ base)
    (hL : bare L = y.kids) (hLN : ∀ e ∈ L, NdV (offS W.cell? S) e.2.1 e.2.2) (hk : y.kind = 2) (hp : kidI m y.kids 0 = (p : Int)) (he : L[p]? = some (m, z, hz)) (hrow : w2.ownsRow base 61 9 (.slice (some ⟨g, 0, none⟩) y.kids.length ck) y.kids.length (kfl L)) :
    Spine W (w2.setCell ⟨ab, ap + 7, none⟩ (.slice (some ⟨g, 0, none⟩) y.kids.length ck)) S nb x0 c l (m' :: rest) g (p * 9 + 1) z hz := by
  obtain ⟨plug, h1, h2⟩ := h.wand
  have hlt := h.atc.lt
  obtain ⟨a0, c0, hv, hc1, hc2, hf⟩ := owns_cells hrow
  simp only [Value.slice.injEq, true_and] at hv
  obtain ⟨rfl, rfl⟩ := hv
  rcases hf with ⟨e, _⟩ | ⟨g', e, hg1, hg2, hg3, hg4⟩
  · cases e
  simp only [Option.some.injEq, Addr.mk.injEq, and_true] at e
  subst e
  have hgab : g ≠ ab := by omega
  have hge : W.heap.size ≤ g := by have := h.low.size; omega
  have hgS : upS nb S g = false := upS_no.2 ⟨by have := h.res.1.lt; omega, by
    cases hs : S g with
    | false => rfl
    | true => have := h.hS g hs; omega⟩
  have hyk : y.kids[p]? = some (m, z) := by
    rw [← hL]; unfold bare; rw [List.getElem?_map, he]; rfl
  -- the new world
  have hcell : ∀ q : Addr, q ≠ ⟨ab, ap + 7, none⟩ → (w2.setCell ⟨ab, ap + 7, none⟩ (.slice (some ⟨g, 0, none⟩) y.kids.length ck)).cell? q = w2.cell? q := fun q hq => World.cell?_setCell_other _ _ _ _ (fun e => hq e.symm)
  have hcg : ∀ j u, (kfl L)[j]? = some u → (w2.setCell ⟨ab, ap + 7, none⟩ (.slice (some ⟨g, 0, none⟩) y.kids.length ck)).cell? ⟨g, j, none⟩ = some u := fun j u hj => (hcell _ (fun e => hgab (Addr.mk.inj e).1)).trans (hg3 j u hj)
  have hlow3 : Below W.heap.size W (w2.setCell ⟨ab, ap + 7, none⟩ (.slice (some ⟨g, 0, none⟩) y.kids.length ck)) := (h.low.trans (hb.mono h.low.size)).setCell (p := ⟨ab, ap + 7, none⟩) (by show W.heap.size ≤ ab; have := h.ge; have := h.sz; omega) _
  refine ⟨hlow3, h.sz, (h.res.below hb).other (p := ⟨ab, ap + 7, none⟩) h.ne _, ?_, fun q => by rw [World.frozen?_setCell]; exact hg4 q, by have := h.sz; omega, by have := h.res.1.lt; omega, h.hS, hLN _ (List.mem_of_getElem? he), ?_⟩
  · refine nat_iff.2 fun q u hq => ?_
    have := kfl_get L p m z hz he (q + 1) u (by simpa using hq)
    have := hcg _ _ this
    rw [show p * 9 + 1 + q = p * 9 + (q + 1) by omega]; exact this
  · refine ⟨fun q => plug (y.with (y.kids.set p (m, q))), ?_, ?_⟩
    · rw [h1, chg_step hk hp hyk]
      cases chgF c (m' :: rest) z <;> rfl
    · intro w' hl hq zz hzz hA hN
      have hat3 := nat_set7 (h.atc.below hb) y.kids (some ⟨g, 0, none⟩) ck
      rw [Nd.eta] at hat3
      refine h2 w' hl ?_ (y.with (y.kids.set p (m, zz))) ⟨hy.aa, hy.ca, some ⟨g, 0, none⟩, ck⟩ ?_ ?_
      · intro q v hv hn
        have hqlt : q.block < wr.heap.size := World.block_lt_of_cell? _ _ hv
        refine hq q v ?_ (fun i hi e => ?_)
        · rw [hcell q (hn 7 (by omega))]; exact (hb.cell hqlt).trans hv
        · rw [e] at hqlt; simp at hqlt; omega
      · have hw' : ∀ q v, (w2.setCell ⟨ab, ap + 7, none⟩ (.slice (some ⟨g, 0, none⟩) y.kids.length ck)).cell? q = some v → q.block ≠ g → w'.cell? q = some v := fun q v hv hne => hq q v hv (fun i hi e => hne (by rw [e]))
        obtain ⟨k, mo, u, gg, o, at_, d, ks⟩ := y
        obtain ⟨e0, e1, e2, e3, e4, e5, e6, e7⟩ := hat3
        have hlen : (ks.set p (m, zz)).length = ks.length := List.length_set
        refine ⟨hw' _ _ e0 hgab.symm, hw' _ _ e1 hgab.symm, hw' _ _ e2 hgab.symm, hw' _ _ e3 hgab.symm, hw' _ _ e4 hgab.symm, hw' _ _ e5 hgab.symm, hw' _ _ e6 hgab.symm, ?_⟩
        show w'.cell? _ = some (.slice _ (ks.set p (m, zz)).length _)
        rw [hlen]
        exact hw' _ _ e7 hgab.symm
      · have ht := h.tree
        obtain ⟨k, mo, u, gg, o, at_, d, ks⟩ := y
        obtain ⟨t1, t2, t3, _⟩ := ndV_iff.1 ht
        have hlen : (ks.set p (m, zz)).length = ks.length := List.length_set
        refine ndV_iff.2 ⟨t1.on (mle_up hl h.sz), t2, ⟨by show (ks.set p (m, zz)).length ≤ ck; rw [hlen]; exact hc1, hc2⟩, .inr ⟨g, 0, rfl, fun i => if i = p then hzz else ((L[i]?).map (fun e => e.2.2)).getD hzz, ?_⟩⟩
        intro i n xx hi
        dsimp only
        change (ks.set p (m, zz))[i]? = some (n, xx) at hi
        have hil : i < ks.length := by have := (List.getElem?_eq_some_iff.1 hi).1; rwa [hlen] at this
        have hLl : i < L.length := by have := congrArg List.length hL; rw [bare_length] at this; show i < L.length; rw [this]; exact hil
        have hcell' : ∀ j u, (kfl L)[j]? = some u → (∀ q, q < 8 → j ≠ p * 9 + 1 + q) → w'.cell? ⟨g, j, none⟩ = some u := fun j u hj hn => hq _ _ (hcg j u hj) (fun q hqq e => hn q hqq (Addr.mk.inj e).2.1)
        by_cases hip : i = p
        · subst hip
          rw [List.getElem?_set_self hil] at hi
          simp only [Option.some.injEq, Prod.mk.injEq] at hi
          obtain ⟨rfl, rfl⟩ := hi
          rw [if_pos rfl, Nat.zero_add]
          refine ⟨⟨?_, nat_offS hgS hA⟩, hN⟩
          rw [offS_ne hgS]
          refine hcell' _ _ (by have := kfl_get L i m z hz he 0 _ rfl; simpa using this) (fun q hq' e => by omega)
        · rw [List.getElem?_set_ne (by omega)] at hi
          have hLi : L[i]? = some (n, xx, L[i].2.2) := by
            have e1 : (bare L)[i]? = some (n, xx) := by rw [hL]; exact hi
            unfold bare at e1
            rw [List.getElem?_map, List.getElem?_eq_getElem hLl] at e1
            simp at e1
            rw [List.getElem?_eq_getElem hLl]
            congr 1
            exact Prod.ext e1.1 (Prod.ext e1.2 rfl)
          rw [if_neg hip, hLi]
          simp only [Option.map_some, Option.getD_some]
          rw [Nat.zero_add]
          refine ⟨kdAt_iff.2 fun q u hq' => ?_, (hLN _ (List.mem_of_getElem? hLi)).on (mle_up hl h.sz)⟩
          rw [offS_ne hgS]
          have hq9 : q < 9 := by have := (List.getElem?_eq_some_iff.1 hq').1; simp [ndL_length] at this; omega
          exact hcell' _ _ (kfl_get L i _ _ _ hLi q u hq') (fun r hr e => by omega)
/-- At the end. -/
theorem Spine.fin {W wr w2 : World} {S : Nat → Bool} {nb : Nat} {x0 : Nd} {c : Option Nd} {l : List ByteArray} {m : ByteArray} {ab ap : Nat} {y : Nd} {hy : Hd} {M : Khs} {base n ck : Nat} {ak : Option Addr} (h : Spine W wr S nb x0 c l [m] ab ap y hy) (hb : Below wr.heap.size wr w2) (hbase : wr.heap.size ≤ base)
    (hMN : ∀ e ∈ M, NdV (offS W.cell? S) e.2.1 e.2.2) (hk : y.kind = 2) (hM : lastF c m y.kids = .ok (bare M)) (hn : M.length = n) (hrow : w2.ownsRow base 61 9 (.slice ak n ck) n (kfl M)) :
    ∃ r hr, chgF c l x0 = .ok r ∧ NBox (w2.setCell ⟨ab, ap + 7, none⟩ (.slice ak n ck)) nb r hr ∧ NdV (offS (w2.setCell ⟨ab, ap + 7, none⟩ (.slice ak n ck)).cell? (upS nb S)) r hr ∧ Below W.heap.size W (w2.setCell ⟨ab, ap + 7, none⟩ (.slice ak n ck)) ∧ NBw (w2.setCell ⟨ab, ap + 7, none⟩ (.slice ak n ck)) (nb + 1) zN zH := by
  subst hn
  obtain ⟨plug, h1, h2⟩ := h.wand
  have hlt := h.atc.lt
  have hlow3 : Below W.heap.size W (w2.setCell ⟨ab, ap + 7, none⟩ (.slice ak M.length ck)) := (h.low.trans (hb.mono h.low.size)).setCell (p := ⟨ab, ap + 7, none⟩) (by show W.heap.size ≤ ab; have := h.ge; have := h.sz; omega) _
  have hrow3 := owns_set hrow (p := ⟨ab, ap + 7, none⟩) (show ab < base by omega) (.slice ak M.length ck)
  obtain ⟨a8, c8, e8, h81, h82, hK8, _⟩ := ksH_of_ownsS (S := upS nb S) (fun k hk => by
    simp [upS] at hk
    rcases hk with hk | hk
    · have := h.res.1.lt; omega
    · have := h.hS k hk; have := h.low.size; omega) hrow3 (fun e he => (hMN e he).on (mle_up hlow3 h.sz))
  simp only [Value.slice.injEq, true_and] at e8
  obtain ⟨rfl, rfl⟩ := e8
  have hat3 := nat_set7 (h.atc.below hb) (bare M) ak ck
  rw [bare_length] at hat3
  have hN3 : NdV (offS (w2.setCell ⟨ab, ap + 7, none⟩ (.slice ak M.length ck)).cell? (upS nb S)) (y.with (bare M)) ⟨hy.aa, hy.ca, ak, ck⟩ := by
    have ht := h.tree
    obtain ⟨k, mo, u, gg, o, at_, d, ks⟩ := y
    obtain ⟨t1, t2, t3, _⟩ := ndV_iff.1 ht
    exact ndV_iff.2 ⟨t1.on (mle_up hlow3 h.sz), t2, ⟨by rw [bare_length]; exact h81, h82⟩, ksH_ksV hK8⟩
  obtain ⟨hr, g1, g2⟩ := h2 _ hlow3 (fun q v hv hn => (World.cell?_setCell_other _ _ _ _ (fun e => hn 7 (by omega) e.symm)).trans ((hb.cell (World.block_lt_of_cell? _ _ hv)).trans hv)) _ _ hat3 hN3
  refine ⟨_, hr, ?_, g1, g2, hlow3, (h.res.below hb).other (p := ⟨ab, ap + 7, none⟩) h.ne _⟩
  rw [h1, chgF, if_neg (by simp [hk]), hM]
  rfl
end Go.Proofs.YtlbabnffiibnpaaGreat
namespace Go.Proofs.YtlbabnffiibnpaaGreat
open Go.RowKit Go.Shelf
attribute [local go_sem] Oper.semAt_some
/-- What is seen along names. -/
def stackP (xs : List Nd) (names : List ByteArray) : List (Nd × Nat) := names.foldl (fun l nm => shP (kidsP nm l)) (shP (layP xs))
theorem stackP_next {xs : List Nd} {names : List ByteArray} {i : Nat} {nm : ByteArray} (h : names[i]? = some nm) : stackP xs (names.take (i + 1)) = shP (kidsP nm (stackP xs (names.take i))) := by
  unfold stackP
  rw [List.take_add_one, h]
  simp
theorem stackP_small {xs : List Nd} (h : SmallP (layP xs)) : ∀ names : List ByteArray, SmallP (stackP xs names) := by
  intro names
  unfold stackP
  generalize hl : shP (layP xs) = l
  have h2 : SmallP l := by rw [← hl]; exact h.sh
  clear hl
  induction names generalizing l with
  | nil => exact h2
  | cons n r ih => rw [List.foldl_cons]; exact ih _ (h2.kid n).sh
set_option maxRecDepth 100000 in
set_option maxHeartbeats 4000000 in
theorem steps1_any (bl bn : Nat) (a : Option Addr) (cap : Nat) (xs : List Nd) (an : Option Addr) (capn : Nat) (names : List ByteArray) (l : Nat) (J : Nat → (Nat → Bool) → World → Prop) (Jx : World → Prop) (W : World) (S : Nat → Bool)
    (hl : offS W.cell? S ⟨bl, 0, none⟩ = some (.slice a xs.length cap)) (hn : offS W.cell? S ⟨bn, 0, none⟩ = some (.slice an names.length capn)) (hx : NsV (offS W.cell? S) a xs) (hs : Strs (offS W.cell? S) an names) (hlx : xs.length ≤ 1000) (hln : names.length ≤ 1000) (hsm : SmallP (layP xs))
    (hJS : ∀ i S A, J i S A → ∀ k, S k = true → k < A.heap.size) (hJ : ∀ i S A B, J i S A → Below A.heap.size A B → J i S B)
    (hY : ∀ i S v A, i ≤ names.length → J i S A → SpL (offS A.cell? S) v (stackP xs (names.take i)) → YieldAt Fence.wide 0 Tryz.prog l #[v] A fun e B => (e = .returned (.bool true) ∧ ∃ S', J (i + 1) S' B ∧ MLe (offS A.cell? S) (offS B.cell? S')) ∨ (e = .returned (.bool false) ∧ Jx B))
    (h0 : J 0 S W) :
    CallsIn Fence.wide 0 Tryz.prog 44 #[.func (.yield l) #[] #[], .pointer (some ⟨bl, 0, none⟩), .pointer (some ⟨bn, 0, none⟩)] W fun e B => (∃ v, e = .returned v) ∧ ((∃ S', J (names.length + 1) S' B) ∨ Jx B) := by
  refine callsIn_of_wp Tryz.func44 rfl trivial ?_ rfl
  simp only [Tryz.ntmps44, List.size_toArray, List.length_cons, List.length_nil, Nat.reduceAdd, Nat.reduceSub, Array.replicate_succ, Array.replicate_zero, List.push_toArray, List.append_toArray, List.nil_append, List.cons_append]
  have HY : Hid _ := hY
  have HX : Hid _ := hx
  have HS : Hid _ := hs
  have HN : Hid _ := hn
  have HSM : Hid _ := hsm
  obtain ⟨N, HNN⟩ : ∃ N, Hid (names.length = N) := ⟨_, rfl⟩
  have hcl := offS_le _ _ _ _ hl
  have hcn : W.cell? ⟨bn, 0, none⟩ = some (.slice an N capn) := by rw [← HNN.out]; exact offS_le _ _ _ _ hn
  rw [HNN.out] at hln HY ⊢
  have HF : Hid _ := firstB_any (S := S) (w := W.alloc (.cells #[.slice a xs.length cap] 22)) (hJS _ _ _ h0) hx hlx rfl
  clear hY hx hs hn hsm
  gi_wp2_with fail
  refine ⟨trivial, rfl, CallsIn.mono (callsIn_wide.2 (layers_any W a xs.length cap)) ?_⟩
  rintro e w1 ⟨rfl, rfl⟩
  gi_wp2_with fail
  refine ⟨trivial, rfl, CallsIn.mono (callsIn_wide.2 HF.out) ?_⟩
  rintro e w2 ⟨v0, rfl, hv0, hB2⟩
  have hc2 := mle_below hB2 _ _ hcn
  have hJ0 := hJ _ _ _ _ h0 hB2
  have hM0 : MLe (offS W.cell? S) (offS w2.cell? S) := mle_S hB2
  have HV0 : Hid (SpL (offS w2.cell? S) v0 (stackP xs (names.take 0))) := hv0
  clear HF hv0 hcl hcn
  gi_wp2_with fail
  gi_loopw [4, 6, 12] (fun v _ i wr => ∃ (j : Nat) (S' : Nat → Bool), j ≤ N ∧ i = .int .i64 j ∧ J j S' wr ∧ Hid (SpL (offS wr.cell? S') v (stackP xs (names.take j))) ∧ Hid (MLe (offS W.cell? S) (offS wr.cell? S'))) (fun _ _ i _ => N - (intOf i).toNat)
  case atStart => exact ⟨0, S, Nat.zero_le _, rfl, hJ0, HV0, hM0⟩
  case round =>
    obtain ⟨j, S', hj, rfl, hJj, HV, HM⟩ := hrel
    by_cases hjl : j < N
    rotate_left
    · obtain rfl : j = N := by omega
      have hji : decide ((j : Int) < (j : Int)) = false := decide_eq_false (by omega)
      obtain ⟨fn, tmps, assign, body, hyy, hRR⟩ := HY.out j S' _ wr (by omega) hJj HV.out
      have HRR : Hid _ := hRR
      clear hRR
      gi_wp2
      refine ⟨rfl, RoundIn.mono HRR.out ?_⟩
      rintro e W3 (⟨rfl, S2, hJ2, _⟩ | ⟨rfl, hJx⟩)
      · gi_wp2
        go_end0
        exact ⟨⟨_, rfl⟩, .inl ⟨S2, hJ2⟩⟩
      · gi_wp2
        go_end0
        exact ⟨⟨_, rfl⟩, .inr hJx⟩
    · have hji : decide ((j : Int) < (N : Int)) = true := decide_eq_true (by omega)
      obtain ⟨nm, hnm⟩ : ∃ nm, names[j]? = some nm := ⟨_, List.getElem?_eq_getElem (by rw [HNN.out]; exact hjl)⟩
      obtain ⟨sb, so, rfl, hstr⟩ : ∃ b off, an = some ⟨b, off, none⟩ ∧ ∀ i s, names[i]? = some s → offS W.cell? S ⟨b, off + i, none⟩ = some (.string s) := by
        rcases HS.out with e | e
        · subst e; simp at hnm
        · exact e
      have r0 := offS_le _ _ _ _ (HM.out _ _ (hstr j nm hnm))
      obtain ⟨fn, tmps, assign, body, hyy, hRR⟩ := HY.out j S' _ wr (by omega) hJj HV.out
      have HRR : Hid _ := hRR
      have HNM : Hid _ := hnm
      obtain ⟨va, vc, D, rfl, g1, g2, g3, g4, g5⟩ := HV.out
      have HG : Hid (SpRow (offS wr.cell? S') va D ∧ (∀ s ∈ D, SpAt (offS wr.cell? S') s) ∧ D.map Sp.pr = stackP xs (names.take j)) := ⟨g3, g4, g5⟩
      clear hRR hnm hstr g1 g2 g3 g4 g5 HS
      gi_wp2
      refine ⟨rfl, RoundIn.mono HRR.out ?_⟩
      rintro e W3 (⟨rfl, S2, hJ2, hM2⟩ | ⟨rfl, hJx⟩)
      rotate_left
      · gi_wp2
        refine bodyPost_ret (results_none rfl _ _ _) rfl ?_
        exact ⟨⟨_, rfl⟩, .inr hJx⟩
      have HM2 : Hid _ := hM2
      have HST : Hid _ := stepB_any (A := W3) (S := S2) (cap := vc) (w := (W3.alloc (.cells #[.slice va D.length vc] 55)).alloc (.cells #[.string nm] 9)) (hJS _ _ _ hJ2) nm (HG.out.1.on hM2) (fun s hs => (HG.out.2.1 s hs).on hM2) (by rw [HG.out.2.2]; exact stackP_small HSM.out _) rfl
      clear hM2
      gi_wp2_with fail
      refine ⟨trivial, rfl, CallsIn.mono (callsIn_wide.2 (kidsOf_any W3 va D.length vc nm)) ?_⟩
      rintro e w6 ⟨rfl, rfl⟩
      gi_wp2_with fail
      refine ⟨trivial, rfl, CallsIn.mono (callsIn_wide.2 HST.out) ?_⟩
      rintro e w7 ⟨v7, rfl, hv7, hB7⟩
      rw [HG.out.2.2, ← stackP_next HNM.out] at hv7
      have HV7 : Hid _ := hv7
      have HM7 : Hid (MLe (offS W.cell? S) (offS w7.cell? S2)) := fun q u hq => mle_S hB7 _ _ (HM2.out _ _ (HM.out _ _ hq))
      have hJ7 := hJ _ _ _ _ hJ2 hB7
      clear hv7 HST HG HM2 HM HV
      gi_wp2
      go_roundw
      case rel => exact ⟨j + 1, S2, by omega, by go_num, hJ7, HV7.out, HM7.out⟩
      case measure => (simp [intOf]; try omega)
end Go.Proofs.YtlbabnffiibnpaaGreat
namespace Go.Proofs.YtlbabnffiibnpaaGreat
open Go.RowKit
abbrev Fls := List (Nd × Nat)
/-- The first kid of a name. -/
def fstK (nm : ByteArray) : Kds → Option Nd
  | [] => none
  | p :: l => if p.1 = nm then some p.2 else fstK nm l
theorem fstK_no {nm : ByteArray} : ∀ {ks : Kds}, (∀ p ∈ ks, p.1 ≠ nm) → fstK nm ks = none
  | [], _ => rfl
  | p :: l, h => by rw [fstK, if_neg (h p (List.mem_cons_self ..)), fstK_no fun q hq => h q (List.mem_cons_of_mem _ hq)]
theorem fstK_hit {nm : ByteArray} {x : Nd} : ∀ {ks : Kds} {j : Nat}, ks[j]? = some (nm, x) → (∀ q, q < j → ∀ p, ks[q]? = some p → p.1 ≠ nm) → fstK nm ks = some x
  | [], j, h, _ => by simp at h
  | p :: l, 0, h, _ => by simp at h; rw [fstK, if_pos (by rw [h])]; rw [h]
  | p :: l, j + 1, h, k => by
    rw [fstK, if_neg (k 0 (by omega) p rfl)]
    exact fstK_hit (j := j) (by simpa using h) fun q hq p' hp' => k (q + 1) (by omega) p' (by simpa using hp')
theorem kidO_eq (nm : ByteArray) (x : Nd) : kidO nm x = fstK nm x.dirKs := by
  obtain ⟨k, m, u, g, o, at_, d, ks⟩ := x
  unfold kidO kidF
  show (if (if k = 2 then kidI nm ks 0 else -1) < 0 then none else (ks[((if k = 2 then kidI nm ks 0 else -1) : Int).toNat]?).map (·.2)) = fstK nm (if k = 2 then ks else [])
  by_cases hk : k = 2
  · rw [if_pos hk, if_pos hk]
    rcases kidI_at nm ks 0 with ⟨h1, h2⟩ | ⟨j, y, h1, h2, h3⟩
    · rw [h1, fstK_no h2]; rfl
    · rw [h1, fstK_hit h2 h3, if_neg (by omega), Int.toNat_natCast, Nat.zero_add, h2]; rfl
  · rw [if_neg hk, if_neg hk]; rfl
theorem fstK_mem {nm : ByteArray} {y : Nd} : ∀ {ks : Kds}, fstK nm ks = some y → (nm, y) ∈ ks
  | [], h => by cases h
  | p :: l, h => by
    rw [fstK] at h
    split at h
    · rename_i e; cases h; rw [← e]; exact List.mem_cons_self ..
    · exact List.mem_cons_of_mem _ (fstK_mem h)
theorem dirKs_sub {x : Nd} {p : ByteArray × Nd} (h : p ∈ x.dirKs) : p ∈ x.kids := by
  unfold Nd.dirKs at h
  split at h
  · exact h
  · cases h
/-- Rising names. -/
def Rise (l : List ByteArray) : Prop := l.Pairwise (fun a b => ltB a b = true)
/-- A name put where it belongs. -/
def insU (nm : ByteArray) : List ByteArray → List ByteArray
  | [] => [nm]
  | x :: r => if ltB x nm = true then x :: insU nm r else if x = nm then x :: r else nm :: x :: r
theorem mem_insU (nm : ByteArray) : ∀ {l : List ByteArray} {x : ByteArray}, x ∈ insU nm l ↔ x = nm ∨ x ∈ l
  | [], x => by simp [insU]
  | y :: r, x => by
    rw [insU]
    split
    · rw [List.mem_cons, mem_insU nm, List.mem_cons]
      constructor
      · rintro (h | h | h)
        · exact .inr (.inl h)
        · exact .inl h
        · exact .inr (.inr h)
      · rintro (h | h | h)
        · exact .inr (.inl h)
        · exact .inl h
        · exact .inr (.inr h)
    · split
      · rename_i e
        subst e
        simp
      · simp
theorem rise_insU (nm : ByteArray) : ∀ {l : List ByteArray}, Rise l → Rise (insU nm l)
  | [], _ => by simp [insU, Rise]
  | y :: r, h => by
    obtain ⟨h1, h2⟩ := List.pairwise_cons.1 h
    rw [insU]
    split
    · rename_i hl
      refine List.pairwise_cons.2 ⟨fun z hz => ?_, rise_insU nm h2⟩
      rcases (mem_insU nm).1 hz with e | e
      · rw [e]; exact hl
      · exact h1 z e
    · rename_i hl
      split
      · exact h
      · rename_i hne
        have hlt : ltB nm y = true := by
          rcases ltB_total y nm with h | h | h
          · exact absurd h hl
          · exact absurd h hne
          · exact h
        refine List.pairwise_cons.2 ⟨fun z hz => ?_, h⟩
        rcases List.mem_cons.1 hz with e | e
        · rw [e]; exact hlt
        · exact ltB_trans hlt (h1 z e)
theorem rise_one : ∀ {a b : List ByteArray}, Rise a → Rise b → (∀ x, x ∈ a ↔ x ∈ b) → a = b
  | [], [], _, _, _ => rfl
  | [], y :: b, _, _, h => by have := (h y).2 (List.mem_cons_self ..); cases this
  | x :: a, [], _, _, h => by have := (h x).1 (List.mem_cons_self ..); cases this
  | x :: a, y :: b, ha, hb, h => by
    obtain ⟨a1, a2⟩ := List.pairwise_cons.1 ha
    obtain ⟨b1, b2⟩ := List.pairwise_cons.1 hb
    have exy : x = y := by
      rcases List.mem_cons.1 ((h x).1 (List.mem_cons_self ..)) with e | e
      · exact e
      · rcases List.mem_cons.1 ((h y).2 (List.mem_cons_self ..)) with e2 | e2
        · exact e2.symm
        · have h1 := b1 x e
          have h2 := a1 y e2
          rw [ltB_asymm h1] at h2; cases h2
    subst exy
    congr 1
    refine rise_one a2 b2 fun z => ?_
    constructor
    · intro hz
      rcases List.mem_cons.1 ((h z).1 (List.mem_cons_of_mem _ hz)) with e | e
      · subst e; have := a1 z hz; rw [ltB_irrefl] at this; cases this
      · exact e
    · intro hz
      rcases List.mem_cons.1 ((h z).2 (List.mem_cons_of_mem _ hz)) with e | e
      · subst e; have := b1 z hz; rw [ltB_irrefl] at this; cases this
      · exact e
theorem rise_nodup {l : List ByteArray} (h : Rise l) : l.Nodup := List.Pairwise.imp (fun h => ltB_ne h) h
/-- The names of all kids. -/
def kNms (l : Fls) : List ByteArray := l.flatMap fun q => q.1.kids.map (·.1)
/-- What is seen at a name in what is seen. -/
def nxt (l : Fls) (nm : ByteArray) : Fls := shP (kidsP nm l)
def lstF (l : Fls) (out : List ByteArray) (r : List ByteArray) : List ByteArray := r.foldl (fun out nm => if (nxt l nm).isEmpty = true then out else insU nm out) out
theorem mem_lstF (l : Fls) : ∀ (r out : List ByteArray) (x : ByteArray), x ∈ lstF l out r ↔ x ∈ out ∨ (x ∈ r ∧ nxt l x ≠ [])
  | [], out, x => by simp [lstF]
  | nm :: r, out, x => by
    unfold lstF
    rw [List.foldl_cons]
    show x ∈ lstF l _ r ↔ _
    rw [mem_lstF l r]
    by_cases h : (nxt l nm).isEmpty = true
    · rw [if_pos h]
      have h' : nxt l nm = [] := List.isEmpty_iff.1 h
      constructor
      · rintro (h1 | ⟨h1, h2⟩)
        · exact .inl h1
        · exact .inr ⟨List.mem_cons_of_mem _ h1, h2⟩
      · rintro (h1 | ⟨h1, h2⟩)
        · exact .inl h1
        · rcases List.mem_cons.1 h1 with e | e
          · rw [e] at h2; exact absurd h' h2
          · exact .inr ⟨e, h2⟩
    · rw [if_neg h, mem_insU]
      have h' : nxt l nm ≠ [] := fun e => h (List.isEmpty_iff.2 e)
      constructor
      · rintro ((h1 | h1) | ⟨h1, h2⟩)
        · exact .inr ⟨by rw [h1]; exact List.mem_cons_self .., by rw [h1]; exact h'⟩
        · exact .inl h1
        · exact .inr ⟨List.mem_cons_of_mem _ h1, h2⟩
      · rintro (h1 | ⟨h1, h2⟩)
        · exact .inl (.inr h1)
        · rcases List.mem_cons.1 h1 with e | e
          · exact .inl (.inl e)
          · exact .inr ⟨e, h2⟩
theorem rise_lstF (l : Fls) : ∀ (r out : List ByteArray), Rise out → Rise (lstF l out r)
  | [], out, h => h
  | nm :: r, out, h => by
    unfold lstF
    rw [List.foldl_cons]
    refine rise_lstF l r _ ?_
    split
    · exact h
    · exact rise_insU nm h
/-- The names at which something is seen, rising. -/
def listP (l : Fls) : List ByteArray := lstF l [] (kNms l)
theorem listP_rise (l : Fls) : Rise (listP l) := rise_lstF l _ _ List.Pairwise.nil
theorem nxt_name {l : Fls} {nm : ByteArray} (h : nxt l nm ≠ []) : nm ∈ kNms l := by
  cases hk : kidsP nm l with
  | nil => exact absurd (by unfold nxt; rw [hk]; rfl) h
  | cons q r =>
    have hq : q ∈ kidsP nm l := by rw [hk]; exact List.mem_cons_self ..
    obtain ⟨p, hp, e⟩ := List.mem_filterMap.1 hq
    obtain ⟨y, hy, _⟩ := Option.map_eq_some_iff.1 e
    rw [kidO_eq] at hy
    exact List.mem_flatMap.2 ⟨p, hp, List.mem_map.2 ⟨_, dirKs_sub (fstK_mem hy), rfl⟩⟩
theorem mem_listP {l : Fls} {nm : ByteArray} : nm ∈ listP l ↔ nxt l nm ≠ [] := by
  unfold listP
  rw [mem_lstF]
  constructor
  · rintro (h | h)
    · cases h
    · exact h.2
  · intro h; exact .inr ⟨nxt_name h, h⟩
/-- How many nodes there are in all. -/
def tot : Fls → Nat
  | [] => 0
  | q :: r => cnt q.1 + tot r
theorem cnt_posF (x : Nd) : 0 < cnt x := by obtain ⟨k, m, u, g, o, at_, d, ks⟩ := x; rw [cnt]; omega
theorem len_tot : ∀ l : Fls, l.length ≤ tot l
  | [] => Nat.le_refl _
  | q :: r => by have := len_tot r; have := cnt_posF q.1; simp [tot]; omega
theorem tot_dirP : ∀ l : Fls, tot (dirP l) ≤ tot l
  | [] => Nat.le_refl _
  | q :: r => by
    have ih := tot_dirP r
    rw [dirP]
    split
    · simp [tot]
    split
    · simp [tot]
    · simp [tot]; omega
theorem tot_shP : ∀ l : Fls, tot (shP l) ≤ tot l
  | [] => Nat.le_refl _
  | q :: r => by
    rw [shP]
    split
    · simp [tot]
    · exact tot_dirP _
def oc : Option Nd → Nat
  | none => 0
  | some y => cnt y
theorem sum_zero : ∀ N : List ByteArray, (N.map fun _ => 0).sum = 0
  | [] => rfl
  | n :: N => by simp only [List.map_cons, List.sum_cons]; rw [sum_zero N]
theorem sum_split (g h : ByteArray → Nat) : ∀ N : List ByteArray, (N.map fun n => g n + h n).sum = (N.map g).sum + (N.map h).sum
  | [] => rfl
  | n :: N => by simp only [List.map_cons, List.sum_cons]; rw [sum_split g h N]; omega
theorem sum_one (a : ByteArray) (c : Nat) (g : ByteArray → Nat) : ∀ N : List ByteArray, N.Nodup → (N.map fun n => if a = n then c else g n).sum ≤ c + ((N.filter fun n => decide (a ≠ n)).map g).sum
  | [], _ => by simp
  | n :: N, h => by
    obtain ⟨h1, h2⟩ := List.nodup_cons.1 h
    rw [List.map_cons, List.sum_cons]
    by_cases e : a = n
    · rw [if_pos e]
      have hN : ∀ m ∈ N, a ≠ m := fun m hm e2 => h1 (by rw [← e, e2]; exact hm)
      have e1 : (N.map fun n => if a = n then c else g n) = N.map g := List.map_congr_left fun m hm => if_neg (hN m hm)
      have e2 : (n :: N).filter (fun n => decide (a ≠ n)) = N := by
        rw [List.filter_cons, if_neg (by simp [e])]
        exact List.filter_eq_self.2 fun m hm => decide_eq_true (hN m hm)
      rw [e1, e2]
      omega
    · rw [if_neg e, List.filter_cons, if_pos (by simp [e]), List.map_cons, List.sum_cons]
      have := sum_one a c g N h2
      omega
theorem fst_sum : ∀ (ks : Kds) (N : List ByteArray), N.Nodup → (N.map fun nm => oc (fstK nm ks)).sum ≤ cntL ks
  | [], N, _ => by
    have : (N.map fun nm => oc (fstK nm [])) = N.map fun _ => 0 := rfl
    rw [this, sum_zero]
    exact Nat.zero_le _
  | (a, y) :: l, N, h => by
    have e : (N.map fun nm => oc (fstK nm ((a, y) :: l))) = N.map fun nm => if a = nm then cnt y else oc (fstK nm l) := by
      refine List.map_congr_left fun nm _ => ?_
      rw [fstK]
      split <;> rfl
    rw [e, cntL]
    have h1 := sum_one a (cnt y) (fun nm => oc (fstK nm l)) N h
    have h2 := fst_sum l (N.filter fun n => decide (a ≠ n)) (h.filter _)
    omega
theorem kidsP_cons (nm : ByteArray) (q : Nd × Nat) (l : Fls) : tot (kidsP nm (q :: l)) = oc (kidO nm q.1) + tot (kidsP nm l) := by
  unfold kidsP
  rw [List.filterMap_cons]
  cases h : kidO nm q.1 with
  | none => simp [oc]
  | some y => simp [oc, tot]
theorem cnt_kidsN (x : Nd) : cntL x.dirKs + 1 ≤ cnt x := by
  obtain ⟨k, m, u, g, o, at_, d, ks⟩ := x
  rw [cnt]
  show cntL (if k = 2 then ks else []) + 1 ≤ _
  split
  · omega
  · rw [cntL]; omega
theorem tot_kids : ∀ (l : Fls) (N : List ByteArray), N.Nodup → (N.map fun nm => tot (kidsP nm l)).sum + l.length ≤ tot l
  | [], N, _ => by
    have : (N.map fun nm => tot (kidsP nm [])) = N.map fun _ => 0 := rfl
    rw [this, sum_zero]
    simp [tot]
  | q :: l, N, h => by
    have e : (N.map fun nm => tot (kidsP nm (q :: l))) = N.map fun nm => oc (fstK nm q.1.dirKs) + tot (kidsP nm l) := List.map_congr_left fun nm _ => by rw [kidsP_cons, kidO_eq]
    rw [e, sum_split]
    have h1 := fst_sum q.1.dirKs N h
    have h2 := tot_kids l N h
    have h3 := cnt_kidsN q.1
    simp only [tot, List.length_cons]
    omega
theorem sum_le (g h : ByteArray → Nat) (hg : ∀ n, g n ≤ h n) : ∀ N : List ByteArray, (N.map g).sum ≤ (N.map h).sum
  | [] => Nat.le_refl _
  | n :: N => by have := sum_le g h hg N; have := hg n; simp only [List.map_cons, List.sum_cons]; omega
theorem tot_nxt (l : Fls) (N : List ByteArray) (h : N.Nodup) : (N.map fun nm => tot (nxt l nm)).sum + l.length ≤ tot l := by
  have h1 := tot_kids l N h
  have h2 := sum_le (fun nm => tot (nxt l nm)) (fun nm => tot (kidsP nm l)) (fun nm => tot_shP _) N
  omega
theorem tot_nxt1 (l : Fls) (nm : ByteArray) : tot (nxt l nm) + l.length ≤ tot l := by
  have := tot_nxt l [nm] (by simp)
  simpa using this
theorem listP_len (l : Fls) : (listP l).length ≤ tot l := by
  have h := tot_nxt l (listP l) (rise_nodup (listP_rise l))
  have h2 : ∀ N : List ByteArray, (∀ nm ∈ N, nxt l nm ≠ []) → N.length ≤ (N.map fun nm => tot (nxt l nm)).sum := by
    intro N
    induction N with
    | nil => intro _; exact Nat.le_refl _
    | cons n N ih =>
      intro hN
      have h3 := ih fun nm hm => hN nm (List.mem_cons_of_mem _ hm)
      have h4 : 0 < tot (nxt l n) := Nat.lt_of_lt_of_le (List.length_pos_iff.2 (hN n (List.mem_cons_self ..))) (len_tot _)
      simp only [List.map_cons, List.sum_cons, List.length_cons]
      omega
  have := h2 (listP l) fun nm hm => mem_listP.1 hm
  omega
/-- A node without Kids and Opaque. -/
def nakN : Nd → Nd
  | .mk k m u g _ at_ d _ => .mk k m u g false at_ d []
/-- All that is seen, as one tree. -/
def flatP (f : Nd → Nat → Nd) : Nat → Fls → Nd
  | 0, _ => zN
  | _ + 1, [] => zN
  | n + 1, q :: r => (f (nakN q.1) q.2).with ((f (nakN q.1) q.2).kids ++ (listP (q :: r)).map fun nm => (nm, flatP f n (nxt (q :: r) nm)))
theorem flatP_fuel (f : Nd → Nat → Nd) : ∀ (n m : Nat) (l : Fls), tot l ≤ n → tot l ≤ m → flatP f n l = flatP f m l
  | 0, m, [], _, _ => by cases m <;> rfl
  | 0, m, q :: r, h, _ => by have := cnt_posF q.1; simp [tot] at h; omega
  | n + 1, 0, [], _, _ => rfl
  | n + 1, 0, q :: r, _, h => by have := cnt_posF q.1; simp [tot] at h; omega
  | n + 1, m + 1, [], _, _ => rfl
  | n + 1, m + 1, q :: r, h1, h2 => by
    rw [flatP, flatP]
    congr 2
    refine List.map_congr_left fun nm _ => ?_
    have h3 := tot_nxt1 (q :: r) nm
    rw [List.length_cons] at h3
    rw [flatP_fuel f n m _ (by omega) (by omega)]
def flatD (f : Nd → Nat → Nd) (l : Fls) : Nd := flatP f (tot l) l
theorem flatD_cons (f : Nd → Nat → Nd) (q : Nd × Nat) (r : Fls) : flatD f (q :: r) = (f (nakN q.1) q.2).with ((f (nakN q.1) q.2).kids ++ (listP (q :: r)).map fun nm => (nm, flatD f (nxt (q :: r) nm))) := by
  unfold flatD
  rw [flatP_fuel f (tot (q :: r)) (tot (q :: r) + 1) _ (Nat.le_refl _) (by omega), flatP]
  congr 2
  refine List.map_congr_left fun nm _ => ?_
  have h3 := tot_nxt1 (q :: r) nm
  rw [flatP_fuel f _ (tot (nxt (q :: r) nm)) _ (by omega) (Nat.le_refl _)]
end Go.Proofs.YtlbabnffiibnpaaGreat
namespace Go.Proofs.YtlbabnffiibnpaaGreat
open Go.RowKit
def idF : Nd → Nat → Nd := fun x _ => x
abbrev flat0 (l : Fls) : Nd := flatD idF l
theorem with_opq (x : Nd) (ks : Kds) : (x.with ks).opq = x.opq := by obtain ⟨k, m, u, g, o, at_, d, ks⟩ := x; rfl
theorem bareN_kids (x : Nd) : (nakN x).kids = [] := by obtain ⟨k, m, u, g, o, at_, d, ks⟩ := x; rfl
theorem bareN_opq (x : Nd) : (nakN x).opq = false := by obtain ⟨k, m, u, g, o, at_, d, ks⟩ := x; rfl
theorem bareN_with (x : Nd) (ks : Kds) : nakN (x.with ks) = nakN x := by obtain ⟨k, m, u, g, o, at_, d, ks⟩ := x; rfl
theorem flat0_cons (q : Nd × Nat) (r : Fls) : flat0 (q :: r) = (nakN q.1).with ((listP (q :: r)).map fun nm => (nm, flat0 (nxt (q :: r) nm))) := by
  have h := flatD_cons idF q r
  unfold idF at h
  rw [bareN_kids, List.nil_append] at h
  exact h
theorem seen_nil (names : List ByteArray) : names.foldl (fun l nm => shP (kidsP nm l)) ([] : Fls) = [] := by
  induction names with
  | nil => rfl
  | cons nm r ih => exact ih
/-- Layers' numbers do not matter. -/
def er (l : Fls) : Fls := l.map fun q => (q.1, 0)
end Go.Proofs.YtlbabnffiibnpaaGreat
