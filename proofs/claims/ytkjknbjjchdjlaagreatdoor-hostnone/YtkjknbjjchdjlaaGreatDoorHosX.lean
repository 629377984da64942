/-
  A CONFIG AS NUMBERS: aboutConfig: the walk.
  WHAT IS NEW ENTERS A HOST: enter: the walk.
-/
import Derived.Test.YtkjknbjjchdjlaaGreatDoorHonX
namespace Go.Proofs.YtkjknbjjchdjlaaGreatDoor
open Go.RowKit
theorem hwith2 {w : World} {base : Nat} {v : Value} {L zs : List Int} {a : Option Addr} {cap n : Nat} (hv : NR base w v L) (h : Ints w a zs) (hs : ∀ p, a = some p → zs ≠ [] → v.ownBlock ≠ some p.block) (hl : L.length ≤ 1000) (hz : zs.length ≤ 1000) (hb : base ≤ w.heap.size) (hnil : a = none → zs = []) (hn : zs.length = n) :
    Calls Tryz.prog 49 #[v, .slice a n cap] w fun e w' => ∃ v', e = .returned v' ∧ NR base w' v' (L ++ (n : Int) :: zs) ∧ Below base w w' := by
  subst hn
  exact Calls.mono (hwith_any hv h hs hl hz hb hnil) fun e w' ⟨v', e1, r, g⟩ => ⟨v', e1, r, (Below.refl base w).grown g.g hb (fun g' e => ((World.ownsRow.lt hv) g' e).1)⟩
/-- Two rows, the one made behind the other. -/
theorem rows_apart {w w' : World} {b0 : Nat} {v u : Value} {L M : List Int} (hv : NR b0 w v L) (hu : NR w.heap.size w' u M) (_hm : M ≠ []) : ∃ a cap, u = .slice a M.length cap ∧ Ints w' a M ∧ (∀ p, a = some p → M ≠ [] → v.ownBlock ≠ some p.block) ∧ (a = none → M = []) := by
  obtain ⟨a, cap, rfl, hi⟩ := nr_ints hu
  refine ⟨a, cap, rfl, hi, fun p hp _ e => ?_, fun ha => ?_⟩
  · have h1 := (World.ownsRow.lt hv) p.block e
    have h2 := (World.ownsRow.lt hu) p.block (by rw [hp]; rfl)
    omega
  · rcases hi with e | ⟨b, off, e, _⟩
    · exact e
    · rw [ha] at e; cases e
def NRn (b : Nat) (w : World) (v : Value) (k : Nat) : Prop := ∃ L : List Int, L.length = k ∧ NR b w v L
theorem hwith0 {w : World} {base : Nat} {v : Value} {k : Nat} (hv : NRn base w v k) (hk : k ≤ 900) (hb : base ≤ w.heap.size) : Calls Tryz.prog 49 #[v, .slice none 0 0] w fun e w' => ∃ v', e = .returned v' ∧ NRn base w' v' (k + 1) ∧ Below base w w' := by
  obtain ⟨L, hL, hr⟩ := hv
  exact Calls.mono (hwith2 (a := none) (zs := []) (n := 0) (cap := 0) hr (.inl rfl) (fun p e => by cases e) (by omega) (by simp) hb (fun _ => rfl) rfl) fun e w' ⟨v', e1, r, g⟩ => ⟨v', e1, ⟨_, by simp [hL], r⟩, g⟩
theorem hwithR {w0 w : World} {base : Nat} {v u : Value} {k : Nat} {M : List Int} (hv : NRn base w0 v k) (hu : NR w0.heap.size w u M) (hm : M.length = 3) (hB : Below w0.heap.size w0 w) (hk : k ≤ 900) (hb : base ≤ w0.heap.size) : Calls Tryz.prog 49 #[v, u] w fun e w' => ∃ v', e = .returned v' ∧ NRn base w' v' (k + 4) ∧ Below base w w' := by
  obtain ⟨L, hL, hr⟩ := hv
  obtain ⟨a, cap, rfl, hi, hd, hn⟩ := rows_apart hr hu (fun e => by rw [e] at hm; simp at hm)
  exact Calls.mono (hwith2 (n := M.length) (ownsRow_bel hr hB) hi hd (by omega) (by omega) (Nat.le_trans hb hB.size) hn rfl) fun e w' ⟨v', e1, r, g⟩ => ⟨v', e1, ⟨_, by simp [hL, hm], r⟩, g⟩
set_option maxRecDepth 100000 in
set_option maxHeartbeats 4000000 in
theorem about_any {w : World} {rg : Nat} (hr : w.cell? ⟨rg, 0, none⟩ = some (.int .i64 0) ∧ w.cell? ⟨rg, 1, none⟩ = some (.int .i64 1000) ∧ w.cell? ⟨rg, 2, none⟩ = some (.int .i64 100)) :
    Calls Tryz.prog 28 #[.agg #[.slice (some ⟨rg, 0, none⟩) 1 1, .slice (some ⟨rg, 0, none⟩) 1 1, .int .i64 0, .int .i64 0, .slice none 0 0, .int .i64 15, .int .i64 4, .slice none 0 0]] w fun e w' => (∃ aa ca, e = .returned (.slice aa 14 ca) ∧ ∃ L : List Int, L.length = 14 ∧ Ints w' aa L) ∧ Below w.heap.size w w' := by
  have s1 : (w.alloc (.cells #[.slice (some ⟨rg, 0, none⟩) 1 1, .slice (some ⟨rg, 0, none⟩) 1 1, .int .i64 0, .int .i64 0, .slice none 0 0, .int .i64 15, .int .i64 4, .slice none 0 0] 45)).heap.size = w.heap.size + 1 := World.size_alloc _ _
  have hB : Below w.heap.size w ((w.alloc (.cells #[.slice (some ⟨rg, 0, none⟩) 1 1, .slice (some ⟨rg, 0, none⟩) 1 1, .int .i64 0, .int .i64 0, .slice none 0 0, .int .i64 15, .int .i64 4, .slice none 0 0] 45)).alloc (.cells #[.int .i64 4, .int .i64 0, .int .i64 0, .int .i64 15] 3)) := ((Below.refl _ _).alloc (Nat.le_refl _) _).alloc (by omega) _
  have hs2 : ((w.alloc (.cells #[.slice (some ⟨rg, 0, none⟩) 1 1, .slice (some ⟨rg, 0, none⟩) 1 1, .int .i64 0, .int .i64 0, .slice none 0 0, .int .i64 15, .int .i64 4, .slice none 0 0] 45)).alloc (.cells #[.int .i64 4, .int .i64 0, .int .i64 0, .int .i64 15] 3)).heap.size = w.heap.size + 1 + 1 := by rw [World.size_alloc, s1]
  have r0 : NR (w.heap.size + 1) ((w.alloc (.cells #[.slice (some ⟨rg, 0, none⟩) 1 1, .slice (some ⟨rg, 0, none⟩) 1 1, .int .i64 0, .int .i64 0, .slice none 0 0, .int .i64 15, .int .i64 4, .slice none 0 0] 45)).alloc (.cells #[.int .i64 4, .int .i64 0, .int .i64 0, .int .i64 15] 3)) (.slice (some ⟨w.heap.size + 1, 0, none⟩) 4 4) [4, 0, 0, 15] := ⟨rfl, .inr ⟨w.heap.size + 1, 4, #[.int .i64 4, .int .i64 0, .int .i64 0, .int .i64 15], rfl, Nat.le_refl _, by rw [← s1]; exact heap_alloc_new _ _, Nat.le_refl _, by unfold maxLen; omega, rfl, rfl⟩⟩
  have k : ∀ i v, (w.alloc (.cells #[.slice (some ⟨rg, 0, none⟩) 1 1, .slice (some ⟨rg, 0, none⟩) 1 1, .int .i64 0, .int .i64 0, .slice none 0 0, .int .i64 15, .int .i64 4, .slice none 0 0] 45)).cell? ⟨w.heap.size, i, none⟩ = some v → ((w.alloc (.cells #[.slice (some ⟨rg, 0, none⟩) 1 1, .slice (some ⟨rg, 0, none⟩) 1 1, .int .i64 0, .int .i64 0, .slice none 0 0, .int .i64 15, .int .i64 4, .slice none 0 0] 45)).alloc (.cells #[.int .i64 4, .int .i64 0, .int .i64 0, .int .i64 15] 3)).cell? ⟨w.heap.size, i, none⟩ = some v := fun i v q => alc q
  have k0 := k 0 _ (World.cell?_alloc_at _ _ _ _ rfl)
  have k1 := k 1 _ (World.cell?_alloc_at _ _ _ _ rfl)
  have k4 := k 4 _ (World.cell?_alloc_at _ _ _ _ rfl)
  have k7 := k 7 _ (World.cell?_alloc_at _ _ _ _ rfl)
  clear k
  go_enter Tryz.func28, Tryz.ntmps28
  go_upto_region 2 with fail
  generalize ((w.alloc (.cells #[.slice (some ⟨rg, 0, none⟩) 1 1, .slice (some ⟨rg, 0, none⟩) 1 1, .int .i64 0, .int .i64 0, .slice none 0 0, .int .i64 15, .int .i64 4, .slice none 0 0] 45)).alloc (.cells #[.int .i64 4, .int .i64 0, .int .i64 0, .int .i64 15] 3)) = w2 at hB hs2 r0 k0 k1 k4 k7 ⊢
  obtain ⟨cb, hcb⟩ : ∃ cb, w.heap.size = cb := ⟨_, rfl⟩
  have hrg : rg < w.heap.size := World.block_lt_of_cell? w ⟨rg, 0, none⟩ hr.1
  have HR2 : Hid (w2.cell? ⟨rg, 0, none⟩ = some (.int .i64 0) ∧ w2.cell? ⟨rg, 1, none⟩ = some (.int .i64 1000) ∧ w2.cell? ⟨rg, 2, none⟩ = some (.int .i64 100)) := ⟨blwV hB hr.1, blwV hB hr.2.1, blwV hB hr.2.2⟩
  have HB : Hid (Below w.heap.size w w2) := hB
  rw [hcb] at hs2 r0 k0 k1 k4 k7 hrg ⊢
  obtain ⟨b0, hb0⟩ : ∃ b0, cb + 1 = b0 := ⟨_, rfl⟩
  have HE : Hid (w.heap.size = cb ∧ cb + 1 = b0) := ⟨hcb, hb0⟩
  rw [hb0] at r0 ⊢
  generalize hv0 : Value.slice (some ⟨b0, 0, none⟩) 4 4 = v0 at r0 ⊢
  have hbs : b0 ≤ w2.heap.size := by omega
  have C1 : Hid (Calls Tryz.prog 49 #[v0, .slice none 0 0] w2.drew fun e w' => ∃ v', e = .returned v' ∧ NRn b0 w' v' 5 ∧ Below b0 w2.drew w') := hwith0 (w := w2.drew) ⟨_, rfl, World.ownsRow.drew r0⟩ (by decide) hbs
  have T : w2.drew.cell? ⟨cb, 4, none⟩ = some (.slice none 0 0) ∧ w2.drew.cell? ⟨cb, 7, none⟩ = some (.slice none 0 0) := ⟨k4, k7⟩
  have HK0 : Hid (w2.cell? ⟨cb, 0, none⟩ = some (.slice (some ⟨rg, 0, none⟩) 1 1) ∧ w2.cell? ⟨cb, 1, none⟩ = some (.slice (some ⟨rg, 0, none⟩) 1 1)) := ⟨k0, k1⟩
  have HBS : Hid (b0 ≤ w2.heap.size) := hbs
  clear r0 k0 k1 k4 k7 hcb hb0 hv0 hB hr hs2 s1 hbs
  go_region_held3 (fun w' => w'.cell? ⟨cb, 4, none⟩ = some (.slice none 0 0) ∧ w'.cell? ⟨cb, 7, none⟩ = some (.slice none 0 0)) (first | with_reducible exact T | with_reducible exact T3 | with_reducible exact T4) (first | (go_at_call 49; (with_reducible refine Calls.mono C1.out ?_); rintro e w3 ⟨v3, rfl, r3, q3⟩; have T3 : w3.cell? ⟨cb, 4, none⟩ = some (.slice none 0 0) ∧ w3.cell? ⟨cb, 7, none⟩ = some (.slice none 0 0) := ⟨(q3.cell (p := ⟨cb, 4, none⟩) (by show cb < b0; have := HE.out; omega)).trans T.1, (q3.cell (p := ⟨cb, 7, none⟩) (by show cb < b0; have := HE.out; omega)).trans T.2⟩; have C2 : Hid (Calls Tryz.prog 49 #[v3, .slice none 0 0] w3 fun e w' => ∃ v', e = .returned v' ∧ NRn b0 w' v' 6 ∧ Below b0 w3 w') := hwith0 (w := w3) r3 (by decide) (Nat.le_trans HBS.out q3.size)) | (go_at_call 49; (with_reducible refine Calls.mono C2.out ?_); rintro e w4 ⟨v4, rfl, r4, q4⟩; have T4 : w4.cell? ⟨cb, 4, none⟩ = some (.slice none 0 0) ∧ w4.cell? ⟨cb, 7, none⟩ = some (.slice none 0 0) := ⟨(q4.cell (p := ⟨cb, 4, none⟩) (by show cb < b0; have := HE.out; omega)).trans T3.1, (q4.cell (p := ⟨cb, 7, none⟩) (by show cb < b0; have := HE.out; omega)).trans T3.2⟩))
  have Q4 : Below b0 w2 w4 := (show Below b0 w2 w2.drew from (Below.refl _ _).drew).trans (q3.trans q4)
  have hE := HE.out
  have k0 : w4.cell? ⟨cb, 0, none⟩ = some (.slice (some ⟨rg, 0, none⟩) 1 1) ∧ w4.cell? ⟨cb, 1, none⟩ = some (.slice (some ⟨rg, 0, none⟩) 1 1) := ⟨(Q4.cell (p := ⟨cb, 0, none⟩) (by show cb < b0; omega)).trans HK0.out.1, (Q4.cell (p := ⟨cb, 1, none⟩) (by show cb < b0; omega)).trans HK0.out.2⟩
  have hR4 : w4.cell? ⟨rg, 0, none⟩ = some (.int .i64 0) ∧ w4.cell? ⟨rg, 1, none⟩ = some (.int .i64 1000) ∧ w4.cell? ⟨rg, 2, none⟩ = some (.int .i64 100) := ⟨(Q4.cell (p := ⟨rg, 0, none⟩) (by show rg < b0; omega)).trans HR2.out.1, (Q4.cell (p := ⟨rg, 1, none⟩) (by show rg < b0; omega)).trans HR2.out.2.1, (Q4.cell (p := ⟨rg, 2, none⟩) (by show rg < b0; omega)).trans HR2.out.2.2⟩
  have R4 : Hid (NRn b0 w4.drew v4 6) := let ⟨L, hL, hr⟩ := r4; ⟨L, hL, World.ownsRow.drew hr⟩
  have HQ4 : Hid (Below cb w w4) := (by have q := HB.out; rw [hE.1] at q; exact q : Below cb w w2).trans (Q4.mono (by omega))
  have HBS4 : Hid (b0 ≤ w4.heap.size) := Nat.le_trans HBS.out Q4.size
  clear T T3 T4 C1 C2 q3 q4 r3 r4 Q4 HK0 HR2 HBS hE
  go_upto_region 3 with fail
  have U : w4.drew.cell? ⟨cb, 0, none⟩ = some (.slice (some ⟨rg, 0, none⟩) 1 1) ∧ w4.drew.cell? ⟨cb, 1, none⟩ = some (.slice (some ⟨rg, 0, none⟩) 1 1) := k0
  have F1 : Hid (Calls Tryz.prog 53 #[.slice (some ⟨rg, 0, none⟩) 1 1] w4.drew fun e w' => (∃ v, e = .returned v ∧ NR w4.drew.heap.size w' v [0, 1000, 100]) ∧ Below w4.drew.heap.size w4.drew w') := fromR_one hR4.1 hR4.2.1 hR4.2.2
  have HR4 : Hid (w4.cell? ⟨rg, 0, none⟩ = some (.int .i64 0) ∧ w4.cell? ⟨rg, 1, none⟩ = some (.int .i64 1000) ∧ w4.cell? ⟨rg, 2, none⟩ = some (.int .i64 100)) := hR4
  clear hR4
  go_region_held3 (fun w' => w'.cell? ⟨cb, 0, none⟩ = some (.slice (some ⟨rg, 0, none⟩) 1 1) ∧ w'.cell? ⟨cb, 1, none⟩ = some (.slice (some ⟨rg, 0, none⟩) 1 1)) (first | with_reducible exact U | with_reducible exact U5 | with_reducible exact U6 | with_reducible exact U7 | with_reducible exact U8) (first | (go_at_call 53; (with_reducible refine Calls.mono F1.out ?_); rintro e w5 ⟨⟨x5, rfl, r5⟩, q5⟩; have U5 : w5.cell? ⟨cb, 0, none⟩ = some (.slice (some ⟨rg, 0, none⟩) 1 1) ∧ w5.cell? ⟨cb, 1, none⟩ = some (.slice (some ⟨rg, 0, none⟩) 1 1) := ⟨blwV q5 U.1, blwV q5 U.2⟩; have W5 : Hid (Calls Tryz.prog 49 #[v4, x5] w5 fun e w' => ∃ v', e = .returned v' ∧ NRn b0 w' v' 10 ∧ Below b0 w5 w') := hwithR R4.out r5 rfl q5 (by decide) HBS4.out; have HR5 : Hid (w5.cell? ⟨rg, 0, none⟩ = some (.int .i64 0) ∧ w5.cell? ⟨rg, 1, none⟩ = some (.int .i64 1000) ∧ w5.cell? ⟨rg, 2, none⟩ = some (.int .i64 100)) := ⟨blwV q5 HR4.out.1, blwV q5 HR4.out.2.1, blwV q5 HR4.out.2.2⟩; have HBS5 : Hid (b0 ≤ w5.heap.size) := Nat.le_trans HBS4.out q5.size) | (go_at_call 49; (with_reducible refine Calls.mono W5.out ?_); rintro e w6 ⟨v6, rfl, r6, q6⟩; have hE := HE.out; have U6 : w6.cell? ⟨cb, 0, none⟩ = some (.slice (some ⟨rg, 0, none⟩) 1 1) ∧ w6.cell? ⟨cb, 1, none⟩ = some (.slice (some ⟨rg, 0, none⟩) 1 1) := ⟨(q6.cell (p := ⟨cb, 0, none⟩) (by show cb < b0; omega)).trans U5.1, (q6.cell (p := ⟨cb, 1, none⟩) (by show cb < b0; omega)).trans U5.2⟩; have HR6 : Hid (w6.cell? ⟨rg, 0, none⟩ = some (.int .i64 0) ∧ w6.cell? ⟨rg, 1, none⟩ = some (.int .i64 1000) ∧ w6.cell? ⟨rg, 2, none⟩ = some (.int .i64 100)) := ⟨(q6.cell (p := ⟨rg, 0, none⟩) (by show rg < b0; omega)).trans HR5.out.1, (q6.cell (p := ⟨rg, 1, none⟩) (by show rg < b0; omega)).trans HR5.out.2.1, (q6.cell (p := ⟨rg, 2, none⟩) (by show rg < b0; omega)).trans HR5.out.2.2⟩; have F2 : Hid (Calls Tryz.prog 53 #[.slice (some ⟨rg, 0, none⟩) 1 1] w6 fun e w' => (∃ v, e = .returned v ∧ NR w6.heap.size w' v [0, 1000, 100]) ∧ Below w6.heap.size w6 w') := fromR_one HR6.out.1 HR6.out.2.1 HR6.out.2.2; have HBS6 : Hid (b0 ≤ w6.heap.size) := Nat.le_trans HBS5.out q6.size) | (go_at_call 53; (with_reducible refine Calls.mono F2.out ?_); rintro e w7 ⟨⟨x7, rfl, r7⟩, q7⟩; have U7 : w7.cell? ⟨cb, 0, none⟩ = some (.slice (some ⟨rg, 0, none⟩) 1 1) ∧ w7.cell? ⟨cb, 1, none⟩ = some (.slice (some ⟨rg, 0, none⟩) 1 1) := ⟨blwV q7 U6.1, blwV q7 U6.2⟩; have W7 : Hid (Calls Tryz.prog 49 #[v6, x7] w7 fun e w' => ∃ v', e = .returned v' ∧ NRn b0 w' v' 14 ∧ Below b0 w7 w') := hwithR r6 r7 rfl q7 (by decide) HBS6.out) | (go_at_call 49; (with_reducible refine Calls.mono W7.out ?_); rintro e w8 ⟨v8, rfl, r8, q8⟩; have U8 : w8.cell? ⟨cb, 0, none⟩ = some (.slice (some ⟨rg, 0, none⟩) 1 1) ∧ w8.cell? ⟨cb, 1, none⟩ = some (.slice (some ⟨rg, 0, none⟩) 1 1) := ⟨(q8.cell (p := ⟨cb, 0, none⟩) (by show cb < b0; omega)).trans U7.1, (q8.cell (p := ⟨cb, 1, none⟩) (by show cb < b0; omega)).trans U7.2⟩))
  obtain ⟨L, hL, hr8⟩ := r8
  obtain ⟨a8, c8, rfl, i8⟩ := nr_ints hr8
  have h4 := HBS4.out
  have hQ8 : Below cb w w8 := ((HQ4.out.drew.trans (q5.mono (by show cb ≤ w4.heap.size; omega))).trans (q6.mono (by omega))).trans ((q7.mono (by have := HBS6.out; omega)).trans (q8.mono (by omega)))
  have HI : Hid (Ints w8 a8 L) := i8
  have HLL : Hid (L.length = 14) := hL
  have HQ8 : Hid (Below w.heap.size w w8) := by show Below _ _ _; rw [hE.1]; exact hQ8
  rw [hL]
  clear U U5 U6 U7 U8 F1 F2 W5 W7 q5 q6 q7 q8 r5 r6 r7 hr8 i8 hQ8 hL h4 hE k0
  go_wp2
  go_ret
  exact ⟨⟨a8, c8, rfl, L, HLL.out, HI.out⟩, HQ8.out⟩
end Go.Proofs.YtkjknbjjchdjlaaGreatDoor
namespace Go.Proofs.YtkjknbjjchdjlaaGreatDoor
open Go.RowKit
theorem ints_upL {w : World} {zb zo : Nat} (hz : ∀ i : Nat, i < 10 → w.cell? ⟨zb, zo + i, none⟩ = some (.int .i64 (200 + (i : Int)))) : Ints w (some ⟨zb, zo, none⟩) (upL 10) := .inr ⟨zb, zo, rfl, fun i hi => by
  rw [upL_len] at hi
  rw [hz i hi]
  have : i = 0 ∨ i = 1 ∨ i = 2 ∨ i = 3 ∨ i = 4 ∨ i = 5 ∨ i = 6 ∨ i = 7 ∨ i = 8 ∨ i = 9 := by omega
  rcases this with rfl | rfl | rfl | rfl | rfl | rfl | rfl | rfl | rfl | rfl <;> rfl⟩
set_option maxRecDepth 100000 in
set_option maxHeartbeats 4000000 in
theorem enter_any {w : World} {hb db rb cp side m zb zo cap gb ca : Nat} {aa : Option Addr} {LA : List Int} {s : ByteArray} (h : HK w hb db rb cp 300 side m (.pointer none)) (hz : ∀ i : Nat, i < 10 → w.cell? ⟨zb, zo + i, none⟩ = some (.int .i64 (200 + (i : Int)))) (hne : zb ≠ db ∧ zb ≠ rb) (hcap : 10 ≤ cap) (hm : m ≤ 1000) (hs : s.size = 16) (hA : Ints w aa LA) (hAL : LA.length = 14)
    (g0 : w.cell? ⟨gb, 0, none⟩ = some (.slice (some ⟨zb, zo, none⟩) 10 cap)) (g1 : w.cell? ⟨gb, 1, none⟩ = some (.int .i64 0)) (g2 : w.cell? ⟨gb, 2, none⟩ = some (.int .i64 16)) (hgn : gb ≠ db ∧ gb ≠ rb) :
    Calls Tryz.prog 26 #[.pointer (some ⟨hb, 0, none⟩), .int .i64 6272, .slice aa 14 ca, .agg #[.slice (some ⟨zb, zo, none⟩) 10 cap, .int .i64 0, .int .i64 16], .string s, .agg #[.pointer (some ⟨db, 0, none⟩), .bool false, .int .i64 side, .pointer none, .pointer none, .pointer none, .pointer none, .pointer none, .pointer (some ⟨gb, 0, none⟩), .pointer none, .pointer none, .pointer none, .pointer none]] w fun e w' => e = .returned .nilIface ∧ HK w' hb db rb cp 300 (1 - side) (m + 75 + 16 + 68) (.pointer (some ⟨gb, 0, none⟩)) ∧ Mv (fun b => b = hb ∨ b = db ∨ b = rb) w w' := by
  obtain ⟨i0, hi0, hz0, hz1, hz2⟩ := kinfo_three Tryz.infoIn
  have hlt := h.lt
  have hzl : zb < w.heap.size := World.block_lt_of_cell? w ⟨zb, zo + 0, none⟩ (hz 0 (by omega))
  have hgl : gb < w.heap.size := World.block_lt_of_cell? w ⟨gb, 0, none⟩ g0
  have s1 : (w.alloc (.cells #[.slice (some ⟨zb, zo, none⟩) 10 cap, .int .i64 0, .int .i64 16] 75)).heap.size = w.heap.size + 1 := World.size_alloc _ _
  have hB : Below w.heap.size w ((w.alloc (.cells #[.slice (some ⟨zb, zo, none⟩) 10 cap, .int .i64 0, .int .i64 16] 75)).alloc (.cells #[.pointer (some ⟨db, 0, none⟩), .bool false, .int .i64 side, .pointer none, .pointer none, .pointer none, .pointer none, .pointer none, .pointer (some ⟨gb, 0, none⟩), .pointer none, .pointer none, .pointer none, .pointer none] 60)) := ((Below.refl _ _).alloc (Nat.le_refl _) _).alloc (by omega) _
  have hs2 : ((w.alloc (.cells #[.slice (some ⟨zb, zo, none⟩) 10 cap, .int .i64 0, .int .i64 16] 75)).alloc (.cells #[.pointer (some ⟨db, 0, none⟩), .bool false, .int .i64 side, .pointer none, .pointer none, .pointer none, .pointer none, .pointer none, .pointer (some ⟨gb, 0, none⟩), .pointer none, .pointer none, .pointer none, .pointer none] 60)).heap.size = w.heap.size + 1 + 1 := by rw [World.size_alloc, s1]
  have p0 : ((w.alloc (.cells #[.slice (some ⟨zb, zo, none⟩) 10 cap, .int .i64 0, .int .i64 16] 75)).alloc (.cells #[.pointer (some ⟨db, 0, none⟩), .bool false, .int .i64 side, .pointer none, .pointer none, .pointer none, .pointer none, .pointer none, .pointer (some ⟨gb, 0, none⟩), .pointer none, .pointer none, .pointer none, .pointer none] 60)).cell? ⟨w.heap.size, 0, none⟩ = some (.slice (some ⟨zb, zo, none⟩) 10 cap) := alc (World.cell?_alloc_at _ _ _ _ rfl)
  have p1 : ((w.alloc (.cells #[.slice (some ⟨zb, zo, none⟩) 10 cap, .int .i64 0, .int .i64 16] 75)).alloc (.cells #[.pointer (some ⟨db, 0, none⟩), .bool false, .int .i64 side, .pointer none, .pointer none, .pointer none, .pointer none, .pointer none, .pointer (some ⟨gb, 0, none⟩), .pointer none, .pointer none, .pointer none, .pointer none] 60)).cell? ⟨w.heap.size, 1, none⟩ = some (.int .i64 0) := alc (World.cell?_alloc_at _ _ _ _ rfl)
  have p2 : ((w.alloc (.cells #[.slice (some ⟨zb, zo, none⟩) 10 cap, .int .i64 0, .int .i64 16] 75)).alloc (.cells #[.pointer (some ⟨db, 0, none⟩), .bool false, .int .i64 side, .pointer none, .pointer none, .pointer none, .pointer none, .pointer none, .pointer (some ⟨gb, 0, none⟩), .pointer none, .pointer none, .pointer none, .pointer none] 60)).cell? ⟨w.heap.size, 2, none⟩ = some (.int .i64 16) := alc (World.cell?_alloc_at _ _ _ _ rfl)
  have hnx : ((w.alloc (.cells #[.slice (some ⟨zb, zo, none⟩) 10 cap, .int .i64 0, .int .i64 16] 75)).alloc (.cells #[.pointer (some ⟨db, 0, none⟩), .bool false, .int .i64 side, .pointer none, .pointer none, .pointer none, .pointer none, .pointer none, .pointer (some ⟨gb, 0, none⟩), .pointer none, .pointer none, .pointer none, .pointer none] 60)).heap[w.heap.size + 1]? = some (.cells #[.pointer (some ⟨db, 0, none⟩), .bool false, .int .i64 side, .pointer none, .pointer none, .pointer none, .pointer none, .pointer none, .pointer (some ⟨gb, 0, none⟩), .pointer none, .pointer none, .pointer none, .pointer none] 60 (0, 0)) := by rw [← s1]; exact heap_alloc_new _ _
  go_enter Tryz.func26, Tryz.ntmps26
  go_upto_region 1 with fail
  generalize ((w.alloc (.cells #[.slice (some ⟨zb, zo, none⟩) 10 cap, .int .i64 0, .int .i64 16] 75)).alloc (.cells #[.pointer (some ⟨db, 0, none⟩), .bool false, .int .i64 side, .pointer none, .pointer none, .pointer none, .pointer none, .pointer none, .pointer (some ⟨gb, 0, none⟩), .pointer none, .pointer none, .pointer none, .pointer none] 60)) = w2 at hB hs2 p0 p1 p2 hnx ⊢
  obtain ⟨pb, hpb⟩ : ∃ pb, w.heap.size = pb := ⟨_, rfl⟩
  have HK2 : Hid (HK w2 hb db rb cp 300 side m (.pointer none)) := h.below hB
  have HB : Hid (Below w.heap.size w w2) := hB
  have HPB : Hid (w.heap.size = pb) := hpb
  have HA2 : Hid (Ints w2 aa LA) := hA.below hB
  have HG : Hid (w2.cell? ⟨gb, 0, none⟩ = some (.slice (some ⟨zb, zo, none⟩) 10 cap) ∧ w2.cell? ⟨gb, 1, none⟩ = some (.int .i64 0) ∧ w2.cell? ⟨gb, 2, none⟩ = some (.int .i64 16)) := ⟨blwV hB g0, blwV hB g1, blwV hB g2⟩
  have HZ : Hid (∀ i : Nat, i < 10 → w2.cell? ⟨zb, zo + i, none⟩ = some (.int .i64 (200 + (i : Int)))) := fun i hi => blwV hB (hz i hi)
  rw [hpb] at hs2 p0 p1 p2 hnx hlt hzl hgl ⊢
  have HNX : Hid (w2.heap[pb + 1]? = some (.cells #[.pointer (some ⟨db, 0, none⟩), .bool false, .int .i64 side, .pointer none, .pointer none, .pointer none, .pointer none, .pointer none, .pointer (some ⟨gb, 0, none⟩), .pointer none, .pointer none, .pointer none, .pointer none] 60 (0, 0))) := hnx
  have HP : Hid (w2.cell? ⟨pb, 0, none⟩ = some (.slice (some ⟨zb, zo, none⟩) 10 cap) ∧ w2.cell? ⟨pb, 1, none⟩ = some (.int .i64 0) ∧ w2.cell? ⟨pb, 2, none⟩ = some (.int .i64 16)) := ⟨p0, p1, p2⟩
  clear h hB hA hz g0 g1 g2 s1 hnx hpb p1 p2
  have hB3 : Below w2.heap.size w2 (w2.alloc (.cells #[] 3)) := (Below.refl _ _).alloc (Nat.le_refl _) _
  have hb3 : pb + 1 + 1 ≤ (w2.alloc (.cells #[] 3)).heap.size := by rw [World.size_alloc, hs2]; omega
  have r0 : NR (pb + 1 + 1) (w2.alloc (.cells #[] 3)) (.slice (some ⟨pb + 1 + 1, 0, none⟩) 0 0) [] := ⟨rfl, .inr ⟨pb + 1 + 1, 0, #[], rfl, Nat.le_refl _, by rw [← hs2]; exact heap_alloc_new _ _, Nat.le_refl _, by unfold maxLen; omega, rfl, rfl⟩⟩
  have C1 : Hid (Calls Tryz.prog 49 #[.slice (some ⟨pb + 1 + 1, 0, none⟩) 0 0, .slice (some ⟨zb, zo, none⟩) 10 cap] (w2.alloc (.cells #[] 3)) fun e w' => ∃ v', e = .returned v' ∧ NR (pb + 1 + 1) w' v' ([] ++ ((10 : Nat) : Int) :: upL 10) ∧ Below (pb + 1 + 1) (w2.alloc (.cells #[] 3)) w') := hwith2 r0 ((ints_upL HZ.out).below hB3) (fun p e _ q => by cases e; simp [Value.ownBlock] at q; omega) (by simp) (by rw [upL_len]; omega) hb3 (fun e => by cases e) (upL_len 10)
  have HB3 : Hid (Below w2.heap.size w2 (w2.alloc (.cells #[] 3))) := hB3
  clear r0 hB3
  go_wp2_with fail
  refine Calls.mono C1.out ?_
  rintro e w4 ⟨v4, rfl, r4, q4⟩
  have Q4 : Hid (Below (pb + 1 + 1) w2 w4) := (HB3.out.mono (by omega)).trans q4
  have hown4 : w4.ownsRow (pb + 1 + 1) 3 1 v4 11 (inL (((10 : Nat) : Int) :: upL 10)) := r4
  have hA4 : Ints w4 aa LA := HA2.out.below (by rw [hs2]; exact Q4.out)
  have hsrc : (aa = none ∧ 14 = 0) ∨ ∃ ad, aa = some ad ∧ ∀ j u, (inL LA)[j]? = some u → w4.cell? (ad.add j) = some u := by
    rcases ints_src hA4 with ⟨_, q⟩ | q | q
    · omega
    · rw [q] at hAL; simp at hAL
    · exact .inr q
  have hlen : (inL LA).length = 14 * 1 := by rw [inL_len, hAL]
  have hb4 := Nat.le_trans hb3 q4.size
  clear C1 r4 q4 hA4 p0
  go_wp2_with (at_builtin; refine wpList_append_src w4 rfl (.tmp 19) (.tmp 20) 80 rfl (pb + 1 + 1) 3 i0 (.int .i64 0) 1 8 Tryz.underlying80 hi0 hz0 hz1 hz2 rfl (by decide) v4 11 (inL (((10 : Nat) : Int) :: upL 10)) rfl hown4 aa 14 ca (inL LA) rfl hlen hsrc (inL_one _) (by unfold maxLen; omega) (by omega) hb4 ?_)
  intro v5 w5 hown5 hgr5 ho5
  have hr5 : NR (pb + 1 + 1) w5 v5 ((((10 : Nat) : Int) :: upL 10) ++ LA) := by
    show World.ownsRow ..
    rw [inL_append, show ((((10 : Nat) : Int) :: upL 10) ++ LA).length = 11 + 14 by rw [List.length_append, List.length_cons, upL_len, hAL]]
    exact hown5
  have Q5 : Hid (Below (pb + 1 + 1) w2 w5) := Q4.out.grown hgr5 hb4 (fun g e => ((World.ownsRow.lt hown4) g e).1)
  obtain ⟨a5, c5, rfl, i5⟩ := nr_ints hr5
  have hl25 : ((((10 : Nat) : Int) :: upL 10) ++ LA).length = 25 := by rw [List.length_append, List.length_cons, upL_len, hAL]
  have C2 := htext_any (cap := c5) i5 (by omega) (by omega)
  rw [hl25] at C2
  rw [hl25]
  clear hown4 hown5 hgr5 ho5 hr5 i5 hsrc hlen hl25
  go_wp2_with fail
  refine Calls.mono C2 ?_
  rintro e w6 ⟨⟨t, rfl, ht⟩, q6⟩
  have Q6 : Hid (Below (pb + 1 + 1) w2 w6) := Q5.out.trans (q6.mono (by have := Q5.out.size; omega))
  have K6 : HK w6 hb db rb cp 300 side m (.pointer none) := HK2.out.below (by rw [hs2]; exact Q6.out)
  have C3 := hwrite_any K6 6272 t (by omega) (by omega) (by omega)
  rw [ht] at C3
  clear C2 q6 K6
  go_wp2_with fail
  refine Calls.mono C3 ?_
  rintro e w7 ⟨rfl, m7, K7⟩
  have M7 : Mv (fun b => b = db ∨ b = rb) w2 w7 := (Mv.of (by rw [hs2]; exact Q6.out)).trans m7
  have p0 : w7.cell? ⟨pb, 0, none⟩ = some (.slice (some ⟨zb, zo, none⟩) 10 cap) := (M7.cell (p := ⟨pb, 0, none⟩) (by show pb < w2.heap.size; omega) (by show ¬ (pb = db ∨ pb = rb); omega)).trans HP.out.1
  have p1 : w7.cell? ⟨pb, 1, none⟩ = some (.int .i64 0) := (M7.cell (p := ⟨pb, 1, none⟩) (by show pb < w2.heap.size; omega) (by show ¬ (pb = db ∨ pb = rb); omega)).trans HP.out.2.1
  have p2 : w7.cell? ⟨pb, 2, none⟩ = some (.int .i64 16) := (M7.cell (p := ⟨pb, 2, none⟩) (by show pb < w2.heap.size; omega) (by show ¬ (pb = db ∨ pb = rb); omega)).trans HP.out.2.2
  have C4 := hlay_any (zb := zb) (zo := zo) (cap := cap) (s := s) K7 (fun i hi => (M7.cell (p := ⟨zb, zo + i, none⟩) (by show zb < w2.heap.size; omega) (by show ¬ (zb = db ∨ zb = rb); omega)).trans (HZ.out i hi)) hne hcap (by omega) hs
  have HM7 : Hid (Mv (fun b => b = db ∨ b = rb) w2 w7) := M7
  clear C3 m7 K7 M7
  go_wp2_with fail
  refine Calls.mono C4 ?_
  rintro e w8 ⟨rfl, K8, m8⟩
  have M8 : Mv (fun b => b = db ∨ b = rb) w2 w8 := HM7.out.trans m8
  have hn8 : w8.heap[pb + 1]? = some (.cells #[.pointer (some ⟨db, 0, none⟩), .bool false, .int .i64 side, .pointer none, .pointer none, .pointer none, .pointer none, .pointer none, .pointer (some ⟨gb, 0, none⟩), .pointer none, .pointer none, .pointer none, .pointer none] 60 (0, 0)) := (M8.block (pb + 1) (by omega) (by omega)).trans HNX.out
  obtain ⟨x0, x1, x2, x3, x4, x5, x6, x7, x8, x9, x10, x11, x12⟩ := ho_cells (g := .pointer (some ⟨gb, 0, none⟩)) hn8
  have hg8 : w8.cell? ⟨gb, 0, none⟩ = some (.slice (some ⟨zb, zo, none⟩) 10 cap) ∧ w8.cell? ⟨gb, 1, none⟩ = some (.int .i64 0) ∧ w8.cell? ⟨gb, 2, none⟩ = some (.int .i64 16) := ⟨(M8.cell (p := ⟨gb, 0, none⟩) (by show gb < w2.heap.size; omega) (by show ¬ (gb = db ∨ gb = rb); omega)).trans HG.out.1, (M8.cell (p := ⟨gb, 1, none⟩) (by show gb < w2.heap.size; omega) (by show ¬ (gb = db ∨ gb = rb); omega)).trans HG.out.2.1, (M8.cell (p := ⟨gb, 2, none⟩) (by show gb < w2.heap.size; omega) (by show ¬ (gb = db ∨ gb = rb); omega)).trans HG.out.2.2⟩
  have hgl8 : gb < w8.heap.size := World.block_lt_of_cell? w8 ⟨gb, 0, none⟩ hg8.1
  have C5 := become_any K8 (some ⟨gb, 0, none⟩) (by omega) (by omega) (fun W sd hM hW => head2_any ((hM.cell (p := ⟨gb, 0, none⟩) hgl8 id).trans hg8.1) ((hM.cell (p := ⟨gb, 1, none⟩) hgl8 id).trans hg8.2.1) ((hM.cell (p := ⟨gb, 2, none⟩) hgl8 id).trans hg8.2.2) hW)
  have HM8 : Hid (Mv (fun b => b = db ∨ b = rb) w2 w8) := M8
  clear C4 m8 K8 M8 hn8 hg8 hgl8 p0 p1 p2
  go_wp2_with fail
  refine Calls.mono C5 ?_
  rintro e w9 ⟨rfl, K9, m9⟩
  have HK9 : Hid (HK w9 hb db rb cp 300 (1 - side) (m + 75 + 16 + 68) (.pointer (some ⟨gb, 0, none⟩))) := K9
  have HM9 : Hid (Mv (fun b => b = hb ∨ b = db ∨ b = rb) w w9) := ((Mv.of HB.out).trans (HM8.out.mono (fun k e => .inr e))).trans m9
  clear C5 x0 x1 x2 x3 x4 x5 x6 x7 x8 x9 x10 x11 x12 K9 m9
  go_wp2
  go_ret
  exact ⟨rfl, HK9.out, HM9.out⟩
end Go.Proofs.YtkjknbjjchdjlaaGreatDoor
