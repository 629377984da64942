/-
  WHERE AN ID LEADS: the walks of ToHost and FromHost.
-/
import Derived.Test.YtoadlnojcbkdgaaIb
namespace Go.Proofs.Ytoadlnojcbkdgaa
open Go.RowKit

set_option maxHeartbeats 400000 in
theorem sidesTo (r : Rg) (w : World) : Calls Try.prog 38 #[.agg #[.int .i64 r.i, .int .i64 r.o, .int .i64 r.n]] w fun e w' => e = .returned (.tuple #[.int .i64 r.i, .int .i64 r.o]) ∧ Below w.heap.size w w' := by
  go_enter Try.func38, Try.ntmps38
  go_wp2
  go_quiet (fail)
  go_wp2
  go_ret2
  exact ⟨rfl, below_drewN ((Below.refl _ _).alloc (Nat.le_refl _) _) _⟩
set_option maxHeartbeats 400000 in
theorem sidesFrom (r : Rg) (w : World) : Calls Try.prog 39 #[.agg #[.int .i64 r.i, .int .i64 r.o, .int .i64 r.n]] w fun e w' => e = .returned (.tuple #[.int .i64 r.o, .int .i64 r.i]) ∧ Below w.heap.size w w' := by
  go_enter Try.func39, Try.ntmps39
  go_wp2
  go_quiet (fail)
  go_wp2
  go_ret2
  exact ⟨rfl, below_drewN ((Below.refl _ _).alloc (Nat.le_refl _) _) _⟩

/-- Where an id leads, by ranges. -/
def walkM (fr tg : Rg → Int) : List Rg → Int → Option Int
  | [], _ => none
  | r :: l, x => if fr r ≤ x ∧ x - fr r < r.n then some (tg r + x - fr r) else walkM fr tg l x
theorem walkM_hit {fr tg : Rg → Int} {r : Rg} {l : List Rg} {x : Int} (h1 : fr r ≤ x) (h2 : x - fr r < r.n) : walkM fr tg (r :: l) x = some (tg r + x - fr r) := by
  unfold walkM; rw [if_pos ⟨h1, h2⟩]
theorem walkM_miss {fr tg : Rg → Int} {r : Rg} {l : List Rg} {x : Int} (h : ¬ (fr r ≤ x ∧ x - fr r < r.n)) : walkM fr tg (r :: l) x = walkM fr tg l x := by
  rw [walkM, if_neg h]
/-- What an id is outside; within. -/
def toM (rs : List Rg) (x : Int) : Option Int := if mapF rs = 0 then walkM (·.i) (·.o) rs x else none
def fromM (rs : List Rg) (x : Int) : Option Int := if mapF rs = 0 then walkM (·.o) (·.i) rs x else none
def optV (o : Option Int) : Value := .tuple #[.int .i64 (o.getD 0), .bool o.isSome]

theorem ret_some {o : Option Int} {v : Int} (h : o = some v) : Ending.returned (.tuple #[.int .i64 v, .bool true]) = .returned (optV o) := by subst h; rfl
theorem ret_none {o : Option Int} (h : o = none) : Ending.returned (.tuple #[.int .i64 0, .bool false]) = .returned (optV o) := by subst h; rfl
theorem ret_opt {o o' : Option Int} (h : o = o') : Ending.returned (.tuple #[.int .i64 (o.getD 0), .bool o.isSome]) = .returned (optV o') := by subst h; rfl
theorem mF_all {rs : List Rg} : ∀ n k, mF rs k n = 0 → ∀ j, k ≤ j → j < k + n → stepM rs j = 0
  | 0, k, _, j, h1, h2 => by omega
  | n + 1, k, h, j, h1, h2 => by
    by_cases e : stepM rs k = 0
    · rw [mF_ok e] at h
      by_cases ej : j = k
      · subst ej; exact e
      · exact mF_all n (k + 1) h j (by omega) (by omega)
    · rw [mF_bad e] at h; exact absurd h e
theorem mapF_zero {rs : List Rg} (h : mapF rs = 0) : rs.length ≤ 4 ∧ ∀ j, j < rs.length → stepM rs j = 0 := by
  unfold mapF at h
  by_cases hl : 4 < rs.length
  · rw [if_pos hl] at h; omega
  · rw [if_neg hl] at h
    exact ⟨by omega, fun j hj => mF_all _ _ h j (Nat.zero_le _) (by omega)⟩
theorem mapF_bd {rs : List Rg} (h : mapF rs = 0) : ∀ r ∈ rs, r.bd := by
  intro r hr
  obtain ⟨k, hk⟩ := List.getElem?_of_mem hr
  have hl := (List.getElem?_eq_some_iff.1 hk).1
  exact bd_of (bnd_of_step hk ((mapF_zero h).2 k hl))

set_option maxRecDepth 100000 in
set_option maxHeartbeats 1000000 in
theorem acrossTo (a : Option Addr) (cap : Nat) (rs : List Rg) (x : Int) (w : World) (hl : rs.length ≤ 100) (hcap : rs.length ≤ cap) (hok : ∀ r ∈ rs, r.ok) (hx : I64 x) (h : Rgs w a rs) (o : Option Int) (HO : Hid ((if mapF rs = 0 then walkM (·.i) (·.o) rs x else none) = o)) :
    Calls Try.prog 37 #[.slice a rs.length cap, .int .i64 x, .func (.func 38) #[] #[]] w fun e w' => e = .returned (optV o) ∧ Below w.heap.size w w' := by
  obtain ⟨xa, xb⟩ := hx
  by_cases hf : mapF rs = 0
  · have HV : Hid (o = walkM (·.i) (·.o) rs x) := HO.out.symm.trans (if_pos hf)
    have HF : Hid (mapF rs = 0) := hf
    clear hf HO
    go_enter Try.func37, Try.ntmps37
    go_wp2_with fail
    refine (checkM_any a cap rs _ hl hcap hok h).mono ?_
    rintro e w1 ⟨rfl, hB1⟩
    rw [errV_nil HF.out]
    go_wp2_with fail
    go_loopw [17] (fun i wr => ∃ k : Nat, k ≤ rs.length ∧ i = .int .i64 k ∧ Hid (walkM (·.i) (·.o) rs x = walkM (·.i) (·.o) (rs.drop k) x) ∧ Below w.heap.size w wr) (fun i _ => rs.length - (intOf i).toNat)
    case atStart => exact ⟨0, Nat.zero_le _, rfl, rfl, hB1⟩
    case round =>
      obtain ⟨k, hk, rfl, HR, hB⟩ := hrel
      clear hB1
      by_cases hlt : k < rs.length
      · rcases h with rfl | ⟨b, off, rfl, hc⟩
        · simp at hlt
        · obtain ⟨r, hr⟩ : ∃ r, rs[k]? = some r := ⟨rs[k], by simp [hlt]⟩
          obtain ⟨hc0, hc1, hc2⟩ := hc k r hr
          have hbl : b < w.heap.size := World.block_lt_of_cell? _ _ hc0
          have hblr : b < wr.heap.size := Nat.lt_of_lt_of_le hbl hB.size
          obtain ⟨t1, t2, t3, t4, t5, t6, t7, t8⟩ := mapF_bd HF.out r (List.mem_of_getElem? hr)
          have HD : Hid (rs.drop k = r :: rs.drop (k + 1)) := by
            obtain ⟨hk', rfl⟩ := List.getElem?_eq_some_iff.1 hr
            exact List.drop_eq_getElem_cons hk'
          have hki : (k : Int) < (rs.length : Int) := by omega
          obtain ⟨ri, ro, rn⟩ := r
          dsimp only at *
          have q0 : wr.cell? ⟨b, off + k * 3, none⟩ = some (.int .i64 ri) := (hB.cell (p := ⟨b, off + k * 3, none⟩) hbl).trans hc0
          have q1 : wr.cell? ⟨b, off + k * 3 + 1, none⟩ = some (.int .i64 ro) := (hB.cell (p := ⟨b, off + k * 3 + 1, none⟩) hbl).trans hc1
          have q2 : wr.cell? ⟨b, off + k * 3 + 2, none⟩ = some (.int .i64 rn) := (hB.cell (p := ⟨b, off + k * 3 + 2, none⟩) hbl).trans hc2
          clear hc0 hc1 hc2 hr hc
          go_wp2_with fail
          refine (sidesTo ⟨ri, ro, rn⟩ _).mono ?_
          rintro e w2 ⟨rfl, hB2⟩
          have RB := (RBox.new wr ri ro rn).below hB2
          have hB3 := (hB.alloc hB.size (.cells #[.int .i64 ri, .int .i64 ro, .int .i64 rn] 53)).trans (hB2.mono (by have := hB.size; simp; omega))
          clear q0 q1 q2 hB2
          obtain ⟨y0, y1, y2, y3⟩ := id RB
          dsimp only at y0 y1 y2
          by_cases g1 : ri ≤ x
          · by_cases g2 : x - ri < rn
            · have HN : Hid (walkM (·.i) (·.o) rs x = some (ro + x - ri)) := HR.out.trans (by rw [HD.out]; exact walkM_hit g1 g2)
              go_wp2
              go_ret2
              exact ⟨ret_some (HV.out.trans HN.out), hB3⟩
            · have HN : Hid (walkM (·.i) (·.o) rs x = walkM (·.i) (·.o) (rs.drop (k + 1)) x) := HR.out.trans (by rw [HD.out]; exact walkM_miss (fun e => g2 e.2))
              have d2 : decide (x - ri < rn) = false := by simpa using g2
              go_wp2
              go_roundw
              case rel => exact ⟨k + 1, by omega, by go_num, HN.out, hB3⟩
              case measure => simp [intOf]; omega
          · have HN : Hid (walkM (·.i) (·.o) rs x = walkM (·.i) (·.o) (rs.drop (k + 1)) x) := HR.out.trans (by rw [HD.out]; exact walkM_miss (fun e => g1 e.1))
            have d1 : decide (ri ≤ x) = false := by simpa using g1
            go_wp2
            go_roundw
            case rel => exact ⟨k + 1, by omega, by go_num, HN.out, hB3⟩
            case measure => simp [intOf]; omega
      · have HN : Hid (walkM (·.i) (·.o) rs x = none) := HR.out.trans (by rw [List.drop_of_length_le (by omega)]; rfl)
        go_wp2
        go_ret2
        exact ⟨ret_none (HV.out.trans HN.out), hB⟩
  · have HV : Hid (o = none) := HO.out.symm.trans (if_neg hf)
    obtain ⟨n, hn⟩ : ∃ n, mapF rs = n := ⟨_, rfl⟩
    have HN : Hid (mapF rs = n) := hn
    have hn0 : n ≠ 0 := hn ▸ hf
    clear hn hf HO
    go_enter Try.func37, Try.ntmps37
    go_wp2_with fail
    refine (checkM_any a cap rs _ hl hcap hok h).mono ?_
    rintro e w1 ⟨rfl, hB1⟩
    rw [errV_of HN.out hn0]
    go_wp2
    go_ret2
    exact ⟨ret_none HV.out, hB1⟩

set_option maxHeartbeats 400000 in
theorem toHost_any (a : Option Addr) (cap : Nat) (rs : List Rg) (x : Int) (w : World) (hl : rs.length ≤ 100) (hcap : rs.length ≤ cap) (hok : ∀ r ∈ rs, r.ok) (hx : I64 x) (h : Rgs w a rs) :
    Calls Try.prog 10 #[.slice a rs.length cap, .int .i64 x] w fun e w' => e = .returned (optV (toM rs x)) ∧ Below w.heap.size w w' := by
  obtain ⟨o, HO⟩ : ∃ o, Hid (toM rs x = o) := ⟨_, rfl⟩
  go_enter Try.func10, Try.ntmps10
  go_wp2_with fail
  refine (acrossTo a cap rs x _ hl hcap hok hx h o HO).mono ?_
  rintro e w1 ⟨rfl, hB1⟩
  unfold optV
  go_wp2
  go_ret2
  exact ⟨ret_opt HO.out.symm, hB1⟩

set_option maxRecDepth 100000 in
set_option maxHeartbeats 1000000 in
theorem acrossFrom (a : Option Addr) (cap : Nat) (rs : List Rg) (x : Int) (w : World) (hl : rs.length ≤ 100) (hcap : rs.length ≤ cap) (hok : ∀ r ∈ rs, r.ok) (hx : I64 x) (h : Rgs w a rs) (o : Option Int) (HO : Hid ((if mapF rs = 0 then walkM (·.o) (·.i) rs x else none) = o)) :
    Calls Try.prog 37 #[.slice a rs.length cap, .int .i64 x, .func (.func 39) #[] #[]] w fun e w' => e = .returned (optV o) ∧ Below w.heap.size w w' := by
  obtain ⟨xa, xb⟩ := hx
  by_cases hf : mapF rs = 0
  · have HV : Hid (o = walkM (·.o) (·.i) rs x) := HO.out.symm.trans (if_pos hf)
    have HF : Hid (mapF rs = 0) := hf
    clear hf HO
    go_enter Try.func37, Try.ntmps37
    go_wp2_with fail
    refine (checkM_any a cap rs _ hl hcap hok h).mono ?_
    rintro e w1 ⟨rfl, hB1⟩
    rw [errV_nil HF.out]
    go_wp2_with fail
    go_loopw [17] (fun i wr => ∃ k : Nat, k ≤ rs.length ∧ i = .int .i64 k ∧ Hid (walkM (·.o) (·.i) rs x = walkM (·.o) (·.i) (rs.drop k) x) ∧ Below w.heap.size w wr) (fun i _ => rs.length - (intOf i).toNat)
    case atStart => exact ⟨0, Nat.zero_le _, rfl, rfl, hB1⟩
    case round =>
      obtain ⟨k, hk, rfl, HR, hB⟩ := hrel
      clear hB1
      by_cases hlt : k < rs.length
      · rcases h with rfl | ⟨b, off, rfl, hc⟩
        · simp at hlt
        · obtain ⟨r, hr⟩ : ∃ r, rs[k]? = some r := ⟨rs[k], by simp [hlt]⟩
          obtain ⟨hc0, hc1, hc2⟩ := hc k r hr
          have hbl : b < w.heap.size := World.block_lt_of_cell? _ _ hc0
          have hblr : b < wr.heap.size := Nat.lt_of_lt_of_le hbl hB.size
          obtain ⟨t1, t2, t3, t4, t5, t6, t7, t8⟩ := mapF_bd HF.out r (List.mem_of_getElem? hr)
          have HD : Hid (rs.drop k = r :: rs.drop (k + 1)) := by
            obtain ⟨hk', rfl⟩ := List.getElem?_eq_some_iff.1 hr
            exact List.drop_eq_getElem_cons hk'
          have hki : (k : Int) < (rs.length : Int) := by omega
          obtain ⟨ri, ro, rn⟩ := r
          dsimp only at *
          have q0 : wr.cell? ⟨b, off + k * 3, none⟩ = some (.int .i64 ri) := (hB.cell (p := ⟨b, off + k * 3, none⟩) hbl).trans hc0
          have q1 : wr.cell? ⟨b, off + k * 3 + 1, none⟩ = some (.int .i64 ro) := (hB.cell (p := ⟨b, off + k * 3 + 1, none⟩) hbl).trans hc1
          have q2 : wr.cell? ⟨b, off + k * 3 + 2, none⟩ = some (.int .i64 rn) := (hB.cell (p := ⟨b, off + k * 3 + 2, none⟩) hbl).trans hc2
          clear hc0 hc1 hc2 hr hc
          go_wp2_with fail
          refine (sidesFrom ⟨ri, ro, rn⟩ _).mono ?_
          rintro e w2 ⟨rfl, hB2⟩
          have RB := (RBox.new wr ri ro rn).below hB2
          have hB3 := (hB.alloc hB.size (.cells #[.int .i64 ri, .int .i64 ro, .int .i64 rn] 53)).trans (hB2.mono (by have := hB.size; simp; omega))
          clear q0 q1 q2 hB2
          obtain ⟨y0, y1, y2, y3⟩ := id RB
          dsimp only at y0 y1 y2
          by_cases g1 : ro ≤ x
          · by_cases g2 : x - ro < rn
            · have HN : Hid (walkM (·.o) (·.i) rs x = some (ri + x - ro)) := HR.out.trans (by rw [HD.out]; exact walkM_hit g1 g2)
              go_wp2
              go_ret2
              exact ⟨ret_some (HV.out.trans HN.out), hB3⟩
            · have HN : Hid (walkM (·.o) (·.i) rs x = walkM (·.o) (·.i) (rs.drop (k + 1)) x) := HR.out.trans (by rw [HD.out]; exact walkM_miss (fun e => g2 e.2))
              have d2 : decide (x - ro < rn) = false := by simpa using g2
              go_wp2
              go_roundw
              case rel => exact ⟨k + 1, by omega, by go_num, HN.out, hB3⟩
              case measure => simp [intOf]; omega
          · have HN : Hid (walkM (·.o) (·.i) rs x = walkM (·.o) (·.i) (rs.drop (k + 1)) x) := HR.out.trans (by rw [HD.out]; exact walkM_miss (fun e => g1 e.1))
            have d1 : decide (ro ≤ x) = false := by simpa using g1
            go_wp2
            go_roundw
            case rel => exact ⟨k + 1, by omega, by go_num, HN.out, hB3⟩
            case measure => simp [intOf]; omega
      · have HN : Hid (walkM (·.o) (·.i) rs x = none) := HR.out.trans (by rw [List.drop_of_length_le (by omega)]; rfl)
        go_wp2
        go_ret2
        exact ⟨ret_none (HV.out.trans HN.out), hB⟩
  · have HV : Hid (o = none) := HO.out.symm.trans (if_neg hf)
    obtain ⟨n, hn⟩ : ∃ n, mapF rs = n := ⟨_, rfl⟩
    have HN : Hid (mapF rs = n) := hn
    have hn0 : n ≠ 0 := hn ▸ hf
    clear hn hf HO
    go_enter Try.func37, Try.ntmps37
    go_wp2_with fail
    refine (checkM_any a cap rs _ hl hcap hok h).mono ?_
    rintro e w1 ⟨rfl, hB1⟩
    rw [errV_of HN.out hn0]
    go_wp2
    go_ret2
    exact ⟨ret_none HV.out, hB1⟩

set_option maxHeartbeats 400000 in
theorem fromHost_any (a : Option Addr) (cap : Nat) (rs : List Rg) (x : Int) (w : World) (hl : rs.length ≤ 100) (hcap : rs.length ≤ cap) (hok : ∀ r ∈ rs, r.ok) (hx : I64 x) (h : Rgs w a rs) :
    Calls Try.prog 11 #[.slice a rs.length cap, .int .i64 x] w fun e w' => e = .returned (optV (fromM rs x)) ∧ Below w.heap.size w w' := by
  obtain ⟨o, HO⟩ : ∃ o, Hid (fromM rs x = o) := ⟨_, rfl⟩
  go_enter Try.func11, Try.ntmps11
  go_wp2_with fail
  refine (acrossFrom a cap rs x _ hl hcap hok hx h o HO).mono ?_
  rintro e w1 ⟨rfl, hB1⟩
  unfold optV
  go_wp2
  go_ret2
  exact ⟨ret_opt HO.out.symm, hB1⟩

end Go.Proofs.Ytoadlnojcbkdgaa
