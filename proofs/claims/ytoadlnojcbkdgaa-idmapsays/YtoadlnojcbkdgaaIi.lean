/-
  WHAT Then DOES: the walk.
-/
import Derived.Test.YtoadlnojcbkdgaaIh
namespace Go.Proofs.Ytoadlnojcbkdgaa
open Go.RowKit

def putC (r : Rg) (l : List Rg) (s : Rg) : List Rg := if 0 < (chainR r s).n then insR l (chainR r s) else l
def rowT (r : Rg) (bs : List Rg) (out : List Rg) : List Rg := bs.foldl (putC r) out
def pairsL (xs bs : List Rg) : List Rg := xs.foldl (fun l r => rowT r bs l) []
def thenL (xs bs : List Rg) : List Rg := joinL (pairsL xs bs)
theorem rowT_snoc (r s : Rg) (bs out : List Rg) : rowT r (bs ++ [s]) out = putC r (rowT r bs out) s := by simp [rowT]
theorem pairsL_snoc (xs bs : List Rg) (r : Rg) : pairsL (xs ++ [r]) bs = rowT r bs (pairsL xs bs) := by simp [pairsL]
theorem putC_length (r s : Rg) (l : List Rg) : (putC r l s).length ≤ l.length + 1 := by
  unfold putC; split
  · rw [insR_length]; omega
  · omega
theorem rowT_length (r : Rg) (bs : List Rg) : ∀ out, (rowT r bs out).length ≤ out.length + bs.length := by
  induction bs with
  | nil => intro out; simp [rowT]
  | cons s l ih => intro out; have := ih (putC r out s); have := putC_length r s out; simp [rowT] at *; omega
theorem pairsL_length (bs : List Rg) (hb : bs.length ≤ 4) : ∀ xs : List Rg, (pairsL xs bs).length ≤ xs.length * 4 := by
  have key : ∀ (M out : List Rg), (M.foldl (fun l r => rowT r bs l) out).length ≤ out.length + M.length * 4 := by
    intro M
    induction M with
    | nil => intro out; simp
    | cons r l ih => intro out; have := ih (rowT r bs out); have := rowT_length r bs out; simp at *; omega
  intro xs
  simpa [pairsL] using key xs []
theorem chain_bd {p r : Rg} (hp : p.bd) (hr : r.bd) (h : 0 < (chainR p r).n) : (chainR p r).bd := by
  unfold Rg.bd chainR at *
  dsimp only at *
  omega
theorem putC_bd {r s : Rg} {l : List Rg} (hr : r.bd) (hs : s.bd) (hl : ∀ p ∈ l, p.bd) : ∀ p ∈ putC r l s, p.bd := by
  intro p hp
  unfold putC at hp
  split at hp
  · rename_i h
    rcases insR_mem.1 hp with rfl | hp
    · exact chain_bd hr hs h
    · exact hl p hp
  · exact hl p hp
theorem rowT_bd {r : Rg} {bs : List Rg} (hr : r.bd) : (∀ s ∈ bs, s.bd) → ∀ out, (∀ p ∈ out, p.bd) → ∀ p ∈ rowT r bs out, p.bd := by
  induction bs with
  | nil => intro _ out ho; exact ho
  | cons s l ih => intro hb out ho; exact ih (fun q hq => hb q (by simp [hq])) _ (putC_bd hr (hb s (by simp)) ho)
theorem pairsL_bd {xs bs : List Rg} (ha : ∀ r ∈ xs, r.bd) (hb : ∀ s ∈ bs, s.bd) : ∀ p ∈ pairsL xs bs, p.bd := by
  have key : ∀ (M out : List Rg), (∀ r ∈ M, r.bd) → (∀ p ∈ out, p.bd) → ∀ p ∈ M.foldl (fun l r => rowT r bs l) out, p.bd := by
    intro M
    induction M with
    | nil => intro out _ ho; exact ho
    | cons r l ih => intro out hM ho; exact ih _ (fun q hq => hM q (by simp [hq])) (rowT_bd (hM r (by simp)) hb out ho)
  exact key xs [] ha (by simp)

set_option maxRecDepth 100000 in
set_option maxHeartbeats 1000000 in
theorem then_bad1 (a b : Option Addr) (c1 c2 : Nat) (rs ss : List Rg) (w : World) (hl : rs.length ≤ 100) (hcap : rs.length ≤ c1) (hok : ∀ r ∈ rs, r.ok) (h : Rgs w a rs) (n : Int) (HN : Hid (mapF rs = n)) (hn0 : n ≠ 0) :
    Calls Try.prog 18 #[.slice a rs.length c1, .slice b ss.length c2] w fun e w' => e = .returned (errL n) ∧ Below w.heap.size w w' := by
  go_enter Try.func18, Try.ntmps18
  go_wp2_with fail
  refine (checkM_any a c1 rs _ hl hcap hok h).mono ?_
  rintro e w1 ⟨rfl, hB1⟩
  rw [errV_of HN.out hn0]
  go_wp2
  go_ret2
  exact ⟨by simp [errL, errV, hn0], hB1⟩
set_option maxRecDepth 100000 in
set_option maxHeartbeats 1000000 in
theorem then_bad2 (a b : Option Addr) (c1 c2 : Nat) (rs ss : List Rg) (w : World) (hl : rs.length ≤ 100) (hcap : rs.length ≤ c1) (hok : ∀ r ∈ rs, r.ok) (h : Rgs w a rs) (HN0 : Hid (mapF rs = 0))
    (hl2 : ss.length ≤ 100) (hcap2 : ss.length ≤ c2) (hok2 : ∀ r ∈ ss, r.ok) (h2 : Rgs w b ss) (n : Int) (HN : Hid (mapF ss = n)) (hn0 : n ≠ 0) :
    Calls Try.prog 18 #[.slice a rs.length c1, .slice b ss.length c2] w fun e w' => e = .returned (errL n) ∧ Below w.heap.size w w' := by
  go_enter Try.func18, Try.ntmps18
  go_wp2_with fail
  refine (checkM_any a c1 rs _ hl hcap hok h).mono ?_
  rintro e w1 ⟨rfl, hB1⟩
  rw [errV_nil HN0.out]
  go_wp2_with fail
  refine (checkM_any b c2 ss _ hl2 hcap2 hok2 (h2.below hB1)).mono ?_
  rintro e w2 ⟨rfl, hB2⟩
  rw [errV_of HN.out hn0]
  go_wp2
  go_ret2
  exact ⟨by simp [errL, errV, hn0], hB1.trans (hB2.mono hB1.size)⟩

theorem RBox.grown2 {w w' : World} {row : Option Nat} {b : Nat} {r : Rg} (h : RBox w b r) (hg : w.grownBy w' row) (hne : ¬ row = some b) : RBox w' b r := by
  have hl := h.lt
  obtain ⟨h0, h1, h2, h3⟩ := h
  have hn : some b ≠ row := fun e => hne e.symm
  exact ⟨hg.cell h0 hn, hg.cell h1 hn, hg.cell h2 hn, fun o => (hg.frozen_far ⟨b, o, none⟩ hl hn).trans (h3 o)⟩

set_option maxRecDepth 100000 in
set_option maxHeartbeats 2000000 in
theorem then_good (a b : Option Addr) (c1 c2 : Nat) (rs ss : List Rg) (w : World) (hcap : rs.length ≤ c1) (h : Rgs w a rs) (HN0 : Hid (mapF rs = 0)) (hok : ∀ r ∈ rs, r.ok)
    (hcap2 : ss.length ≤ c2) (h2 : Rgs w b ss) (HN : Hid (mapF ss = 0)) (hok2 : ∀ r ∈ ss, r.ok) :
    Calls Try.prog 18 #[.slice a rs.length c1, .slice b ss.length c2] w fun e w' => ((4 < (thenL rs ss).length ∧ e = .returned (errL 2)) ∨ ((thenL rs ss).length ≤ 4 ∧ ∃ v', e = .returned (.tuple #[v', .nilIface]) ∧ w'.ownsRow w.heap.size 53 3 v' (thenL rs ss).length (flat (thenL rs ss)))) ∧ Below w.heap.size w w' := by
  have hl4 : rs.length ≤ 4 := (mapF_zero HN0.out).1
  have hl4' : ss.length ≤ 4 := (mapF_zero HN.out).1
  have hbs : ∀ s ∈ ss, s.bd := mapF_bd HN.out
  have hbr : ∀ r ∈ rs, r.bd := mapF_bd HN0.out
  obtain ⟨T, HT⟩ : ∃ T, Hid (thenL rs ss = T) := ⟨_, rfl⟩
  rw [HT.out]
  go_enter Try.func18, Try.ntmps18
  go_wp2_with fail
  refine (checkM_any a c1 rs _ (by omega) hcap hok h).mono ?_
  rintro e w1 ⟨rfl, hB1⟩
  rw [errV_nil HN0.out]
  go_wp2_with fail
  refine (checkM_any b c2 ss _ (by omega) hcap2 hok2 (h2.below hB1)).mono ?_
  rintro e w2 ⟨rfl, hB2⟩
  rw [errV_nil HN.out]
  have hB3 := hB1.trans (hB2.mono hB1.size)
  clear hB1 hB2
  go_wp2_with fail
  go_loopw [8, 26] (fun v i wr => ∃ k : Nat, k ≤ rs.length ∧ i = .int .i64 k ∧ wr.ownsRow w.heap.size 53 3 v (pairsL (rs.take k) ss).length (flat (pairsL (rs.take k) ss)) ∧ Below w.heap.size w wr) (fun _ i _ => rs.length - (intOf i).toNat)
  case atStart => exact ⟨0, Nat.zero_le _, rfl, World.ownsRow_nil _ _ _ _, hB3⟩
  case round =>
    obtain ⟨k, hk, rfl, hown, hB⟩ := hrel
    clear hB3
    by_cases hlt : k < rs.length
    · rcases h with rfl | ⟨b1, o1, rfl, hc⟩
      · simp at hlt
      · obtain ⟨r, hr⟩ : ∃ r, rs[k]? = some r := ⟨rs[k], by simp [hlt]⟩
        obtain ⟨hc0, hc1, hc2⟩ := hc k r hr
        have hbl : b1 < w.heap.size := World.block_lt_of_cell? _ _ hc0
        have hblr : b1 < wr.heap.size := Nat.lt_of_lt_of_le hbl hB.size
        have hki : (k : Int) < (rs.length : Int) := by omega
        have HJ : Hid (pairsL (rs.take (k + 1)) ss = rowT r ss (pairsL (rs.take k) ss)) := by show _ = _; rw [take_snoc_get hr, pairsL_snoc]
        have hSl : (pairsL (rs.take k) ss).length ≤ 12 := by
          have := pairsL_length ss hl4' (rs.take k)
          simp at this; omega
        have hrb : r.bd := hbr r (List.mem_of_getElem? hr)
        obtain ⟨ri, ro, rn⟩ := r
        dsimp only at hc0 hc1 hc2
        have q0 : wr.cell? ⟨b1, o1 + k * 3, none⟩ = some (.int .i64 ri) := (hB.cell (p := ⟨b1, o1 + k * 3, none⟩) hbl).trans hc0
        have q1 : wr.cell? ⟨b1, o1 + k * 3 + 1, none⟩ = some (.int .i64 ro) := (hB.cell (p := ⟨b1, o1 + k * 3 + 1, none⟩) hbl).trans hc1
        have q2 : wr.cell? ⟨b1, o1 + k * 3 + 2, none⟩ = some (.int .i64 rn) := (hB.cell (p := ⟨b1, o1 + k * 3 + 2, none⟩) hbl).trans hc2
        have hown1 := hown.alloc (.cells #[.int .i64 ri, .int .i64 ro, .int .i64 rn] 53)
        have hB1 := hB.alloc hB.size (.cells #[.int .i64 ri, .int .i64 ro, .int .i64 rn] 53)
        have RB := RBox.new wr ri ro rn
        have hvq := hown.lt
        clear hc0 hc1 hc2 hr hc
        generalize pairsL (rs.take k) ss = J at hown hown1 HJ hSl
        go_wp2_with fail
        clear q0 q1 q2 hown hB hblr
        generalize wr.alloc (.cells #[.int .i64 ri, .int .i64 ro, .int .i64 rn] 53) = w3 at hown1 hB1 RB ⊢
        have hvn := fun q e => Nat.ne_of_lt (hvq q e).2
        clear hvq
        generalize wr.heap.size = rb at RB hvn ⊢
        go_loopw [8, 32] (fun v i wq => ∃ j : Nat, j ≤ ss.length ∧ i = .int .i64 j ∧ wq.ownsRow w.heap.size 53 3 v (rowT ⟨ri, ro, rn⟩ (ss.take j) J).length (flat (rowT ⟨ri, ro, rn⟩ (ss.take j) J)) ∧ Below w.heap.size w wq ∧ RBox wq rb ⟨ri, ro, rn⟩ ∧ Hid (∀ q, v.ownBlock = some q → q ≠ rb)) (fun _ i _ => ss.length - (intOf i).toNat)
        case atStart => exact ⟨0, Nat.zero_le _, rfl, hown1, hB1, RB, hvn⟩
        case round =>
          obtain ⟨j, hj, rfl, hown2, hB2, RB2, HV⟩ := hrel
          clear hown1 hB1 RB hvn
          obtain ⟨x0, x1, x2, x3⟩ := id RB2
          dsimp only at x0 x1 x2
          have lrb := RB2.lt
          by_cases hjl : j < ss.length
          · rcases h2 with rfl | ⟨b2, o2, rfl, hd⟩
            · simp at hjl
            · obtain ⟨t, ht⟩ : ∃ t, ss[j]? = some t := ⟨ss[j], by simp [hjl]⟩
              obtain ⟨hd0, hd1, hd2⟩ := hd j t ht
              have hbl2 : b2 < w.heap.size := World.block_lt_of_cell? _ _ hd0
              have hblr2 : b2 < wr.heap.size := Nat.lt_of_lt_of_le hbl2 hB2.size
              have hji : (j : Int) < (ss.length : Int) := by omega
              have HR : Hid (rowT ⟨ri, ro, rn⟩ (ss.take (j + 1)) J = putC ⟨ri, ro, rn⟩ (rowT ⟨ri, ro, rn⟩ (ss.take j) J) t) := by show _ = _; rw [take_snoc_get ht, rowT_snoc]
              have hRl : (rowT ⟨ri, ro, rn⟩ (ss.take j) J).length ≤ 100 := by
                have := rowT_length ⟨ri, ro, rn⟩ (ss.take j) J
                simp at this; omega
              have htb : t.bd := hbs t (List.mem_of_getElem? ht)
              obtain ⟨ti, tO, tn⟩ := t
              dsimp only at hd0 hd1 hd2
              have p0 : wr.cell? ⟨b2, o2 + j * 3, none⟩ = some (.int .i64 ti) := (hB2.cell (p := ⟨b2, o2 + j * 3, none⟩) hbl2).trans hd0
              have p1 : wr.cell? ⟨b2, o2 + j * 3 + 1, none⟩ = some (.int .i64 tO) := (hB2.cell (p := ⟨b2, o2 + j * 3 + 1, none⟩) hbl2).trans hd1
              have p2 : wr.cell? ⟨b2, o2 + j * 3 + 2, none⟩ = some (.int .i64 tn) := (hB2.cell (p := ⟨b2, o2 + j * 3 + 2, none⟩) hbl2).trans hd2
              have hown3 := hown2.alloc (.cells #[.int .i64 ti, .int .i64 tO, .int .i64 tn] 53)
              have hB3 := hB2.alloc hB2.size (.cells #[.int .i64 ti, .int .i64 tO, .int .i64 tn] 53)
              have RB3 := RB2.alloc (.cells #[.int .i64 ti, .int .i64 tO, .int .i64 tn] 53)
              clear hd0 hd1 hd2 ht hd
              generalize rowT ⟨ri, ro, rn⟩ (ss.take j) J = M at hown2 hown3 HR hRl
              go_wp2_with fail
              refine (chain_any ⟨ri, ro, rn⟩ ⟨ti, tO, tn⟩ hrb htb _).mono ?_
              rintro e w5 ⟨rfl, hb5⟩
              have hown5 := owns_below hown3 hb5
              have hB5 := hB3.trans (hb5.mono hB3.size)
              have RB5 := RB3.below hb5
              clear x0 x1 x2 x3 p0 p1 p2 hown2 hown3 hB2 hB3 RB2 RB3 hb5 lrb hblr2
              obtain ⟨c, HCc⟩ : ∃ c, Hid (chainR ⟨ri, ro, rn⟩ ⟨ti, tO, tn⟩ = c) := ⟨_, rfl⟩
              rw [HCc.out]
              obtain ⟨ci, cO, cn⟩ := c
              dsimp only
              by_cases hpos : 0 < cn
              · have HR2 : Hid (rowT ⟨ri, ro, rn⟩ (ss.take (j + 1)) J = insR M ⟨ci, cO, cn⟩) := HR.out.trans (by unfold putC; rw [HCc.out, if_pos hpos])
                have hown6 := hown5.alloc (.cells #[.int .i64 ci, .int .i64 cO, .int .i64 cn] 53)
                have hB6 := hB5.alloc hB5.size (.cells #[.int .i64 ci, .int .i64 cO, .int .i64 cn] 53)
                have RB6 := RB5.alloc (.cells #[.int .i64 ci, .int .i64 cO, .int .i64 cn] 53)
                clear HR HCc
                go_wp2_with fail
                refine (lay_any w.heap.size _ M ⟨ci, cO, cn⟩ _ hRl hown6 hB6.size).mono ?_
                rintro e w7 ⟨v7, rfl, hown7, hB7, hG7, hQ7⟩
                have RB7 := RB6.grown2 hG7 (fun e => HV.out _ e rfl)
                have HV7 : Hid (∀ q, v7.ownBlock = some q → q ≠ rb) := by
                  intro q e
                  rcases hQ7 q e with e1 | e1
                  · exact HV.out q e1
                  · have := RB6.lt; omega
                have hB8 := hB6.trans hB7
                clear hown5 hown6 hB5 hB6 RB5 RB6 hB7 hG7 hQ7 HV
                go_wp2
                go_roundw
                case rel => exact ⟨j + 1, by omega, by go_num, by rw [HR2.out, insR_length]; exact hown7, hB8, RB7, HV7.out⟩
                case measure => simp [intOf]; omega
              · have HR2 : Hid (rowT ⟨ri, ro, rn⟩ (ss.take (j + 1)) J = M) := HR.out.trans (by unfold putC; rw [HCc.out, if_neg hpos])
                have hown6 := hown5.alloc (.cells #[.int .i64 ci, .int .i64 cO, .int .i64 cn] 53)
                have hB6 := hB5.alloc hB5.size (.cells #[.int .i64 ci, .int .i64 cO, .int .i64 cn] 53)
                have RB6 := RB5.alloc (.cells #[.int .i64 ci, .int .i64 cO, .int .i64 cn] 53)
                clear HR HCc
                go_wp2
                go_roundw
                case rel => exact ⟨j + 1, by omega, by go_num, by rw [HR2.out]; exact hown6, hB6, RB6, HV.out⟩
                case measure => simp [intOf]; omega
          · rw [List.take_of_length_le (by omega)] at hown2
            clear HV x0 x1 x2 x3 RB2 lrb
            go_wp2
            go_roundw
            case rel => exact ⟨k + 1, by omega, by go_num, by rw [HJ.out]; exact hown2, hB2⟩
            case measure => simp [intOf]; omega
    · rw [List.take_of_length_le (by omega)] at hown
      obtain ⟨a2, cap2, hv, hlc, hcm, hR⟩ := rgs_of_owns0 hown
      subst hv
      have hSl : (pairsL rs ss).length ≤ 100 := by
        have := pairsL_length ss hl4' rs; omega
      have hbd : ∀ r ∈ pairsL rs ss, r.bd := pairsL_bd hbr hbs
      have HC : Hid (joinL (pairsL rs ss) = T) := HT.out
      clear hown hlc hcm
      generalize pairsL rs ss = J at hR hSl hbd HC
      go_wp2_with fail
      refine (join_any a2 cap2 J _ hSl hbd hR).mono ?_
      rintro e w5 ⟨v2, rfl, hown2, hB2⟩
      rw [HC.out] at hown2
      have hB5 := hB.trans (hB2.mono hB.size)
      have hown3 := owns_base hown2 hB.size
      obtain ⟨a5, cap5, hv5, _, _, _⟩ := rgs_of_owns0 hown3
      subst hv5
      clear hown2 hB2 hB hR hbd
      have hTl : T.length ≤ 100 := by rw [← HC.out]; exact Nat.le_trans (joinL_length J) hSl
      by_cases h4 : 4 < T.length
      · have d4 : (4 : Int) < (T.length : Int) := by omega
        go_wp2
        go_ret2
        exact ⟨.inl ⟨h4, rfl⟩, hB5⟩
      · have d4 : decide ((4 : Int) < (T.length : Int)) = false := by simp; omega
        go_wp2
        go_ret2
        exact ⟨.inr ⟨by omega, _, rfl, hown3⟩, hB5⟩
end Go.Proofs.Ytoadlnojcbkdgaa
