/-
  WHAT places DOES: the walk.
-/
import Derived.Test.YtlbabnffiibnpaaGreatFgX
import Derived.Deep.RegionLaw
import Derived.Deep.Cut
namespace Go.Proofs.YtlbabnffiibnpaaGreat
open Go.RowKit Go.Maps
theorem take_snocF {α : Type} {l : List α} {n : Nat} {x : α} (h : l[n]? = some x) : l.take (n + 1) = l.take n ++ [x] := by rw [List.take_add_one, h]; rfl
set_option maxRecDepth 100000 in
set_option maxHeartbeats 4000000 in
theorem places_any {w : World} {S : Nat → Bool} (hS : ∀ k, S k = true → k < w.heap.size) {va : Option Addr} {vc : Nat} {D : List Sp} (g3 : SpRow (offS w.cell? S) va D) (g4 : ∀ s ∈ D, SpAt (offS w.cell? S) s) (hly : ∀ (i j : Nat) a b, D[i]? = some a → D[j]? = some b → i ≠ j → a.ly ≠ b.ly) (hlil : ∀ s ∈ D, Lil s.x) (htot : tot (D.map Sp.pr) ≤ 1000) :
    Calls Tryz.prog 36 #[.slice va D.length vc] w fun e w' => ∃ v, e = .returned v ∧ PlL (offS w'.cell? S) v ((listP (D.map Sp.pr)).map fun nm => (nm, nxt (D.map Sp.pr) nm)) ∧ Below w.heap.size w w' := by
  obtain ⟨K, hKl, hK⟩ := kof_all g4
  have hkc := kc_tot hKl hK
  have HKL : Hid (K.length = D.length) := hKl
  have HWN : Hid (∀ nm, (wnt nm K []).map Sp.pr = kidsP nm (D.map Sp.pr)) := wnt_kof hKl hK
  have HSS : Hid _ := hS
  have HK : Hid _ := hK
  have HR : Hid _ := g3.on (offS_le _ _)
  have HD : Hid _ := g4
  have HLY : Hid _ := hly
  have HLIL : Hid _ := hlil
  have hkc2 : kc K ≤ 1000 := by omega
  have hN1 : D.length ≤ 1000 := by have := len_tot (D.map Sp.pr); rw [List.length_map] at this; omega
  obtain ⟨N, HN⟩ : ∃ N, Hid (D.length = N) := ⟨_, rfl⟩
  obtain ⟨i0, hi0, hz0, hz1, hz2⟩ := info_three Tryz.infoP
  obtain ⟨i1, hi1, hy0, hy1, hy2⟩ := info_three Tryz.infoSp
  have HI0 : Hid _ := hi0
  have HI1 : Hid _ := hz0
  have HI2 : Hid _ := hz1
  have HI3 : Hid _ := hz2
  have HJ0 : Hid _ := hi1
  have HJ1 : Hid _ := hy0
  have HJ2 : Hid _ := hy1
  have HJ3 : Hid _ := hy2
  have hmm := @run_makeMap Tryz.prog
  have hst : PlJ w (w.alloc (.map #[] 0)) w.heap.size (.slice none 0 0) [] := PlJ.start ((Below.refl _ _).alloc (Nat.le_refl _) _) (Nat.le_refl _) (World.ownsMap_made w Tryz.prog 9 (plainElem Tryz.prog 3)) tieN_nil
  rw [HN.out] at hN1 ⊢
  generalize D.map Sp.pr = lD at HWN ⊢
  clear hS g3 g4 hly hlil hK hkc htot hKl hi0 hz0 hz1 hz2 hi1 hy0 hy1 hy2
  go_enter Tryz.func36, Tryz.ntmps36
  go_wp2
  clear hmm
  go_loopw [4, 18] (fun v i wr => ∃ (j : Nat) (E : List Pe), j ≤ N ∧ i = .int .i64 j ∧ Hid (PlI (pls E) (K.take j) [] ∧ gat E ≤ kc (K.take j)) ∧ Hid (PlJ w wr w.heap.size v E)) (fun _ i _ => N - (intOf i).toNat)
  case atStart => exact ⟨0, [], Nat.zero_le _, rfl, ⟨PlI.start, Nat.zero_le _⟩, hst⟩
  case round =>
    obtain ⟨j, E, hj, rfl, HG, HP⟩ := hrel
    clear hst
    by_cases hjl : j < N
    rotate_left
    · have hji : decide ((j : Int) < (N : Int)) = false := decide_eq_false (by omega)
      have HGE : Hid (PlI (pls E) K [] ∧ gat E ≤ 1000) := by
        have h1 := HG.out
        rw [List.take_of_length_le (by rw [HKL.out, HN.out]; omega)] at h1
        exact ⟨h1.1, by omega⟩
      obtain ⟨ua, uc, hu4, hu1, hu2, hcase⟩ := owns_cells HP.out.row
      subst hu4
      have hElen : E.length ≤ 1000 := by have := gat_len HP.out.ne; have := HGE.out.2; omega
      have hlowE := HP.out.low
      rcases List.eq_nil_or_concat E with rfl | ⟨E', eE, hE⟩
      · have HNIL : Hid ((listP lD).map (fun nm => (nm, nxt lD nm)) = []) := by
          have := places_end (PL := []) HGE.out.1 HWN.out (List.Perm.refl _) List.Pairwise.nil
          exact this.symm
        have HDL : Hid (∀ W : World, Calls Tryz.prog 58 #[.slice ua 0 uc, .func (.func 59) #[] #[]] W fun e w' => e = .returned (.slice ua 0 uc) ∧ W = w') := fun W => delP_nil ua uc W
        have HSO : Hid (∀ W : World, Calls Tryz.prog 60 #[.slice ua 0 uc, .func (.func 61) #[] #[]] W fun e w' => e = .returned (.tuple #[]) ∧ w' = W) := fun W => sortP_nil ua uc _ W
        clear HG HGE HP hcase HWN HK HKL HR HD HLY HLIL hElen
        simp only [List.length_nil] at hu1 ⊢
        go_wp2
        go_loop [87] (fun i => i = .int .i64 0) (fun _ => 0)
        case atStart => rfl
        case round =>
          subst hrel
          go_wp2_with fail
          refine Calls.mono (HDL.out _) ?_
          rintro e w1 ⟨rfl, rfl⟩
          go_wp2_with fail
          refine Calls.mono (HSO.out _) ?_
          rintro e w1 ⟨rfl, rfl⟩
          go_wp2
          go_ret
          exact ⟨_, rfl, ⟨ua, uc, [], rfl, hu1, hu2, .inl rfl, fun e he => (by cases he), by rw [HNIL.out]; rfl⟩, hlowE⟩
      have hne : E ≠ [] := by rw [hE]; simp
      rcases hcase with ⟨_, h0, _⟩ | ⟨rb, hua, hrb1, hrb2, hrcell, hrfree⟩
      · exact absurd (List.eq_nil_of_length_eq_zero h0) hne
      subst hua
      have hSrb : ∀ k, (S k || k == rb) = true → k < wr.heap.size := fun k hk => by
        simp at hk
        rcases hk with q | q
        · have := HSS.out k q; have := hlowE.size; omega
        · omega
      have HSRB : Hid _ := hSrb
      have hPR : PRow wr rb E := ⟨fun i e hi => ⟨hrcell _ _ (plv_at E i e hi).1, hrcell _ _ (plv_at E i e hi).2⟩, hrfree, hrb2⟩
      have hm0 : MLe (offS w.cell? S) (offS wr.cell? (fun k => S k || k == rb)) := mle_step fun k hk hs => ⟨by simp [hs]; omega, hlowE.block k hk⟩
      have hGO : ∀ e ∈ E, GOK (offS wr.cell? (fun k => S k || k == rb)) e := fun e he => by
        have hre := HP.out.each e he
        obtain ⟨a', cap', e1, h1, h2, h3, h4⟩ := row_spots hre
        simp only [Value.slice.injEq, true_and] at e1
        obtain ⟨e1, e2⟩ := e1
        obtain ⟨g, eg, hg1, hg2⟩ := own_some hre (List.length_pos_iff.2 (HP.out.ne e he))
        have hgr : g ≠ rb := fun q => by
          rcases rows_ne (show 92 ≠ 59 by decide) HP.out.row hre with q1 | q1
          · cases q1
          · exact q1 (by rw [eg]; show some rb = some g; rw [q])
        refine ⟨?_, fun s hs => ?_, by rw [e2]; exact h1, by rw [e2]; exact h2, by have := gat_mem he; have := HGE.out.2; omega⟩
        · rcases h3 with q | ⟨b2, off2, q, h3⟩
          · exact .inl q
          · rw [← e1, eg] at q
            simp only [Option.some.injEq, Addr.mk.injEq] at q
            obtain ⟨rfl, rfl, _⟩ := q
            have hSg : (S g || g == rb) = false := by
              simp [hgr]
              cases hh : S g with
              | false => rfl
              | true => have := HSS.out g hh; omega
            refine .inr ⟨g, 0, eg, fun i d hi => ?_⟩
            rw [offS_ne (S := fun k => S k || k == rb) (q := ⟨g, 0 + i * 2, none⟩) hSg, offS_ne (S := fun k => S k || k == rb) (q := ⟨g, 0 + i * 2 + 1, none⟩) hSg]
            exact h3 i d hi
        · have h5 := (HGE.out.1.eq (e.n, e.L) (List.mem_map.2 ⟨e, he, rfl⟩)).1
          simp only at h5
          rw [h5] at hs
          unfold wnt at hs
          rcases List.mem_append.1 hs with hs | hs
          · obtain ⟨kq, hkq, e3⟩ := List.mem_filterMap.1 hs
            obtain ⟨i2, hi2⟩ := List.getElem?_of_mem hkq
            have hi3 := (List.getElem?_eq_some_iff.1 hi2).1
            obtain ⟨d2, hd2⟩ : ∃ d2, D[i2]? = some d2 := ⟨_, List.getElem?_eq_getElem (by rw [← HKL.out]; exact hi3)⟩
            obtain ⟨k2, hk2, hk3⟩ := HK.out i2 d2 hd2
            rw [hi2] at hk2
            cases hk2
            obtain ⟨i4, hi4⟩ := List.getElem?_of_mem (fstS_mem e3)
            have hi5 := (List.getElem?_eq_some_iff.1 hi4).1
            obtain ⟨p2, hp2⟩ : ∃ p2, d2.x.dirKs[i4]? = some p2 := ⟨_, List.getElem?_eq_getElem (by rw [← hk3.1]; exact hi5)⟩
            obtain ⟨_, _, s2, _, f1, _, _, _, _, _, f3⟩ := hk3.2 i4 p2 hp2
            rw [hi4] at f1
            simp only [Option.some.injEq, Prod.mk.injEq] at f1
            obtain ⟨_, rfl⟩ := f1
            exact f3.on hm0
          · cases hs
      have HGO : Hid _ := hGO
      have HPR : Hid _ := hPR
      obtain ⟨NE, HNE⟩ : ∃ NE, Hid (E.length = NE) := ⟨_, rfl⟩
      have HEE : Hid (PlI (pls E) K []) := HGE.out.1
      rw [HNE.out] at hu1 hElen ⊢
      clear HG HGE HP hrcell hrfree hSrb hPR hGO hm0 HK HKL HR HD HLY HLIL hE hne
      go_wp2
      go_loopw [87] (fun i wr => ∃ (j : Nat) (G : List Pe), j ≤ NE ∧ i = .int .i64 j ∧ G.length = NE ∧ Hid (pls G = ((pls E).take j).map shE ++ (pls E).drop j) ∧ Hid (PRow wr rb G) ∧ Hid (∀ e ∈ G, GOK (offS wr.cell? (fun k => S k || k == rb)) e) ∧ Hid (∀ k, (S k || k == rb) = true → k < wr.heap.size) ∧ Below w.heap.size w wr) (fun i _ => NE - (intOf i).toNat)
      case atStart => exact ⟨0, E, Nat.zero_le _, rfl, HNE.out, by show _ = _; simp, HPR.out, HGO.out, HSRB.out, hlowE⟩
      case round =>
        clear HPR HGO HSRB hlowE hrb2
        obtain ⟨q, G, hq, rfl, hGl, HG, HPR, HGO, HSRB, hlow⟩ := hrel
        by_cases hql : q < NE
        · have hqi : decide ((q : Int) < (NE : Int)) = true := decide_eq_true (by omega)
          have hqi2 : (q : Int) < (NE : Int) := by omega
          obtain ⟨e, he⟩ : ∃ e, G[q]? = some e := ⟨_, List.getElem?_eq_getElem (by omega)⟩
          have hgo := HGO.out e (List.mem_of_getElem? he)
          have c1 := (HPR.out.cell q e he).2
          have HSH : Hid _ := showV_any (cap := e.c) HSRB.out hgo.row hgo.at_ hgo.len
          have HVA : Hid _ := values_any wr e.a e.L.length e.c
          have HE0 : Hid (G[q]? = some e) := he
          have HGE2 : Hid (GOK (offS wr.cell? (fun k => S k || k == rb)) e) := hgo
          clear he hgo
          go_wp2_with fail
          refine Calls.mono HVA.out ?_
          rintro x1 w1 ⟨rfl, rfl⟩
          go_wp2_with fail
          refine Calls.mono HSH.out ?_
          rintro x2 w2 ⟨a2, cap2, rfl, h1, h2, h3, hB2⟩
          have hP2 := HPR.out.below hB2
          have c2 := (hP2.cell q e HE0.out).2
          have f2 := hP2.free (q * 2 + 1)
          have HP3 : Hid _ := hP2.set1 HE0.out ⟨e.n, a2, cap2, shS e.L⟩ rfl
          have hm2 : MLe (offS wr.cell? (fun k => S k || k == rb)) (offS (w2.setCell ⟨rb, q * 2 + 1, none⟩ (.slice a2 (shS e.L).length cap2)).cell? (fun k => S k || k == rb)) := mle_step fun k hk hs => ⟨hs, by rw [Below.heap_setCell _ _ _ _ (by simp at hs; exact hs.2)]; exact hB2.block k hk⟩
          have hm3 : MLe (offS w2.cell? (fun k => S k || k == rb)) (offS (w2.setCell ⟨rb, q * 2 + 1, none⟩ (.slice a2 (shS e.L).length cap2)).cell? (fun k => S k || k == rb)) := mle_step fun k hk hs => ⟨hs, by rw [Below.heap_setCell _ _ _ _ (by simp at hs; exact hs.2)]⟩
          have HGO3 : Hid (∀ f ∈ G.set q ⟨e.n, a2, cap2, shS e.L⟩, GOK (offS (w2.setCell ⟨rb, q * 2 + 1, none⟩ (.slice a2 (shS e.L).length cap2)).cell? (fun k => S k || k == rb)) f) := fun f hf => by
            obtain ⟨i2, hi2⟩ := List.getElem?_of_mem hf
            rw [List.getElem?_set] at hi2
            split at hi2
            · split at hi2
              · cases hi2
                exact ⟨h3.on hm3, fun s hs => (HGE2.out.at_ s (shS_sub _ s hs)).on hm2, h1, h2, by have := shS_len e.L; have := HGE2.out.len; show (shS e.L).length ≤ 1000; omega⟩
              · cases hi2
            · exact (HGO.out f (List.mem_of_getElem? hi2)).on hm2
          have HG3 : Hid (pls (G.set q ⟨e.n, a2, cap2, shS e.L⟩) = ((pls E).take (q + 1)).map shE ++ (pls E).drop (q + 1)) := by
            show _ = _
            have hEq : (pls E)[q]? = some (e.n, e.L) := by
              have e1 := pls_get HE0.out
              rw [HG.out, List.getElem?_append_right (by rw [List.length_map, List.length_take]; omega), List.getElem?_drop] at e1
              have e2 : ((List.take q (pls E)).map shE).length = q := by
                rw [List.length_map, List.length_take]
                have : (pls E).length = NE := by unfold pls; rw [List.length_map]; exact HNE.out
                omega
              rw [e2, Nat.sub_self, Nat.add_zero] at e1
              exact e1
            rw [pls_set, HG.out]
            exact set_map hEq
          have HS3 : Hid (∀ k, (S k || k == rb) = true → k < (w2.setCell ⟨rb, q * 2 + 1, none⟩ (.slice a2 (shS e.L).length cap2)).heap.size) := fun k hk => by rw [World.size_setCell]; exact Nat.lt_of_lt_of_le (HSRB.out k hk) hB2.size
          have hlow3 := (hlow.trans (hB2.mono hlow.size)).setCell (p := ⟨rb, q * 2 + 1, none⟩) hrb1 (.slice a2 (shS e.L).length cap2)
          clear hm2 hm3 h3 hB2 hP2 HSH HVA HGE2 HGO HPR HG HSRB hlow c1
          go_wp2
          go_roundw
          case rel => exact ⟨q + 1, G.set q ⟨e.n, a2, cap2, shS e.L⟩, by omega, by go_num, by rw [List.length_set]; exact hGl, HG3.out, HP3.out, HGO3.out, HS3.out, hlow3⟩
          case measure => (simp [intOf]; try omega)
        · have hqi : decide ((q : Int) < (NE : Int)) = false := decide_eq_false (by omega)
          have HGS : Hid (pls G = (pls E).map shE) := by
            show _ = _
            have hl : (pls E).length = NE := by unfold pls; rw [List.length_map]; exact HNE.out
            rw [HG.out, List.take_of_length_le (by omega), List.drop_of_length_le (by omega), List.append_nil]
          have HDL : Hid _ := delP_any (cap := uc) HPR.out (by omega) (fun e he => (HGO.out e he).len) (by omega) hu2
          rw [hGl] at HDL
          clear HG
          go_wp2_with fail
          refine Calls.mono HDL.out ?_
          rintro x1 w1 ⟨rfl, hP1, hM1⟩
          have hsl : (someP G).length ≤ 1000 := by have h1 : (someP G).length ≤ G.length := List.length_filter_le _ _; omega
          have HSL : Hid ((someP G).length ≤ uc) := by show _ ≤ _; have h1 : (someP G).length ≤ G.length := List.length_filter_le _ _; omega
          have HSO : Hid _ := sortP_any (cap := uc) hP1 hsl
          have HM1 : Hid _ := hM1
          obtain ⟨NS, HNS⟩ : ∃ NS, Hid ((someP G).length = NS) := ⟨_, rfl⟩
          rw [HNS.out] at HSO ⊢
          clear HDL hP1 hM1 hsl
          go_wp2_with fail
          refine Calls.mono HSO.out ?_
          rintro x2 w2 ⟨rfl, hM2, G', hp, hs, hc⟩
          have hM := HM1.out.trans hM2
          have hlow2 : Below w.heap.size w w2 := hlow.trans (hM.below hlow.size (fun k hk => by rw [hk]; exact hrb1))
          have hmE : MLe (offS wr.cell? (fun k => S k || k == rb)) (offS w2.cell? S) := mle_step fun k hk hs => ⟨by simp at hs; exact hs.1, hM.block k hk (by simp at hs; exact hs.2)⟩
          have hSr : S rb = false := by
            cases hh : S rb with
            | false => rfl
            | true => have := HSS.out rb hh; omega
          have HRES : Hid (PlL (offS w2.cell? S) (.slice (some ⟨rb, 0, none⟩) NS uc) ((listP lD).map fun nm => (nm, nxt lD nm))) := by
            have hlen : G'.length = NS := by rw [hp.length_eq]; exact HNS.out
            refine ⟨some ⟨rb, 0, none⟩, uc, G', by rw [hlen], by rw [hlen, ← HNS.out]; exact HSL.out, hu2, .inr ⟨rb, rfl, fun i e hi => ?_⟩, fun e he => ?_, ?_⟩
            · rw [offS_ne (q := ⟨rb, i * 2, none⟩) hSr, offS_ne (q := ⟨rb, i * 2 + 1, none⟩) hSr]; exact hc i e hi
            · have h1 : e ∈ someP G := hp.mem_iff.1 he
              exact ((HGO.out e (List.mem_filter.1 h1).1).on hmE).spl
            · refine places_end HEE.out HWN.out ?_ ?_
              · have h1 : (pls G').Perm (pls (someP G)) := hp.map _
                rw [pls_some, HGS.out] at h1
                exact h1
              · unfold pls
                rw [List.pairwise_map]
                exact hs
          clear HSO HM1 hM2 hp hs hc hM hmE HGO HPR HGS HSRB hlow
          go_wp2
          go_ret
          exact ⟨_, rfl, HRES.out, hlow2⟩
    have hji : decide ((j : Int) < (N : Int)) = true := decide_eq_true (by omega)
    obtain ⟨d, hd⟩ : ∃ d, D[j]? = some d := ⟨_, List.getElem?_eq_getElem (by rw [HN.out]; exact hjl)⟩
    obtain ⟨kk, hkk, hkof⟩ := HK.out j d hd
    obtain ⟨b, off, rfl, hrow⟩ : ∃ b off, va = some ⟨b, off, none⟩ ∧ ∀ i d, D[i]? = some d → w.cell? ⟨b, off + i * 2, none⟩ = some (.pointer (some ⟨d.b, d.p, none⟩)) ∧ w.cell? ⟨b, off + i * 2 + 1, none⟩ = some (.int .i64 d.ly) := by
      rcases HR.out with e | e
      · subst e; simp at hd
      · exact e
    obtain ⟨r0, r1⟩ := hrow j d hd
    have hB := HP.out.low
    have r0 := mle_below hB _ _ r0
    have r1 := mle_below hB _ _ r1
    have hal : Below wr.heap.size wr (wr.alloc (.cells #[.pointer (some ⟨d.b, d.p, none⟩), .int .i64 d.ly] 59)) := (Below.refl _ _).alloc (Nat.le_refl _) _
    obtain ⟨c0, c1⟩ := two_new wr (.pointer (some ⟨d.b, d.p, none⟩)) (.int .i64 d.ly) 59
    have hsp := ((HD.out d (List.mem_of_getElem? hd)).on (offS_le _ _)).below (hB.trans (hal.mono hB.size))
    obtain ⟨ka, kcap, hka, hkids⟩ := kidsS_any hsp
    have HKA : Hid (d.x.dirKs ≠ [] → ka = d.h.ak) := hka
    have HC : Hid (Calls Tryz.prog 56 #[.agg #[.pointer (some ⟨d.b, d.p, none⟩), .int .i64 d.ly]] (wr.alloc (.cells #[.pointer (some ⟨d.b, d.p, none⟩), .int .i64 d.ly] 59)) _) := hkids
    have HD0 : Hid (D[j]? = some d) := hd
    have HKK : Hid (K[j]? = some kk ∧ KOf (offS w.cell? S) d kk) := ⟨hkk, hkof⟩
    obtain ⟨M, HM⟩ : ∃ M, Hid (d.x.dirKs.length = M) := ⟨_, rfl⟩
    have hMk : kk.length = M := hkof.1.trans HM.out
    have hM1 : kc (K.take j) + M ≤ 1000 := by have := kc_take hkk; omega
    have HP1 : Hid _ := HP.out.keep hal
    clear hkof hkk hd hrow hsp hka hkids hB
    rw [HM.out] at HC
    go_wp2_with fail
    refine Calls.mono HC.out ?_
    rintro e w2 ⟨rfl, hB2⟩
    have HP2 : Hid _ := HP1.out.keep hB2
    have hbx : w2.heap[wr.heap.size]? = some (.cells #[.pointer (some ⟨d.b, d.p, none⟩), .int .i64 d.ly] 59 (0, 0)) := (hB2.block _ (by rw [World.size_alloc]; omega)).trans (heap_alloc_new wr _)
    have HNE : Hid (∀ e ∈ E, e.a ≠ some ⟨wr.heap.size, 0, none⟩) := fun e he q => by
      obtain ⟨g, e1, _, h3⟩ := own_some (HP.out.each e he) (List.length_pos_iff.2 (HP.out.ne e he))
      rw [q] at e1
      simp only [Option.some.injEq, Addr.mk.injEq] at e1
      omega
    obtain ⟨db, HDB⟩ : ∃ db, Hid (wr.heap.size = db) := ⟨_, rfl⟩
    rw [HDB.out] at hbx HNE
    rw [HDB.out]
    have HBX : Hid _ := hbx
    clear HC HP1 HP hal c0 c1 r0 r1 hB2 hbx
    go_wp2
    go_loopw [4, 26] (fun v i wr => ∃ (k : Nat) (E : List Pe), k ≤ M ∧ i = .int .i64 k ∧ Hid (PlI (pls E) (K.take j) (kk.take k) ∧ gat E ≤ kc (K.take j) + k) ∧ Hid (PlJ w wr w.heap.size v E) ∧ Hid (wr.heap[db]? = some (.cells #[.pointer (some ⟨d.b, d.p, none⟩), .int .i64 d.ly] 59 (0, 0)) ∧ ∀ e ∈ E, e.a ≠ some ⟨db, 0, none⟩)) (fun _ i _ => M - (intOf i).toNat)
    case atStart => exact ⟨0, E, Nat.zero_le _, rfl, ⟨HG.out.1, HG.out.2⟩, HP2.out, HBX.out, HNE.out⟩
    case round =>
      clear HG HP2 HBX HNE HDB
      obtain ⟨k, E, hk, rfl, HG, HP, HX⟩ := hrel
      by_cases hkl : k < M
      rotate_left
      · have hki : decide ((k : Int) < (M : Int)) = false := decide_eq_false (by omega)
        have HE : Hid (PlI (pls E) (K.take (j + 1)) [] ∧ gat E ≤ kc (K.take (j + 1))) := by
          have e1 : K.take (j + 1) = K.take j ++ [kk] := take_snocF HKK.out.1
          have h1 := HG.out.1
          rw [List.take_of_length_le (l := kk) (by rw [hMk]; omega)] at h1
          rw [e1]
          exact ⟨h1.dir, by rw [kc_snoc, hMk]; have := HG.out.2; omega⟩
        go_wp2
        go_roundw
        case rel => exact ⟨j + 1, E, by omega, by go_num, HE.out, HP.out⟩
        case measure => (simp [intOf]; try omega)
      have hki : decide ((k : Int) < (M : Int)) = true := decide_eq_true (by omega)
      have hki2 : (k : Int) < (M : Int) := by omega
      obtain ⟨⟨nm, y⟩, hp⟩ : ∃ p, d.x.dirKs[k]? = some p := ⟨_, List.getElem?_eq_getElem (by rw [HM.out]; exact hkl)⟩
      obtain ⟨kb, ko, s, q1, q2, q3, q4, q5, q6, q7, q8⟩ := HKK.out.2.2 k _ hp
      have hka : ka = some ⟨kb, ko, none⟩ := (HKA.out fun e => by rw [e] at hp; simp at hp).trans q1
      subst hka
      have hnm : nm.size ≤ maxLen := by
        have h1 := HLIL.out d (List.mem_of_getElem? HD0.out)
        have h2 := dirKs_sub (List.mem_of_getElem? hp)
        obtain ⟨i2, h3⟩ := List.getElem?_of_mem h2
        have h4 : LilL d.x.kids := by
          obtain ⟨b', p', ly', ⟨k', m', u', g', o', at', d', ks'⟩, h'⟩ := d
          rw [Lil] at h1
          exact h1.2.2
        have := (lilL_get h4 h3).1
        unfold maxLen; omega
      have HNM : Hid (nm.size ≤ maxLen) := hnm
      have n0 := mle_below HP.out.low _ _ (offS_le _ _ _ _ q7)
      have hbc : ∀ (W : World), W.heap[db]? = some (.cells #[.pointer (some ⟨d.b, d.p, none⟩), .int .i64 d.ly] 59 (0, 0)) → W.cell? ⟨db, 1, none⟩ = some (.int .i64 d.ly) := fun W hW => by simp [World.cell?, hW]
      have HBC : Hid _ := hbc
      have d1 := hbc wr HX.out.1
      have HS1 : Hid (kk[k]? = some (nm, s)) := q2
      have HS2 : Hid (s.b = kb ∧ s.p = ko + k * 9 + 1 ∧ s.ly = d.ly) := ⟨q3, q4, q5⟩
      have T0 : wr.drew.cell? ⟨kb, ko + k * 9, none⟩ = some (.string nm) ∧ wr.drew.cell? ⟨db, 1, none⟩ = some (.int .i64 d.ly) := ⟨n0, d1⟩
      have hz : ∀ o : Obj, Below wr.heap.size wr (wr.alloc o).drew := fun o => ((Below.refl _ wr).alloc (Nat.le_refl _) o).drew
      have T1 : (wr.alloc (.cells #[.pointer none, .int .i64 0] 59)).drew.cell? ⟨kb, ko + k * 9, none⟩ = some (.string nm) ∧ (wr.alloc (.cells #[.pointer none, .int .i64 0] 59)).drew.cell? ⟨db, 1, none⟩ = some (.int .i64 d.ly) := ⟨mle_below (hz _) _ _ n0, mle_below (hz _) _ _ d1⟩
      have T2 : (wr.alloc (.cells #[.pointer (some ⟨kb, ko + k * 9 + 1, none⟩), .int .i64 d.ly] 59)).drew.cell? ⟨kb, ko + k * 9, none⟩ = some (.string nm) ∧ (wr.alloc (.cells #[.pointer (some ⟨kb, ko + k * 9 + 1, none⟩), .int .i64 d.ly] 59)).drew.cell? ⟨db, 1, none⟩ = some (.int .i64 d.ly) := ⟨mle_below (hz _) _ _ n0, mle_below (hz _) _ _ d1⟩
      clear q1 q2 q3 q4 q5 q6 q7 q8 hp hnm hbc n0 d1
      go_upto_region 10 with fail
      go_region_held3 (fun w' => w'.cell? ⟨kb, ko + k * 9, none⟩ = some (.string nm) ∧ w'.cell? ⟨db, 1, none⟩ = some (.int .i64 d.ly)) (first | with_reducible exact T0 | with_reducible exact T1 | with_reducible exact T2) (fail)
      clear T0 T1 T2
      have hz1 := hz (.cells #[.pointer (some ⟨kb, ko + k * 9 + 1, none⟩), .int .i64 d.ly] 59)
      have HP1 : Hid _ := HP.out.keep hz1
      have HX1 : Hid ((wr.alloc (.cells #[.pointer (some ⟨kb, ko + k * 9 + 1, none⟩), .int .i64 d.ly] 59)).drew.heap[db]? = some (.cells #[.pointer (some ⟨d.b, d.p, none⟩), .int .i64 d.ly] 59 (0, 0)) ∧ ∀ e ∈ E, e.a ≠ some ⟨db, 0, none⟩) := ⟨(hz1.block db (Array.getElem?_eq_some_iff.1 HX.out.1).1).trans HX.out.1, HX.out.2⟩
      obtain ⟨sb0, sb1⟩ := two_new wr (.pointer (some ⟨kb, ko + k * 9 + 1, none⟩)) (.int .i64 d.ly) 59
      have sb0 : (wr.alloc (.cells #[.pointer (some ⟨kb, ko + k * 9 + 1, none⟩), .int .i64 d.ly] 59)).drew.cell? ⟨wr.heap.size, 0, none⟩ = some (.pointer (some ⟨kb, ko + k * 9 + 1, none⟩)) := sb0
      have sb1 : (wr.alloc (.cells #[.pointer (some ⟨kb, ko + k * 9 + 1, none⟩), .int .i64 d.ly] 59)).drew.cell? ⟨wr.heap.size, 1, none⟩ = some (.int .i64 d.ly) := sb1
      have hblk : (wr.alloc (.cells #[.pointer (some ⟨kb, ko + k * 9 + 1, none⟩), .int .i64 d.ly] 59)).drew.heap[wr.heap.size]? = some (.cells #[.pointer (some ⟨kb, ko + k * 9 + 1, none⟩), .int .i64 d.ly] 59 (0, 0)) := heap_alloc_new wr _
      have HSB : Hid (∀ e ∈ E, e.a ≠ some ⟨wr.heap.size, 0, none⟩) := fun e he q => by
        obtain ⟨g, e1, _, h3⟩ := own_some (HP.out.each e he) (List.length_pos_iff.2 (HP.out.ne e he))
        rw [q] at e1
        simp only [Option.some.injEq, Addr.mk.injEq] at e1
        omega
      have hgE : gat E ≤ 1000 := by have := HG.out.2; omega
      have hEl : E.length ≤ 1000 := by have := gat_len HP.out.ne; omega
      obtain ⟨sb, HSBE⟩ : ∃ sb, Hid (wr.heap.size = sb) := ⟨_, rfl⟩
      have hsbm : sb ≠ w.heap.size := by
        obtain ⟨Dm, h1, _⟩ := HP.out.mp
        have := h1.lt
        have h2 := HSBE.out
        omega
      rw [HSBE.out] at sb0 sb1 HSB hblk
      rw [HSBE.out]
      generalize (wr.alloc (.cells #[.pointer (some ⟨kb, ko + k * 9 + 1, none⟩), .int .i64 d.ly] 59)).drew = w3 at HP1 HX1 sb0 sb1 hblk ⊢
      clear hz hz1 HP HX
      obtain ⟨ua, uc, hu4, _, _, _⟩ := owns_cells HP1.out.row
      subst hu4
      obtain ⟨Dm, hDm, hTm⟩ := HP1.out.mp
      have HDM : Hid _ := hDm
      have HTM : Hid _ := hTm
      clear hDm hTm
      go_wp2_with (at_lookup; refine wpList_lookup_own_ok_int _ rfl _ _ 113 rfl 9 3 .i64 keyS Tryz.underlying113 Tryz.underlying3 (zeroI3 _) w.heap.size E.length Dm rfl HDM.out _ _ rfl (WideMaps.keyOf_string_mk Tryz.underlying9 HNM.out) ?_)
      intro c hc hwc
      have HC0 : Hid _ := hc
      clear hc hwc
      rcases Classical.em (nm ∈ E.map (·.n)) with hin | hin
      rotate_left
      · have eb : Maps.has Dm (kN nm) = false := by rw [(HTM.out.2 nm).1, idxN_no hin]; rfl
        rw [eb]
        have HIN : Hid _ := hin
        have HWF : Hid ((Lit.int .i64 (E.length : Int)).wf = true) := WalkArith.wf_i64 (by omega)
        clear hin eb HC0
        go_wp2_with (at_mapUpdate; refine wpList_mapUpdate_own _ rfl _ _ _ 113 rfl 9 3 keyS Tryz.underlying113 (plainElem Tryz.prog 3) w.heap.size E.length Dm rfl HDM.out (by unfold maxLen; omega) _ _ _ rfl rfl (WideMaps.keyOf_string_mk Tryz.underlying9 HNM.out) _ [] (plainElem_int Tryz.underlying3 HWF.out) ?_)
        intro w4 hown4 hg4
        have HOW4 : Hid _ := hown4
        have HG4 : Hid _ := hg4
        have t0 := hg4.cell sb0 (by simpa using hsbm)
        have t1 := hg4.cell sb1 (by simpa using hsbm)
        have HROW : Hid (((w4.alloc (.cells #[.pointer (some ⟨kb, ko + k * 9 + 1, none⟩), .int .i64 d.ly] 59)).alloc (.cells #[.string nm, .slice (some ⟨w4.heap.size, 0, none⟩) 1 1] 92)).ownsRow w.heap.size 92 2 (.slice ua E.length uc) E.length (plv E)) := ((HP1.out.row.kept hg4 (.inr (omap_row HDM.out HP1.out.row))).alloc _).alloc _
        have hbase : w.heap.size ≤ ((w4.alloc (.cells #[.pointer (some ⟨kb, ko + k * 9 + 1, none⟩), .int .i64 d.ly] 59)).alloc (.cells #[.string nm, .slice (some ⟨w4.heap.size, 0, none⟩) 1 1] 92)).heap.size := by rw [World.size_alloc, World.size_alloc]; have := HP1.out.low.size; have := hg4.size; omega
        have HSRC : Hid (∀ q u, (plv [⟨nm, some ⟨w4.heap.size, 0, none⟩, 1, [s]⟩])[q]? = some u → ((w4.alloc (.cells #[.pointer (some ⟨kb, ko + k * 9 + 1, none⟩), .int .i64 d.ly] 59)).alloc (.cells #[.string nm, .slice (some ⟨w4.heap.size, 0, none⟩) 1 1] 92)).cell? ((⟨w4.heap.size + 1, 0, none⟩ : Addr).add q) = some u) := by
          have := cell_two_new (w4.alloc (.cells #[.pointer (some ⟨kb, ko + k * 9 + 1, none⟩), .int .i64 d.ly] 59)) (.string nm) (.slice (some ⟨w4.heap.size, 0, none⟩) 1 1) 92
          rw [World.size_alloc] at this
          exact this
        clear hown4 hg4 sb0 sb1
        go_wp2_with (at_builtin; refine wpList_append_src _ rfl (.tmp 53) (.tmp 58) 88 rfl w.heap.size 92 i0 (.agg #[.string ⟨#[]⟩, .slice none 0 0]) 2 40 Tryz.underlying88 HI0.out HI1.out HI2.out HI3.out rfl (by decide) _ E.length (plv E) rfl HROW.out (some ⟨w4.heap.size + 1, 0, none⟩) 1 1 (plv [⟨nm, some ⟨w4.heap.size, 0, none⟩, 1, [s]⟩]) rfl rfl (.inr ⟨_, rfl, HSRC.out⟩) (plv_one _) (by unfold maxLen; omega) (by omega) hbase ?_)
        intro v5 w5 hown5 hg5 ho5
        have HPN : Hid (PlJ w w5 w.heap.size v5 (E ++ [⟨nm, some ⟨w4.heap.size, 0, none⟩, 1, [s]⟩])) := by
          obtain ⟨e1, e2, e3⟩ := HS2.out
          refine HP1.out.new (s := s) HOW4.out ?_ HG4.out ?_ ?_
          · have := tieN_put HTM.out HIN.out
            rwa [List.length_map] at this
          · exact hown5
          · rw [e1, e2, e3]; exact hg5
        have HXN : Hid (w5.heap[db]? = some (.cells #[.pointer (some ⟨d.b, d.p, none⟩), .int .i64 d.ly] 59 (0, 0)) ∧ ∀ e ∈ E ++ [⟨nm, some ⟨w4.heap.size, 0, none⟩, 1, [s]⟩], e.a ≠ some ⟨db, 0, none⟩) := by
          have hdl := (Array.getElem?_eq_some_iff.1 HX1.out.1).1
          have hdm : db ≠ w.heap.size := fun q => by
            obtain ⟨es, clock, hh, _⟩ := HDM.out
            rw [← q, HX1.out.1] at hh
            cases hh
          have hdr : some db ≠ (Value.slice ua E.length uc).ownBlock := fun q => by
            rcases HP1.out.row.2 with ⟨e1, _⟩ | ⟨g, cap, cur, e1, _, hg, _⟩
            · rw [e1] at q; cases q
            · rw [e1] at q
              simp [Value.ownBlock] at q
              rw [← q, HX1.out.1] at hg
              simp at hg
          have hs4 := HG4.out.size
          refine ⟨?_, fun e he q => ?_⟩
          · rw [hg5.block db (by rw [World.size_alloc, World.size_alloc]; omega) hdr, Below.heap_alloc _ _ _ (by rw [World.size_alloc]; omega), Below.heap_alloc _ _ _ (by omega), HG4.out.block db hdl (by simpa using hdm)]
            exact HX1.out.1
          · rcases List.mem_append.1 he with he | he
            · exact HX1.out.2 e he q
            · rw [List.mem_singleton] at he
              subst he
              simp only [Option.some.injEq, Addr.mk.injEq] at q
              omega
        have HGN : Hid (PlI (pls (E ++ [⟨nm, some ⟨w4.heap.size, 0, none⟩, 1, [s]⟩])) (K.take j) (kk.take (k + 1)) ∧ gat (E ++ [⟨nm, some ⟨w4.heap.size, 0, none⟩, 1, [s]⟩]) ≤ kc (K.take j) + (k + 1)) := by
          rw [pls_app, take_snocF HS1.out, gat_app]
          exact ⟨HG.out.1.new (by rw [pls_n]; exact HIN.out), by have := HG.out.2; show _ + 1 ≤ _; omega⟩
        clear hown5 hg5 ho5 HROW HSRC t0 t1 hbase HOW4 HG4 HP1 HX1 HG HDM HTM hblk HSB HSBE
        go_wp2
        go_roundw
        case rel => exact ⟨k + 1, _, by omega, by go_num, HGN.out, HPN.out, HXN.out⟩
        case measure => (simp [intOf]; try omega)
      · obtain ⟨at_, ha1, ha2⟩ := idxN_in (i := 0) hin
        rw [Nat.zero_add] at ha1
        have eb : Maps.has Dm (kN nm) = true := by rw [(HTM.out.2 nm).1, ha1]; rfl
        have ec : c = (at_ : Int) := by
          have h1 := (HTM.out.2 nm).2
          rw [HC0.out, ha1] at h1
          simpa using h1
        rw [eb]
        subst ec
        rw [List.getElem?_map] at ha2
        obtain ⟨e, he, hen⟩ := Option.map_eq_some_iff.1 ha2
        have hatl := (List.getElem?_eq_some_iff.1 he).1
        have hem := List.mem_of_getElem? he
        obtain ⟨rb, er, hrb1, hrb2⟩ := own_some HP1.out.row (by omega)
        subst er
        obtain ⟨en, ea, ec2, eL⟩ := e
        dsimp only at hen
        subst hen
        have hre := HP1.out.each _ hem
        have hpos := List.length_pos_iff.2 (HP1.out.ne _ hem)
        dsimp only at hre hpos
        obtain ⟨ge, ege, hge1, hge2⟩ := own_some hre hpos
        subst ege
        obtain ⟨_, _, hq, _, _, hrc⟩ := owns_cells HP1.out.row
        rcases hrc with ⟨q, _⟩ | ⟨_, q, _, _, hrcell, hrfree⟩
        · simp only [Value.slice.injEq] at hq; rw [q] at hq; cases hq.1
        simp only [Value.slice.injEq] at hq
        rw [q] at hq
        simp only [Option.some.injEq, Addr.mk.injEq] at hq
        obtain ⟨⟨rfl, _⟩, hcc1⟩ := hq
        clear hcc1
        have k0 := hrcell _ _ (plv_at E at_ _ he).2
        dsimp only at k0
        obtain ⟨t, ht⟩ : ∃ t, eL[eL.length - 1]? = some t := ⟨_, List.getElem?_eq_getElem (by omega)⟩
        have htl : eL.getLast? = some t := by rw [List.getLast?_eq_getElem?]; exact ht
        obtain ⟨_, _, hq2, _, _, hec⟩ := owns_cells hre
        rcases hec with ⟨q, _⟩ | ⟨_, q, _, _, hecell, _⟩
        · simp only [Value.slice.injEq] at hq2; rw [q] at hq2; cases hq2.1
        simp only [Value.slice.injEq] at hq2
        rw [q] at hq2
        simp only [Option.some.injEq, Addr.mk.injEq] at hq2
        obtain ⟨⟨rfl, _⟩, hcc2⟩ := hq2
        clear hcc2
        have k1 := hecell _ _ (flatS_at eL _ t ht).2
        have HFR : Hid _ := hrfree
        have HE : Hid _ := he
        have HRE : Hid _ := hre
        have HTL : Hid _ := htl
        have hgm : eL.length ≤ gat E := gat_mem hem
        obtain ⟨n1, hn1⟩ : ∃ n1, eL.length = n1 + 1 := ⟨eL.length - 1, by omega⟩
        have HN1 : Hid (eL.length = n1 + 1) := hn1
        rw [hn1] at k0 k1 hgm
        rw [Nat.add_sub_cancel] at k1
        have d1 := HBC.out w3 HX1.out.1
        have i1' : IntKind.i64.wrap ((n1 : Int) + 1 - 1) = (n1 : Int) := (wrap_small (by omega) (by omega)).trans (by omega)
        have hati : (at_ : Int) < (E.length : Int) := by omega
        have hn1i : (n1 : Int) < (n1 : Int) + 1 := by omega
        have hn1n : n1 < n1 + 1 := by omega
        have HDBG : Hid (ge ≠ db) := fun q => HX1.out.2 _ hem (by rw [q])
        have HSBG : Hid (ge ≠ sb) := fun q => HSB.out _ hem (by rw [q])
        clear hin ha1 ha2 eb HC0 hrcell hrfree hecell q ht htl hre hem hpos he hn1
        go_upto_region 16 with fail
        by_cases hle : t.ly = d.ly
        · have hle2 : ((t.ly : Int) == (d.ly : Int)) = true := by rw [beq_iff_eq, hle]
          have HGN : Hid (PlI (pls E) (K.take j) (kk.take (k + 1)) ∧ gat E ≤ kc (K.take j) + (k + 1)) := by
            obtain ⟨e1, e2, e3⟩ := HS2.out
            rw [take_snocF HS1.out]
            refine ⟨HG.out.1.old (pls_get HE.out) HTL.out (hle.trans e3.symm) fun q hq r hr => ?_, by have := HG.out.2; omega⟩
            obtain ⟨i2, hi2⟩ := List.getElem?_of_mem hq
            rw [List.getElem?_take] at hi2
            split at hi2
            · rename_i hi3
              obtain ⟨d2, hd2⟩ : ∃ d2, D[i2]? = some d2 := ⟨_, List.getElem?_eq_getElem (by rw [HN.out]; omega)⟩
              obtain ⟨k2, hk2, hk3⟩ := HK.out i2 d2 hd2
              rw [hi2] at hk2
              cases hk2
              obtain ⟨i4, hi4⟩ := List.getElem?_of_mem hr
              have hi5 := (List.getElem?_eq_some_iff.1 hi4).1
              obtain ⟨p2, hp2⟩ : ∃ p2, d2.x.dirKs[i4]? = some p2 := ⟨_, List.getElem?_eq_getElem (by rw [← hk3.1]; exact hi5)⟩
              obtain ⟨_, _, s2, _, f1, _, _, f2, _⟩ := hk3.2 i4 p2 hp2
              rw [hi4] at f1
              cases f1
              show s2.ly ≠ s.ly
              rw [f2, e3]
              exact HLY.out i2 j d2 d hd2 HD0.out (by omega)
            · cases hi2
          have HPN : Hid (∀ q, PlJ w (w3.drewN q) w.heap.size (.slice (some ⟨rb, 0, none⟩) E.length uc) E) := fun q => HP1.out.keep (bdN (Below.refl _ _) q)
          have HXN : Hid _ := HX1.out
          clear HG HP1 HX1 HDM HTM HRE HTL HE HFR HSB HSBE hblk
          go_quiet (fail)
          go_wp2
          go_roundw
          case rel => exact ⟨k + 1, E, by omega, by go_num, HGN.out, HPN.out _, HXN.out⟩
          case measure => (simp [intOf]; try omega)
        · have hle2 : ((t.ly : Int) == (d.ly : Int)) = false := by rw [beq_eq_false_iff_ne]; omega
          go_quiet (fail)
          have hbq : Below w3.heap.size w3 (w3.drewN nq) := bdN (Below.refl _ _) nq
          have HP2 : Hid _ := HP1.out.keep hbq
          have HX2 : Hid ((w3.drewN nq).heap[db]? = some (.cells #[.pointer (some ⟨d.b, d.p, none⟩), .int .i64 d.ly] 59 (0, 0)) ∧ ∀ e ∈ E, e.a ≠ some ⟨db, 0, none⟩) := HX1.out
          have sb0 : (w3.drewN nq).cell? ⟨sb, 0, none⟩ = some (.pointer (some ⟨kb, ko + k * 9 + 1, none⟩)) := sb0
          have sb1 : (w3.drewN nq).cell? ⟨sb, 1, none⟩ = some (.int .i64 d.ly) := sb1
          have k0 : (w3.drewN nq).cell? ⟨rb, at_ * 2 + 1, none⟩ = some (.slice (some ⟨ge, 0, none⟩) (n1 + 1) _) := k0
          have kf : (w3.drewN nq).frozen? ⟨rb, at_ * 2 + 1, none⟩ = false := HFR.out _
          have hrb3 : rb < (w3.drewN nq).heap.size := hrb2
          clear HP1 HX1 HDM HTM HRE HFR d1 k1 hblk HSB HSBE hbq
          generalize w3.drewN nq = w4 at HP2 HX2 sb0 sb1 k0 kf hrb3 ⊢
          have hre2 := HP2.out.each _ (List.mem_of_getElem? HE.out)
          dsimp only at hre2
          rw [HN1.out] at hre2
          have hrbg : rb ≠ ge := fun q => by
            rcases rows_ne (show 92 ≠ 59 by decide) HP2.out.row hre2 with e1 | e1
            · cases e1
            · exact e1 (by show some rb = some ge; rw [q])
          have HROW : Hid _ := hre2.alloc (.cells #[.pointer (some ⟨kb, ko + k * 9 + 1, none⟩), .int .i64 d.ly] 59)
          have hbase : w.heap.size ≤ (w4.alloc (.cells #[.pointer (some ⟨kb, ko + k * 9 + 1, none⟩), .int .i64 d.ly] 59)).heap.size := by rw [World.size_alloc]; have := HP2.out.low.size; omega
          have HSRC : Hid (∀ q u, (flatS [s])[q]? = some u → (w4.alloc (.cells #[.pointer (some ⟨kb, ko + k * 9 + 1, none⟩), .int .i64 d.ly] 59)).cell? ((⟨w4.heap.size, 0, none⟩ : Addr).add q) = some u) := by
            obtain ⟨e1, e2, e3⟩ := HS2.out
            have := cell_two_new w4 (.pointer (some ⟨kb, ko + k * 9 + 1, none⟩)) (.int .i64 d.ly) 59
            show ∀ q u, [Value.pointer (some ⟨s.b, s.p, none⟩), Value.int .i64 s.ly][q]? = some u → _
            rw [e1, e2, e3]; exact this
          have HON : Hid (∀ u ∈ flatS [s], u.oneCell' = true) := fun u hu => by
            simp [flatS] at hu
            rcases hu with rfl | rfl <;> rfl
          have k3 := mle_below ((Below.refl _ w4).alloc (Nat.le_refl _) (.cells #[.pointer (some ⟨kb, ko + k * 9 + 1, none⟩), .int .i64 d.ly] 59)) _ _ k0
          have kf3 := (((Below.refl _ w4).alloc (Nat.le_refl _) (.cells #[.pointer (some ⟨kb, ko + k * 9 + 1, none⟩), .int .i64 d.ly] 59)).frozen (p := ⟨rb, at_ * 2 + 1, none⟩) hrb3).trans kf
          clear hre2 k0 kf
          go_wp2_with (at_builtin; refine wpList_append_src _ rfl (.tmp 77) (.tmp 79) 55 rfl w.heap.size 59 i1 (.agg #[.pointer none, .int .i64 0]) 2 16 Tryz.underlying55 HJ0.out HJ1.out HJ2.out HJ3.out rfl (by decide) _ (n1 + 1) (flatS eL) rfl HROW.out (some ⟨w4.heap.size, 0, none⟩) 1 1 (flatS [s]) rfl rfl (.inr ⟨_, rfl, HSRC.out⟩) HON.out (by unfold maxLen; omega) (by omega) hbase ?_)
          intro v6 w6 hown6 hg6 ho6
          obtain ⟨a6, c6, hv6, _, _, _⟩ := owns_cells hown6
          subst hv6
          have k6 := hg6.cell k3 (by simpa [Value.ownBlock] using hrbg)
          have kf6 : w6.frozen? ⟨rb, at_ * 2 + 1, none⟩ = false := (World.frozen?_of_block (hg6.block rb (by rw [World.size_alloc]; omega) (by simpa [Value.ownBlock] using hrbg))).trans kf3
          have HPN : Hid (PlJ w (w6.setCell ⟨rb, at_ * 2 + 1, none⟩ (.slice a6 (n1 + 1 + 1) c6)) w.heap.size (.slice (some ⟨rb, 0, none⟩) E.length uc) (E.set at_ ⟨en, a6, c6, eL ++ [s]⟩)) := by
            obtain ⟨e1, e2, e3⟩ := HS2.out
            have e4 := HN1.out
            have h1 := HP2.out.add (s := s) (a2 := a6) (c2 := c6) HE.out (W2 := w6) (by show World.ownsRow _ _ _ _ (.slice a6 (eL.length + 1) c6) (eL.length + 1) _; rw [e4]; exact hown6) (by rw [e1, e2, e3]; exact hg6) (by rw [World.size_alloc]; dsimp only; rw [e4]; exact ho6)
            dsimp only at h1
            rw [e4] at h1
            exact h1
          have HXN : Hid ((w6.setCell ⟨rb, at_ * 2 + 1, none⟩ (.slice a6 (n1 + 1 + 1) c6)).heap[db]? = some (.cells #[.pointer (some ⟨d.b, d.p, none⟩), .int .i64 d.ly] 59 (0, 0)) ∧ ∀ e ∈ E.set at_ ⟨en, a6, c6, eL ++ [s]⟩, e.a ≠ some ⟨db, 0, none⟩) := by
            have hdl := (Array.getElem?_eq_some_iff.1 HX2.out.1).1
            have hdr : db ≠ rb := fun q => by
              rcases HP2.out.row.2 with ⟨e1, _⟩ | ⟨g, cap, cur, e1, _, hg, _⟩
              · cases e1
              · simp only [Value.slice.injEq, Option.some.injEq, Addr.mk.injEq] at e1
                rw [← e1.1.1, ← q, HX2.out.1] at hg
                simp at hg
            refine ⟨?_, fun f hf q => ?_⟩
            · rw [Below.heap_setCell _ _ _ _ (by exact hdr), hg6.block db (by rw [World.size_alloc]; omega) (by simpa [Value.ownBlock] using fun q => HDBG.out q.symm), Below.heap_alloc _ _ _ hdl]
              exact HX2.out.1
            · obtain ⟨i2, hi2⟩ := List.getElem?_of_mem hf
              rw [List.getElem?_set] at hi2
              split at hi2
              · cases hi2
                dsimp only at q
                subst q
                simp only [Value.ownBlock, Option.some.injEq] at ho6
                rcases ho6 with q | q
                · exact HDBG.out q.symm
                · omega
              · exact HX2.out.2 f (List.mem_of_getElem? hi2) q
          have HGN : Hid (PlI (pls (E.set at_ ⟨en, a6, c6, eL ++ [s]⟩)) (K.take j) (kk.take (k + 1)) ∧ gat (E.set at_ ⟨en, a6, c6, eL ++ [s]⟩) ≤ kc (K.take j) + (k + 1)) := by
            obtain ⟨e1, e2, e3⟩ := HS2.out
            rw [pls_set, take_snocF HS1.out, gat_set HE.out (by simp)]
            refine ⟨HG.out.1.add (pls_get HE.out) (fun t2 ht2 q => ?_) (fun r hr => ?_), by have := HG.out.2; omega⟩
            · rw [HTL.out] at ht2
              cases ht2
              exact hle (q.trans e3)
            · rw [e3]
              obtain ⟨i4, hi4⟩ := List.getElem?_of_mem (List.mem_of_mem_take hr)
              have hi5 := (List.getElem?_eq_some_iff.1 hi4).1
              obtain ⟨p2, hp2⟩ : ∃ p2, d.x.dirKs[i4]? = some p2 := ⟨_, List.getElem?_eq_getElem (by rw [← HKK.out.2.1]; exact hi5)⟩
              obtain ⟨_, _, s2, _, f1, _, _, f2, _⟩ := HKK.out.2.2 i4 p2 hp2
              rw [hi4] at f1
              cases f1
              exact f2
          clear hown6 hg6 ho6 HROW HSRC HON k3 kf3 HP2 HX2 HG hbase sb0 sb1
          go_wp2
          go_roundw
          case rel => exact ⟨k + 1, _, by omega, by go_num, HGN.out, HPN.out, HXN.out⟩
          case measure => (simp [intOf]; try omega)
end Go.Proofs.YtlbabnffiibnpaaGreat
