/-
  THE DOCUMENT's List: the walk.
-/
import Derived.Test.YtgmeecfdkcbggaaGgY
namespace Go.Proofs.Ytgmeecfdkcbggaa
open Go.RowKit Go.Shelf
set_option maxRecDepth 100000 in
set_option maxHeartbeats 2000000 in
theorem rlist_any {w : World} {S : Nat → Bool} {a : Option Addr} {cap : Nat} {xs : List Nd} {an : Option Addr} {capn : Nat} {names : List ByteArray} (hx : NsV (offS w.cell? S) a xs) (hs : Strs w.cell? an names) (hok : LaysOk xs) (hln : names.length ≤ 900) (_hcn : names.length ≤ capn ∧ capn ≤ 9223372036854775807) :
    Calls Try.prog 16 #[.slice a xs.length cap, .slice an names.length capn] w fun e w' => (∃ a' cap', e = .returned (.slice a' (listP (stackP xs names)).length cap') ∧ (listP (stackP xs names)).length ≤ cap' ∧ cap' ≤ 9223372036854775807 ∧ ∀ S' : Nat → Bool, (∀ k, S' k = true → k < w.heap.size) → Strs (offS w'.cell? S') a' (listP (stackP xs names))) ∧ Below w.heap.size w w' := by
  have HX : Hid (NsV (offS w.cell? S) a xs) := hx
  have HS : Hid (Strs w.cell? an names) := hs
  have HOK : Hid (LaysOk xs) := hok
  have HST0 : Hid (Calls Try.prog 25 #[.slice a xs.length cap, .slice an names.length capn, .bool false] w fun e w' => ∃ v, e = .returned v ∧ FlL w.heap.size w'.cell? (offS w.cell? S) v (stackP xs names) ∧ Below w.heap.size w w') := by
    have e := rstack_any (cap := cap) (capn := capn) hx hs hok.len (by omega) hok.small false
    rw [stackB_no xs names _ (Nat.le_refl _), List.take_length] at e
    exact e
  have HTOT : Hid (tot (stackP xs names) ≤ 1000) := by
    show _ ≤ _
    by_cases ht : stackP xs names = []
    · rw [ht]; exact Nat.zero_le _
    · exact (hok.stack names ht).tot
  obtain ⟨i0, hi0, hi1, hi2, hi3⟩ := info_three Try.infoStr
  have HI0 : Hid _ := hi0
  have HI1 : Hid _ := hi1
  have HI2 : Hid _ := hi2
  have HI3 : Hid _ := hi3
  clear hi0 hi1 hi2 hi3 hx hs hok
  obtain ⟨st, HSTK⟩ : ∃ st, Hid (stackP xs names = st) := ⟨_, rfl⟩
  rw [HSTK.out] at HST0 HTOT ⊢
  go_enter Try.func16, Try.ntmps16
  go_wp2_with fail
  refine Calls.mono HST0.out ?_
  rintro e w1 ⟨v, rfl, hv, hB1⟩
  obtain ⟨fa, fc, F, rfl, g1, g2, g3, g4, g5⟩ := hv
  obtain ⟨NF, HNF⟩ : ∃ n, Hid (F.length = n) := ⟨_, rfl⟩
  have HFR : Hid (FlRow w.heap.size w1.cell? fa F) := g3
  have HFN : Hid (∀ f ∈ F, NdV (offS w.cell? S) f.x f.h) := g4
  have HFP : Hid (F.map Fl.pr = st) := g5
  have HB1 : Hid (Below w.heap.size w w1) := hB1
  rw [HNF.out] at g1 ⊢
  have hNF : NF ≤ 1000 := by
    have h1 := len_tot st
    have h2 := HTOT.out
    rw [← HFP.out, List.length_map, HNF.out] at h1
    rw [← HFP.out] at h2
    omega
  clear g3 g4 g5 HST0 hB1
  go_wp2
  go_loopw [6, 7] (fun v i wr => ∃ (j : Nat) (O : List ByteArray), j ≤ NF ∧ i = .int .i64 j ∧ Hid (wr.ownsRow w1.heap.size 9 1 v O.length (strL O)) ∧ Hid (O = lstF st [] (kNms (st.take j))) ∧ Hid (Below w1.heap.size w1 wr)) (fun _ i _ => NF - (intOf i).toNat)
  case atStart => exact ⟨0, [], Nat.zero_le _, rfl, World.ownsRow_nil _ _ _ _, rfl, Below.refl _ _⟩
  case round =>
    obtain ⟨j, O, hj, rfl, HR, HO, HB⟩ := hrel
    by_cases hjl : j < NF
    rotate_left
    · obtain rfl : j = NF := by omega
      have hji : decide ((j : Int) < (j : Int)) = false := decide_eq_false (by omega)
      have hO : O = listP st := by
        have h1 := HO.out
        rw [List.take_of_length_le (by rw [← HFP.out, List.length_map, HNF.out]; omega)] at h1
        exact h1
      subst hO
      obtain ⟨ga, gc, hu6, hgc1, hgc2, hgcase⟩ := owns_cells HR.out
      have HSF : Hid (∀ S' : Nat → Bool, (∀ k, S' k = true → k < w.heap.size) → Strs (offS wr.cell? S') ga (listP st)) := fun S' hS' => by
        rcases hgcase with ⟨_, h0, _⟩ | ⟨g, e, hg0, _, h, _⟩
        · exact .inl (List.eq_nil_of_length_eq_zero h0)
        · refine .inr ⟨g, 0, e, fun j x hj => ?_⟩
          rw [offS_ne, Nat.zero_add]
          · exact h j _ (by unfold strL; rw [List.getElem?_map, hj]; rfl)
          · show S' g = false
            cases hh : S' g with
            | false => rfl
            | true => have := hS' g hh; have := Below.size HB1.out; omega
      clear hgcase
      go_wp2
      go_ret
      exact ⟨⟨ga, gc, by rw [hu6]; rfl, hgc1, hgc2, HSF.out⟩, Below.trans HB1.out (Below.mono HB.out (Below.size HB1.out))⟩
    have hji : decide ((j : Int) < (NF : Int)) = true := decide_eq_true (by omega)
    have hji2 : (j : Int) < (NF : Int) := by omega
    obtain ⟨f, hf⟩ : ∃ f, F[j]? = some f := ⟨_, List.getElem?_eq_getElem (by rw [HNF.out]; exact hjl)⟩
    obtain ⟨fb, fo, rfl, hfl⟩ : ∃ b off, fa = some ⟨b, off, none⟩ ∧ ∀ i f, F[i]? = some f → FlAt w1.cell? b (off + i * 9) f := by
      rcases HFR.out with e | ⟨b, off, e, _, h⟩
      · rw [e] at hf; simp at hf
      · exact ⟨b, off, e, h⟩
    have hfa := (hfl j f hf).1
    have hfn := HFN.out f (List.mem_of_getElem? hf)
    have HFS : Hid (st[j]? = some f.pr) := by show _ = _; rw [← HFP.out, List.getElem?_map, hf]; rfl
    obtain ⟨x, hh, ly⟩ := f
    obtain ⟨k, m, u, g, o, at_, d, ks⟩ := x
    dsimp only at hfa hfn
    obtain ⟨_, _, _, _, _, _, _, c7⟩ := hfa
    have HKV : Hid (KsV w.cell? hh.ak ks) := ((ndV_iff.1 hfn).2.2.2).on (offS_le _ _)
    have HC7 : Hid (w1.cell? ⟨fb, fo + j * 9 + 7, none⟩ = some (.slice hh.ak ks.length hh.ck)) := c7
    obtain ⟨NK, HNK⟩ : ∃ n, Hid (ks.length = n) := ⟨_, rfl⟩
    rw [HNK.out] at HC7
    have hNK : NK ≤ 1000 := by
      have h1 : cnt (Nd.mk k m u g o at_ d ks) ≤ tot st := cnt_tot (q := (Nd.mk k m u g o at_ d ks, ly)) (List.mem_of_getElem? HFS.out)
      have h2 := HTOT.out
      have h3 := cntL_len ks
      rw [cnt] at h1
      rw [HNK.out] at h3
      omega
    clear hf hfl hfn c7
    go_wp2
    go_loopw [6, 8] (fun v i wr => ∃ (q : Nat) (P : List ByteArray), q ≤ NK ∧ i = .int .i64 q ∧ Hid (wr.ownsRow w1.heap.size 9 1 v P.length (strL P)) ∧ Hid (P = lstF st O ((ks.map (·.1)).take q)) ∧ Hid (Below w1.heap.size w1 wr)) (fun _ i _ => NK - (intOf i).toNat)
    case atStart => exact ⟨0, O, Nat.zero_le _, rfl, HR.out, rfl, HB.out⟩
    case round =>
      clear HB HR
      obtain ⟨q, P, hq, rfl, HR, HP, HB⟩ := hrel
      have c7 := mle_below HB.out _ _ HC7.out
      by_cases hql : q < NK
      rotate_left
      · obtain rfl : q = NK := by omega
        have hqi : decide ((q : Int) < (q : Int)) = false := decide_eq_false (by omega)
        rw [List.take_of_length_le (by rw [List.length_map, HNK.out]; omega)] at HP
        have HNX : Hid (P = lstF st [] (kNms (st.take (j + 1)))) := by
          show _ = _
          have e : kNms (st.take (j + 1)) = kNms (st.take j) ++ ks.map (·.1) := by
            rw [List.take_add_one, HFS.out]
            unfold kNms
            rw [List.flatMap_append]
            simp [Fl.pr, Nd.kids]
          rw [e, lstF_app, ← HO.out]
          exact HP.out
        go_wp2
        go_roundw
        case rel => exact ⟨j + 1, P, by omega, by go_num, HR.out, HNX.out, HB.out⟩
        case measure => (simp [intOf]; try omega)
      have hqi : decide ((q : Int) < (NK : Int)) = true := decide_eq_true (by omega)
      have hqi2 : (q : Int) < (NK : Int) := by omega
      obtain ⟨⟨nm, y⟩, hky⟩ : ∃ p, ks[q]? = some p := ⟨_, List.getElem?_eq_getElem (by rw [HNK.out]; exact hql)⟩
      obtain ⟨kb, ko, hak, hkc⟩ : ∃ b off, hh.ak = some ⟨b, off, none⟩ ∧ ∀ i n x, ks[i]? = some (n, x) → w.cell? ⟨b, off + i * 9, none⟩ = some (.string n) := by
        rcases HKV.out with e | ⟨b, off, e, f, h⟩
        · rw [e] at hky; simp at hky
        · exact ⟨b, off, e, fun i n x hi => (h i n x hi).1.1⟩
      have kn := mle_below HB.out _ _ (mle_below HB1.out _ _ (hkc q nm y hky))
      rw [hak] at c7
      have HNM : Hid ((ks.map (·.1)).take (q + 1) = (ks.map (·.1)).take q ++ [nm]) := by
        show _ = _
        rw [List.take_add_one, List.getElem?_map, hky]
        rfl
      have HPL : Hid (P.length ≤ 1000) := by
        show _ ≤ _
        have h1 := lstF_len st ((ks.map (·.1)).take q) O
        have h2 := lstF_len st (kNms (st.take j)) []
        have h3 : (kNms (st.take (j + 1))).length ≤ tot (st.take (j + 1)) := kNms_tot _
        have h4 : tot (st.take (j + 1)) ≤ tot st := by
          have e := tot_app (st.take (j + 1)) (st.drop (j + 1))
          rw [List.take_append_drop] at e
          omega
        have h5 : (kNms (st.take (j + 1))).length = (kNms (st.take j)).length + ks.length := by
          rw [List.take_add_one, HFS.out]
          unfold kNms
          rw [List.flatMap_append, List.length_append]
          simp [Fl.pr, Nd.kids]
        have h6 := HTOT.out
        rw [← HP.out] at h1
        rw [← HO.out] at h2
        simp at h1 h2
        rw [HNK.out] at h5
        omega
      clear hky hkc hak
      have HSRC : Hid ((an = none ∧ names.length = 0) ∨ ∃ ad, an = some ad ∧ ∀ j u, (strL names)[j]? = some u → wr.cell? (ad.add j) = some u) := by
        rcases HS.out with e | ⟨b, off, e, h⟩
        · cases han : an with
          | none => exact .inl ⟨rfl, by rw [e]; rfl⟩
          | some ad => exact .inr ⟨ad, rfl, fun j u hj => by rw [e] at hj; simp [strL] at hj⟩
        · refine .inr ⟨_, e, fun j u hj => ?_⟩
          unfold strL at hj
          rw [List.getElem?_map] at hj
          obtain ⟨s, hs, rfl⟩ := Option.map_eq_some_iff.1 hj
          rw [addr_add]
          exact mle_below HB.out _ _ (mle_below HB1.out _ _ (h j s hs))
      have hlS : (strL names).length = names.length * 1 := by rw [strL_len, Nat.mul_one]
      have hsz : w1.heap.size ≤ wr.heap.size := Below.size HB.out
      obtain ⟨ga, gc, hu6, hgc1, hgc2, hgcase⟩ := owns_cells HR.out
      subst hu6
      have HG : Hid (P = [] ∨ ∃ g, ga = some ⟨g, 0, none⟩ ∧ ∀ (j : Nat) x, P[j]? = some x → wr.cell? ⟨g, j, none⟩ = some (.string x)) := by
        rcases hgcase with ⟨_, h0, _⟩ | ⟨g, e, _, _, h, _⟩
        · exact .inl (List.eq_nil_of_length_eq_zero h0)
        · exact .inr ⟨g, e, fun j x hj => h j _ (by unfold strL; rw [List.getElem?_map, hj]; rfl)⟩
      have HGA0 : Hid ((ga = none ∧ P = [] ∧ gc = 0) ∨ ∃ g, ga = some ⟨g, 0, none⟩ ∧ ∀ (j : Nat) x, P[j]? = some x → wr.cell? ⟨g, j, none⟩ = some (.string x)) := by
        rcases hgcase with ⟨e, h0, _, h3⟩ | ⟨g, e, _, _, h, _⟩
        · exact .inl ⟨e, List.eq_nil_of_length_eq_zero h0, h3⟩
        · exact .inr ⟨g, e, fun j x hj => h j _ (by unfold strL; rw [List.getElem?_map, hj]; rfl)⟩
      clear hgcase
      go_upto_region 10 with fail
      go_wp2_with (at_builtin; refine wpList_append_src wr rfl (.const (.slice none 0 0)) (.tmp 42) 23 rfl wr.heap.size 9 i0 (.string ⟨#[]⟩) 1 16 Try.underlying23 HI0.out HI1.out HI2.out HI3.out rfl (by decide) (.slice none 0 0) 0 [] rfl (World.ownsRow_nil _ _ _ _) an names.length capn (strL names) rfl hlS HSRC.out (strL_one _) (by unfold maxLen; omega) (by omega) (Nat.le_refl _) ?_)
      intro v8 w8 hown8 hgr8 ho8
      have hb8 := grown_noneG hgr8
      have HOWN8 : Hid _ := hown8
      have hsz8 := hb8.size
      clear hown8 hgr8 ho8 hlS
      go_wp2_with (at_builtin; refine wpList_append_src (w8.alloc (.cells #[.string nm] 9)) rfl (.tmp 43) (.tmp 45) 23 rfl wr.heap.size 9 i0 (.string ⟨#[]⟩) 1 16 Try.underlying23 HI0.out HI1.out HI2.out HI3.out rfl (by decide) v8 names.length (strL names) rfl (World.ownsRow.alloc HOWN8.out _) (some ⟨w8.heap.size, 0, none⟩) 1 1 (strL [nm]) rfl rfl (.inr ⟨_, rfl, fun q t hq => by rw [addr_add, Nat.zero_add]; refine (World.cell?_alloc_at _ _ _ _ rfl).trans ?_; simpa [strL] using hq⟩) (strL_one _) (by unfold maxLen; omega) (by omega) (by rw [World.size_alloc]; omega) ?_)
      intro v9 w9 hown9 hgr9 ho9
      have hall := (Below.refl wr.heap.size w8).alloc hsz8 (.cells #[.string nm] 9)
      have hb9 : Below wr.heap.size wr w9 := (hb8.trans hall).grown hgr9 (by rw [World.size_alloc]; omega) (fun g e => (World.ownsRow.lt HOWN8.out g e).1)
      have HOWN9 : Hid (w9.ownsRow wr.heap.size 9 1 v9 (names ++ [nm]).length (strL (names ++ [nm]))) := by
        have e : strL (names ++ [nm]) = strL names ++ strL [nm] := List.map_append
        show World.ownsRow ..
        rw [e, List.length_append]
        exact hown9
      obtain ⟨da, dc, hv9, hd1, hd2, hdcase⟩ := owns_cells HOWN9.out
      subst hv9
      have HDS : Hid (Strs w9.cell? da (names ++ [nm])) := by
        rcases hdcase with ⟨_, h0, _⟩ | ⟨g, e, _, _, h, _⟩
        · exact .inl (List.eq_nil_of_length_eq_zero h0)
        · exact .inr ⟨g, 0, e, fun j x hj => by rw [Nat.zero_add]; exact h j _ (by unfold strL; rw [List.getElem?_map, hj]; rfl)⟩
      have HG9 : Hid (P = [] ∨ ∃ g, ga = some ⟨g, 0, none⟩ ∧ ∀ (j : Nat) x, P[j]? = some x → w9.cell? ⟨g, j, none⟩ = some (.string x)) := by
        rcases HG.out with e | ⟨g, e, h⟩
        · exact .inl e
        · exact .inr ⟨g, e, fun j x hj => mle_below hb9 _ _ (h j x hj)⟩
      have HGA : Hid ((ga = none ∧ P = [] ∧ gc = 0) ∨ ∃ g, ga = some ⟨g, 0, none⟩ ∧ ∀ (j : Nat) x, P[j]? = some x → w9.cell? ⟨g, j, none⟩ = some (.string x)) := by
        rcases HGA0.out with e | ⟨g, e, h⟩
        · exact .inl e
        · exact .inr ⟨g, e, fun j x hj => mle_below hb9 _ _ (h j x hj)⟩
      have HR9 : Hid (w9.ownsRow w1.heap.size 9 1 (.slice ga P.length gc) P.length (strL P)) := ownsRow_bel HR.out hb9
      have HB9 : Hid (Below w1.heap.size w1 w9) := (Below.trans HB.out (hb9.mono hsz))
      obtain ⟨PP, HPP⟩ : ∃ n, Hid (ahd nm P = n) := ⟨_, rfl⟩
      have hPP : PP ≤ P.length := by rw [← HPP.out]; exact ahd_le nm P
      have hln9 : (names ++ [nm]).length = names.length + 1 := by simp
      have hPl := HPL.out
      rw [hln9]
      clear hall hown9 hgr9 ho9 hdcase HOWN8 hb8 HG HR HB c7 kn hqi hqi2
      have HST2 : Hid (Calls Try.prog 25 #[.slice a xs.length cap, .slice da (names.length + 1) dc, .bool false] w9 fun e w' => ∃ v, e = .returned v ∧ FlL w9.heap.size w'.cell? (offS w9.cell? S) v (nxt st nm) ∧ Below w9.heap.size w9 w') := by
        have hw9 := Below.trans HB1.out (Below.mono HB9.out (Below.size HB1.out))
        have e := rstack_any (w := w9) (S := S) (cap := cap) (capn := dc) (names := names ++ [nm]) (HX.out.on (mle_S hw9)) HDS.out HOK.out.len (by simp; omega) HOK.out.small false
        rw [stackB_no xs _ _ (Nat.le_refl _), List.take_length, stackP_snoc, HSTK.out, hln9] at e
        exact e
      clear hln9 HDS
      go_wp2
      go_loopw [11] (fun p wr2 => ∃ r : Nat, r ≤ PP ∧ p = .int .i64 r ∧ wr2 = w9) (fun p _ => PP - (intOf p).toNat)
      case atStart => exact ⟨0, Nat.zero_le _, rfl, rfl⟩
      case round =>
        obtain ⟨r, hr, rfl, hwe⟩ := hrel
        subst hwe
        by_cases hrl : r < PP
        · obtain ⟨x, hxp⟩ : ∃ x, P[r]? = some x := ⟨_, List.getElem?_eq_getElem (by omega)⟩
          obtain ⟨gg, rfl, hgc⟩ : ∃ g, ga = some ⟨g, 0, none⟩ ∧ _ := HG9.out.resolve_left (fun e => by rw [e] at hxp; simp at hxp)
          have cx := hgc r x hxp
          have d1 : decide ((r : Int) < (P.length : Int)) = true := decide_eq_true (by omega)
          have d2 : (r : Int) < (P.length : Int) := by omega
          have hbl : Op.bytesLess x.toList nm.toList = true := ahd_lt nm hxp (by rw [HPP.out]; exact hrl)
          clear hgc
          go_wp2
          go_roundw
          case rel => exact ⟨r + 1, by omega, by go_num, by first | rfl | trivial⟩
          case measure => (simp [intOf]; try omega)
        · obtain rfl : r = PP := by omega
          by_cases hpl : r < P.length
          · obtain ⟨x, hxp⟩ : ∃ x, P[r]? = some x := ⟨_, List.getElem?_eq_getElem hpl⟩
            obtain ⟨gg, rfl, hgc⟩ : ∃ g, ga = some ⟨g, 0, none⟩ ∧ _ := HG9.out.resolve_left (fun e => by rw [e] at hxp; simp at hxp)
            have cx := hgc r x hxp
            have d1 : decide ((r : Int) < (P.length : Int)) = true := decide_eq_true (by omega)
            have d2 : (r : Int) < (P.length : Int) := by omega
            have hbl : Op.bytesLess x.toList nm.toList = false := ahd_at nm (by rw [HPP.out]; exact hxp)
            have HGC : Hid _ := hgc
            clear hgc
            go_wp2_with fail
            refine Calls.mono HST2.out ?_
            rintro e w10 ⟨v10, rfl, hv10, hB10⟩
            obtain ⟨a10, c10, F10, rfl, _, _, _, _, g10⟩ := hv10
            have HB10 : Hid (Below w1.heap.size w1 w10) := Below.trans HB9.out (hB10.mono (Below.size HB9.out))
            cases F10 with
            | nil =>
              have hnx : nxt st nm = [] := g10.symm
              clear HST2
              go_wp2
              go_roundw
              case rel => exact ⟨q + 1, P, by omega, by go_num, ownsRow_bel HR9.out hB10, (by rw [HNM.out, lstF_snoc, ← HP.out]; rw [hnx]; rfl), Below.trans HB9.out (hB10.mono (Below.size HB9.out))⟩
              case measure => (simp [intOf]; try omega)
            | cons f10 F10 =>
              have hnx : (nxt st nm).isEmpty = false := by rw [← g10]; rfl
              have hnz : ((F10.length : Int) + 1 == 0) = false := by simp; omega
              have hrp : r ≤ P.length := by omega
              clear HST2
              have cx10 := mle_below hB10 _ _ cx
              by_cases hxe : x = nm
              · subst hxe
                have hbe : (x.toList == x.toList) = true := by simp
                go_wp2
                go_roundw
                case rel => exact ⟨q + 1, P, by omega, by go_num, ownsRow_bel HR9.out hB10, (by rw [HNM.out, lstF_snoc, ← HP.out]; show _ = _; rw [if_neg (by rw [hnx]; simp), insU_ahd, if_pos (by rw [HPP.out]; exact hxp)]), Below.trans HB9.out (hB10.mono (Below.size HB9.out))⟩
                case measure => (simp [intOf]; try omega)
              · have hbe : (x.toList == nm.toList) = false := by rw [beq_eq_false_iff_ne]; exact fun e => hxe (toList_inj e)
                have HIN : Hid (insU nm P = P.take r ++ nm :: P.drop r) := by
                  show _ = _
                  rw [insU_ahd, HPP.out, if_neg (by rw [hxp]; simpa using hxe)]
                go_upto_region 15 with fail
                refine rl15 (P := P) (nm := nm) (gg := gg) (gc := gc) (r := r) (V := w10.drew) rfl (frame_at2 rfl) rfl rfl rfl (fun k x hk => mle_below hB10 _ _ (HGC.out k x hk)) hrp hgc1 hPl rfl ?_
                intro X W7 hown7 hb7 e9 e11 g0 g1 g2 g3 g4 g5 g7 g8 g10 g12 g13 g14 g15 g16 g17 g18 g19 g20 g21 g22 g23 g24 g25 g26 g27 g28 g29 g30 g31 g32 g33 g34 g35 g36 g37 g38 g39 g40 g41 g42 g43 g44 g45 g46 g47 g48 g49 g50 g51 g52 g53 g54 g55 g56 g57 g58 g59 g60 g61 g62 g63 g64 g65 g66 g67 g68 g69 g70 g71 g72 g73 g74 g75 g76 g77 g78 g79 g91
                have HO7 : Hid (W7.ownsRow w1.heap.size 9 1 (X 6) (P.take r ++ nm :: P.drop r).length (strL (P.take r ++ nm :: P.drop r))) := ins_own hown7 hrp (Nat.le_trans (Below.size HB9.out) hB10.size)
                have HB7 : Hid (Below w1.heap.size w1 W7) := Below.trans (Below.drew HB10.out) (Below.mono hb7 (show w1.heap.size ≤ w10.heap.size from Below.size HB10.out))
                clear hown7 hb7
                simp only [frm2, e9, e11, g0, g1, g2, g3, g4, g5, g7, g8, g10, g12, g13, g14, g15, g16, g17, g18, g19, g20, g21, g22, g23, g24, g25, g26, g27, g28, g29, g30, g31, g32, g33, g34, g35, g36, g37, g38, g39, g40, g41, g42, g43, g44, g45, g46, g47, g48, g49, g50, g51, g52, g53, g54, g55, g56, g57, g58, g59, g60, g61, g62, g63, g64, g65, g66, g67, g68, g69, g70, g71, g72, g73, g74, g75, g76, g77, g78, g79, g91]
                simp only [Array.getD_eq_getD_getElem?, List.getElem?_toArray, List.getElem?_cons_succ, List.getElem?_cons_zero, Option.getD_some]
                clear e9 e11 g0 g1 g2 g3 g4 g5 g7 g8 g10 g12 g13 g14 g15 g16 g17 g18 g19 g20 g21 g22 g23 g24 g25 g26 g27 g28 g29 g30 g31 g32 g33 g34 g35 g36 g37 g38 g39 g40 g41 g42 g43 g44 g45 g46 g47 g48 g49 g50 g51 g52 g53 g54 g55 g56 g57 g58 g59 g60 g61 g62 g63 g64 g65 g66 g67 g68 g69 g70 g71 g72 g73 g74 g75 g76 g77 g78 g79 g91
                go_wp2
                go_roundw
                case rel => exact ⟨q + 1, P.take r ++ nm :: P.drop r, by omega, by go_num, HO7.out, (by show _ = _; rw [HNM.out, lstF_snoc, ← HP.out, if_neg (by rw [hnx]; simp)]; exact HIN.out.symm), HB7.out⟩
                case measure => (simp [intOf]; try omega)
          · obtain rfl : r = P.length := by omega
            have d1 : decide ((P.length : Int) < (P.length : Int)) = false := decide_eq_false (by omega)
            go_wp2_with fail
            refine Calls.mono HST2.out ?_
            rintro e w10 ⟨v10, rfl, hv10, hB10⟩
            obtain ⟨a10, c10, F10, rfl, _, _, _, _, g10⟩ := hv10
            have HB10 : Hid (Below w1.heap.size w1 w10) := Below.trans HB9.out (hB10.mono (Below.size HB9.out))
            cases F10 with
            | nil =>
              have hnx : nxt st nm = [] := g10.symm
              clear HST2
              go_wp2
              go_roundw
              case rel => exact ⟨q + 1, P, by omega, by go_num, ownsRow_bel HR9.out hB10, (by rw [HNM.out, lstF_snoc, ← HP.out]; rw [hnx]; rfl), Below.trans HB9.out (hB10.mono (Below.size HB9.out))⟩
              case measure => (simp [intOf]; try omega)
            | cons f10 F10 =>
              have hnx : (nxt st nm).isEmpty = false := by rw [← g10]; rfl
              have hnz : ((F10.length : Int) + 1 == 0) = false := by simp; omega
              have hrp : P.length ≤ P.length := by omega
              clear HST2
              have HIN : Hid (insU nm P = P.take P.length ++ nm :: P.drop P.length) := by
                show _ = _
                rw [insU_ahd, HPP.out, if_neg (by rw [List.getElem?_eq_none (by omega)]; simp)]
              rcases HGA.out with ⟨hga, hP0, hgc0⟩ | ⟨gg, hga, hgcl⟩
              · subst hga hP0 hgc0
                go_upto_region 15 with fail
                refine rl15n (nm := nm) (V := w10.drew) rfl (frame_at2 rfl) rfl rfl rfl ?_
                intro X W7 hown7 hb7 e9 e11 g0 g1 g2 g3 g4 g5 g7 g8 g10 g12 g13 g14 g15 g16 g17 g18 g19 g20 g21 g22 g23 g24 g25 g26 g27 g28 g29 g30 g31 g32 g33 g34 g35 g36 g37 g38 g39 g40 g41 g42 g43 g44 g45 g46 g47 g48 g49 g50 g51 g52 g53 g54 g55 g56 g57 g58 g59 g60 g61 g62 g63 g64 g65 g66 g67 g68 g69 g70 g71 g72 g73 g74 g75 g76 g77 g78 g79 g91
                have HO7 : Hid (W7.ownsRow w1.heap.size 9 1 (X 6) (([] : List ByteArray).take 0 ++ nm :: ([] : List ByteArray).drop 0).length (strL (([] : List ByteArray).take 0 ++ nm :: ([] : List ByteArray).drop 0))) := ins_own hown7 hrp (Nat.le_trans (Below.size HB9.out) hB10.size)
                have HB7 : Hid (Below w1.heap.size w1 W7) := Below.trans (Below.drew HB10.out) (Below.mono hb7 (show w1.heap.size ≤ w10.heap.size from Below.size HB10.out))
                clear hown7 hb7
                simp only [frm2, e9, e11, g0, g1, g2, g3, g4, g5, g7, g8, g10, g12, g13, g14, g15, g16, g17, g18, g19, g20, g21, g22, g23, g24, g25, g26, g27, g28, g29, g30, g31, g32, g33, g34, g35, g36, g37, g38, g39, g40, g41, g42, g43, g44, g45, g46, g47, g48, g49, g50, g51, g52, g53, g54, g55, g56, g57, g58, g59, g60, g61, g62, g63, g64, g65, g66, g67, g68, g69, g70, g71, g72, g73, g74, g75, g76, g77, g78, g79, g91]
                simp only [Array.getD_eq_getD_getElem?, List.getElem?_toArray, List.getElem?_cons_succ, List.getElem?_cons_zero, Option.getD_some]
                clear e9 e11 g0 g1 g2 g3 g4 g5 g7 g8 g10 g12 g13 g14 g15 g16 g17 g18 g19 g20 g21 g22 g23 g24 g25 g26 g27 g28 g29 g30 g31 g32 g33 g34 g35 g36 g37 g38 g39 g40 g41 g42 g43 g44 g45 g46 g47 g48 g49 g50 g51 g52 g53 g54 g55 g56 g57 g58 g59 g60 g61 g62 g63 g64 g65 g66 g67 g68 g69 g70 g71 g72 g73 g74 g75 g76 g77 g78 g79 g91
                go_wp2
                go_roundw
                case rel => exact ⟨q + 1, ([] : List ByteArray).take 0 ++ nm :: ([] : List ByteArray).drop 0, by omega, by go_num, HO7.out, (by show _ = _; rw [HNM.out, lstF_snoc, ← HP.out, if_neg (by rw [hnx]; simp)]; exact HIN.out.symm), HB7.out⟩
                case measure => (simp [intOf]; try omega)
              · subst hga
                have HGC : Hid _ := hgcl
                clear hgcl
                go_upto_region 15 with fail
                refine rl15 (P := P) (nm := nm) (gg := gg) (gc := gc) (r := P.length) (V := w10.drew) rfl (frame_at2 rfl) rfl rfl rfl (fun k x hk => mle_below hB10 _ _ (HGC.out k x hk)) hrp hgc1 hPl rfl ?_
                intro X W7 hown7 hb7 e9 e11 g0 g1 g2 g3 g4 g5 g7 g8 g10 g12 g13 g14 g15 g16 g17 g18 g19 g20 g21 g22 g23 g24 g25 g26 g27 g28 g29 g30 g31 g32 g33 g34 g35 g36 g37 g38 g39 g40 g41 g42 g43 g44 g45 g46 g47 g48 g49 g50 g51 g52 g53 g54 g55 g56 g57 g58 g59 g60 g61 g62 g63 g64 g65 g66 g67 g68 g69 g70 g71 g72 g73 g74 g75 g76 g77 g78 g79 g91
                have HO7 : Hid (W7.ownsRow w1.heap.size 9 1 (X 6) (P.take P.length ++ nm :: P.drop P.length).length (strL (P.take P.length ++ nm :: P.drop P.length))) := ins_own hown7 hrp (Nat.le_trans (Below.size HB9.out) hB10.size)
                have HB7 : Hid (Below w1.heap.size w1 W7) := Below.trans (Below.drew HB10.out) (Below.mono hb7 (show w1.heap.size ≤ w10.heap.size from Below.size HB10.out))
                clear hown7 hb7
                simp only [frm2, e9, e11, g0, g1, g2, g3, g4, g5, g7, g8, g10, g12, g13, g14, g15, g16, g17, g18, g19, g20, g21, g22, g23, g24, g25, g26, g27, g28, g29, g30, g31, g32, g33, g34, g35, g36, g37, g38, g39, g40, g41, g42, g43, g44, g45, g46, g47, g48, g49, g50, g51, g52, g53, g54, g55, g56, g57, g58, g59, g60, g61, g62, g63, g64, g65, g66, g67, g68, g69, g70, g71, g72, g73, g74, g75, g76, g77, g78, g79, g91]
                simp only [Array.getD_eq_getD_getElem?, List.getElem?_toArray, List.getElem?_cons_succ, List.getElem?_cons_zero, Option.getD_some]
                clear e9 e11 g0 g1 g2 g3 g4 g5 g7 g8 g10 g12 g13 g14 g15 g16 g17 g18 g19 g20 g21 g22 g23 g24 g25 g26 g27 g28 g29 g30 g31 g32 g33 g34 g35 g36 g37 g38 g39 g40 g41 g42 g43 g44 g45 g46 g47 g48 g49 g50 g51 g52 g53 g54 g55 g56 g57 g58 g59 g60 g61 g62 g63 g64 g65 g66 g67 g68 g69 g70 g71 g72 g73 g74 g75 g76 g77 g78 g79 g91
                go_wp2
                go_roundw
                case rel => exact ⟨q + 1, P.take P.length ++ nm :: P.drop P.length, by omega, by go_num, HO7.out, (by show _ = _; rw [HNM.out, lstF_snoc, ← HP.out, if_neg (by rw [hnx]; simp)]; exact HIN.out.symm), HB7.out⟩
                case measure => (simp [intOf]; try omega)
end Go.Proofs.Ytgmeecfdkcbggaa
