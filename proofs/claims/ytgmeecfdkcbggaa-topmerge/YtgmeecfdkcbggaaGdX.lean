/-
  WHAT Look AND Flat ANSWER, IN ONE FORM; what is seen of layers laid flat.
  NAMES THAT ARE THE SAME: the walk.
  Lights, copies, sameNodes: the walks.
-/
import Derived.Test.YtgmeecfdkcbggaaFdX
import Derived.Test.YtgmeecfdkcbggaaFrY
import Derived.Test.YtgmeecfdkcbggaaMeX
import Derived.Test.YtgmeecfdkcbggaaFsX
import Derived.Deep.QuietTactic
import Derived.BigQuiet
import Derived.Test.YtgmeecfdkcbggaaWlY
import Derived.Test.YtgmeecfdkcbggaaFoX
import Derived.Test.YtgmeecfdkcbggaaWaY
import Derived.Test.YtgmeecfdkcbggaaFfX
import Derived.Test.YtgmeecfdkcbggaaMhX
import Derived.Test.YtgmeecfdkcbggaaNnX
import Derived.Test.YtgmeecfdkcbggaaApX
import Derived.Deep.RegionHeld3
import Derived.Deep.RegionLaw
import Derived.Deep.Cut
namespace Go.Proofs.Ytgmeecfdkcbggaa
open Go.RowKit
theorem nZ0 (c : Mem) : NdV c zN zH := ndV_iff.2 ⟨.inl rfl, ⟨Nat.le_refl _, by decide⟩, ⟨Nat.le_refl _, by decide⟩, .inl rfl⟩
def lkX : Fls → Nd
  | [] => zN
  | q :: _ => q.1
def lkL : Fls → Nat
  | [] => 0
  | q :: _ => q.2
def lkB : Fls → Bool
  | [] => false
  | _ :: _ => true
theorem look_one {w : World} {S : Nat → Bool} (hS0 : ∀ k, S k = true → k < w.heap.size) {a : Option Addr} {cap : Nat} {xs : List Nd} {an : Option Addr} {capn : Nat} {names : List ByteArray} (hx : NsV (offS w.cell? S) a xs) (hs : Strs (offS w.cell? S) an names) (hok : LaysOk xs) (hln : names.length ≤ 1000) :
    Calls Try.prog 9 #[.slice a xs.length cap, .slice an names.length capn] w fun e w' => (∃ h, e = .returned (.tuple #[ndV (lkX (stackP xs names)) h, .int .i64 (lkL (stackP xs names)), .bool (lkB (stackP xs names))]) ∧ NdV (offS w'.cell? S) (lkX (stackP xs names)) h) ∧ Below w.heap.size w w' := by
  refine Calls.mono (look_any (cap := cap) (capn := capn) hS0 hx hs hok.len hln hok.small hok.lim) fun e w' ⟨h, hB⟩ => ⟨?_, hB⟩
  cases hst : stackP xs names with
  | nil => rw [hst] at h; exact ⟨zH, h, nZ0 _⟩
  | cons q r => rw [hst] at h; exact h
theorem mflat_one {w : World} {S : Nat → Bool} (hS0 : ∀ k, S k = true → k < w.heap.size) {a : Option Addr} {cap : Nat} {xs : List Nd} (hx : NsV (offS w.cell? S) a xs) (hok : LaysOk xs) {fv : Value} {F : Nd → Nat → Nd} (hF : FnOk w fv F) :
    Calls Try.prog 17 #[.slice a xs.length cap, fv] w fun e w' => (∃ h, e = .returned (.tuple #[ndV (flatD F (shP (layP xs))) h, .bool (lkB (shP (layP xs)))]) ∧ NdV (offS w'.cell? S) (flatD F (shP (layP xs))) h) ∧ Below w.heap.size w w' := by
  refine Calls.mono (flat_any (cap := cap) hS0 hx hok.len hok.small hok.seen hF) fun e w' ⟨h, hB⟩ => ⟨?_, hB⟩
  rcases h with ⟨h1, h2⟩ | ⟨h1, hd, h2, h3⟩
  · rw [h1]; exact ⟨zH, h2, nZ0 _⟩
  · refine ⟨hd, ?_, h3⟩
    rw [h2]
    cases ht : shP (layP xs) with
    | nil => exact absurd ht h1
    | cons q r => rfl
theorem lkX_lim {xs : List Nd} (h : LaysOk xs) (names : List ByteArray) : Lim (lkX (stackP xs names)) := by
  have h1 := stackP_lim h.lim names
  cases hst : stackP xs names with
  | nil => exact (by show Lim zN; unfold zN; rw [Lim]; exact ⟨Nat.zero_le _, Nat.zero_le _, by rw [LimL]; trivial⟩)
  | cons q r => rw [hst] at h1; exact h1 q (List.mem_cons_self ..)
theorem look_flat {xs : List Nd} (hne : shP (layP xs) ≠ []) (names : List ByteArray) : ∃ k m u g o at_ d ks o' ks', lkX (stackP xs names) = .mk k m u g o at_ d ks ∧ lkX (stackP [flat0 (shP (layP xs))] names) = .mk k m u g o' at_ d ks' ∧ lkB (stackP [flat0 (shP (layP xs))] names) = lkB (stackP xs names) := by
  cases ht : shP (layP xs) with
  | nil => exact absurd ht hne
  | cons q0 r0 =>
    rw [stackP_flt ht names]
    cases hst : stackP xs names with
    | nil => exact ⟨0, 0, 0, 0, false, [], ⟨#[]⟩, [], false, [], rfl, rfl, rfl⟩
    | cons q r =>
      rw [flt_cons]
      obtain ⟨x, ly⟩ := q
      obtain ⟨k, m, u, g, o, at_, d, ks⟩ := x
      obtain ⟨ks', h⟩ := flat0_fields ((.mk k m u g o at_ d ks : Nd), ly) r rfl
      exact ⟨k, m, u, g, o, at_, d, ks, false, ks', rfl, h, rfl⟩
theorem list_flat {xs : List Nd} (hne : shP (layP xs) ≠ []) (names : List ByteArray) : listP (stackP [flat0 (shP (layP xs))] names) = listP (stackP xs names) := by
  cases ht : shP (layP xs) with
  | nil => exact absurd ht hne
  | cons q0 r0 =>
    rw [stackP_flt ht names]
    obtain ⟨l0, h0⟩ := stackP_shown xs names
    exact listP_flt h0
/-- The first layer, and the others laid flat. -/
def bothL (x : Nd) (xs : List Nd) : List Nd := if lkB (shP (layP xs)) = true then [x, flat0 (shP (layP xs))] else [x]
theorem both_one (x : Nd) (xs : List Nd) : flat0 (shP (layP (bothL x xs))) = flat0 (shP (layP (x :: xs))) := by
  unfold bothL
  cases ht : shP (layP xs) with
  | nil => rw [if_neg (by simp [lkB])]; exact both_none x xs ht
  | cons q r => rw [if_pos (show lkB (q :: r) = true from rfl)]; exact both_flat x xs q r ht
theorem both_ok {x : Nd} {xs : List Nd} (h : LaysOk (x :: xs)) : LaysOk (bothL x xs) := by
  unfold bothL
  cases ht : shP (layP xs) with
  | nil => rw [if_neg (by simp [lkB])]; exact h.head
  | cons q r => rw [if_pos (show lkB (q :: r) = true from rfl), ← ht]; exact h.both (by rw [ht]; simp)
end Go.Proofs.Ytgmeecfdkcbggaa
namespace Go.Proofs.Ytgmeecfdkcbggaa
open Go.RowKit
theorem sameNames_yes (a b : Option Addr) (c1 c2 n : Nat) (l : List ByteArray) (w : World) (hn : l.length = n) (hl : n ≤ 1000) (h : Strs w.cell? a l) (h' : Strs w.cell? b l) :
    Calls Try.prog 14 #[.slice a n c1, .slice b n c2] w fun e w' => e = .returned (.bool true) ∧ Below w.heap.size w w' := by
  have hne : ((n : Int) != (n : Int)) = false := by simp
  go_enter Try.func14, Try.ntmps14
  go_wp2
  go_loopw [5] (fun i wr => ∃ k : Nat, k ≤ n ∧ i = .int .i64 k ∧ Below w.heap.size w wr) (fun i _ => n - (intOf i).toNat)
  case atStart => exact ⟨0, Nat.zero_le _, rfl, Below.refl _ _⟩
  case round =>
    obtain ⟨k, hk, rfl, hb⟩ := hrel
    by_cases hlt : k < n
    · obtain ⟨r, hr⟩ : ∃ r, l[k]? = some r := ⟨l[k]'(by omega), List.getElem?_eq_getElem _⟩
      rcases h with hnil | ⟨ba, oa, rfl, hc⟩
      · rw [hnil] at hn; simp at hn; omega
      rcases h' with hnil | ⟨bb, ob, rfl, hc'⟩
      · rw [hnil] at hn; simp at hn; omega
      have y0 := hc k r hr
      have z0 := hc' k r hr
      have q0 : wr.cell? ⟨ba, oa + k, none⟩ = some (.string r) := mle_below hb _ _ y0
      have p0 : wr.cell? ⟨bb, ob + k, none⟩ = some (.string r) := mle_below hb _ _ z0
      have hki : (k : Int) < (n : Int) := by omega
      clear y0 z0 hc hc' hr
      go_wp2
      go_quiet (fail)
      go_wp2
      go_roundw
      case rel => exact ⟨k + 1, by omega, by go_num, below_drewN hb _⟩
      case measure => simp [intOf]; omega
    · go_wp2
      go_ret
      exact ⟨rfl, hb⟩
end Go.Proofs.Ytgmeecfdkcbggaa
namespace Go.Proofs.Ytgmeecfdkcbggaa
open Go.RowKit
theorem alloc_bel2 (w : World) (o : Obj) : Below w.heap.size w (w.alloc o) := (Below.refl _ _).alloc (Nat.le_refl _) _
theorem mle_hide {w w' : World} {S : Nat → Bool} (hb : Below w.heap.size w w') (hs : ∀ k, k < w.heap.size → S k = false) : MLe w.cell? (offS w'.cell? S) := fun q v h => by
  have hq := World.block_lt_of_cell? _ _ h
  rw [offS_ne (hs _ hq)]
  exact mle_below hb _ _ h
def lightsB (xs : List Nd) : Bool := decide (xs.length ≤ 5) && xs.all fun x => decide (0 < lightF x 80)
theorem ns_at {c : Mem} {a : Option Addr} {xs : List Nd} (h : NsV c a xs) {j : Nat} {x : Nd} (hj : xs[j]? = some x) : ∃ b off h, a = some ⟨b, off, none⟩ ∧ NAt c b (off + j * 8) x h ∧ NdV c x h := by
  rcases h with e | ⟨b, off, e, f, hf⟩
  · rw [e] at hj; simp at hj
  · exact ⟨b, off, f j, e, hf j x hj⟩
set_option maxRecDepth 100000 in
set_option maxHeartbeats 1000000 in
theorem lights_any {w : World} {a : Option Addr} {cap : Nat} {xs : List Nd} (hx : NsV w.cell? a xs) (hl : xs.length ≤ 9223372036854775807) :
    Calls Try.prog 6 #[.slice a xs.length cap] w fun e w' => e = .returned (.bool (lightsB xs)) ∧ Below w.heap.size w w' := by
  obtain ⟨R, HR⟩ : ∃ R, Hid (lightsB xs = R) := ⟨_, rfl⟩
  rw [HR.out]
  have HX : Hid (NsV w.cell? a xs) := hx
  by_cases h5 : 5 < xs.length
  · have HRF : Hid (R = false) := by show R = _; rw [← HR.out]; unfold lightsB; rw [decide_eq_false (by omega)]; rfl
    have hb : decide ((5 : Int) < (xs.length : Int)) = true := decide_eq_true (by omega)
    clear hx
    go_enter Try.func6, Try.ntmps6
    go_wp2
    go_ret
    exact ⟨ret_bool HRF.out.symm, Below.refl _ _⟩
  have HRA : Hid (R = xs.all fun x => decide (0 < lightF x 80)) := by show R = _; rw [← HR.out]; unfold lightsB; rw [decide_eq_true (by omega)]; rfl
  have hb : decide ((5 : Int) < (xs.length : Int)) = false := decide_eq_false (by omega)
  obtain ⟨N, HN⟩ : ∃ N, Hid (xs.length = N) := ⟨_, rfl⟩
  rw [HN.out] at hb h5 ⊢
  clear hx hl HR
  go_enter Try.func6, Try.ntmps6
  go_wp2
  go_loopw [3] (fun i wr => ∃ j : Nat, j ≤ N ∧ i = .int .i64 j ∧ Hid (∀ x ∈ xs.take j, 0 < lightF x 80) ∧ Below w.heap.size w wr) (fun i _ => N - (intOf i).toNat)
  case atStart => exact ⟨0, Nat.zero_le _, rfl, fun x hx => (by cases hx), Below.refl _ _⟩
  case round =>
    obtain ⟨j, hj, rfl, HA, hB⟩ := hrel
    by_cases hjl : j < N
    · have hb2 : decide ((j : Int) < (N : Int)) = true := decide_eq_true (by omega)
      obtain ⟨x, hxj⟩ : ∃ x, xs[j]? = some x := ⟨_, List.getElem?_eq_getElem (by rw [HN.out]; exact hjl)⟩
      obtain ⟨ab, ao, h, rfl, hn, hd⟩ := ns_at HX.out hxj
      have HTK : Hid (xs.take (j + 1) = xs.take j ++ [x]) := take_next2 hxj
      have HMEM : Hid (x ∈ xs) := List.mem_of_getElem? hxj
      have hn2 := hn.below hB
      obtain ⟨LF, HLF⟩ : ∃ LF, Hid (lightF x 80 = LF) := ⟨_, rfl⟩
      have HL0 := Light_any (hd.on (mle_below hB))
      rw [HLF.out] at HL0
      obtain ⟨k, m, u, g, o, at_, d, ks⟩ := x
      have HL : Hid (Calls Try.prog 22 #[.agg #[.int .i64 k, .int .i64 m, .int .i64 u, .int .i64 g, .bool o, .slice h.aa at_.length h.ca, .string d, .slice h.ak ks.length h.ck]] wr fun e W' => e = .returned (.bool (decide (0 < LF))) ∧ Below wr.heap.size wr W') := HL0
      obtain ⟨f0, f1, f2, f3, f4, f5, f6, f7⟩ := hn2
      clear hn hd hxj HL0
      go_wp2_with fail
      with_reducible refine Calls.mono HL.out ?_
      rintro e w2 ⟨rfl, hB2⟩
      have hB3 := hB.trans (hB2.mono hB.size)
      clear f0 f1 f2 f3 f4 f5 f6 f7 HL hB2
      by_cases hlf : 0 < LF
      · have hd1 : decide (0 < LF) = true := decide_eq_true hlf
        have HA2 : Hid (∀ x ∈ xs.take (j + 1), 0 < lightF x 80) := fun y hy => by
          rw [HTK.out] at hy
          rcases List.mem_append.1 hy with e | e
          · exact HA.out y e
          · rw [List.mem_singleton] at e; rw [e, HLF.out]; exact hlf
        rw [hd1]
        go_wp2
        go_roundw
        case rel => exact ⟨j + 1, by omega, by go_num, HA2.out, hB3⟩
        case measure => (simp [intOf]; try omega)
      · have hd1 : decide (0 < LF) = false := decide_eq_false hlf
        have HRF : Hid (R = false) := by
          show R = _
          rw [HRA.out]
          refine List.all_eq_false.2 ⟨_, HMEM.out, ?_⟩
          rw [HLF.out, hd1]
          simp
        rw [hd1]
        go_wp2
        go_ret
        exact ⟨ret_bool HRF.out.symm, hB3⟩
    · have hb2 : decide ((j : Int) < (N : Int)) = false := decide_eq_false (by omega)
      have HRT : Hid (R = true) := by
        show R = _
        rw [HRA.out]
        refine List.all_eq_true.2 fun x hx => decide_eq_true (HA.out x ?_)
        rw [List.take_of_length_le (by rw [HN.out]; omega)]
        exact hx
      go_wp2
      go_ret
      exact ⟨ret_bool HRT.out.symm, hB⟩
/-- What stands while nodes are copied. -/
structure CpI (w : World) (v : Value) (L : List Fl) (wr : World) : Prop where
  low : Below w.heap.size w wr
  row : wr.ownsRow w.heap.size 31 8 v L.length (flN L)
  nd : ∀ f ∈ L, NdV (offS wr.cell? (fun k => v.ownBlock == some k)) f.x f.h
theorem CpI.below {w : World} {v : Value} {L : List Fl} {wr w' : World} (h : CpI w v L wr) (hb : Below wr.heap.size wr w') : CpI w v L w' := ⟨h.low.trans (hb.mono h.low.size), ownsRow_bel h.row hb, fun f hf => (h.nd f hf).on (mle_S hb)⟩
theorem CpI.app {w : World} {v v' : Value} {L : List Fl} {wr w' : World} (h : CpI w v L wr) {f : Fl} (hf : NdV (offS wr.cell? (fun k => v.ownBlock == some k)) f.x f.h) (hown : w'.ownsRow w.heap.size 31 8 v' (L ++ [f]).length (flN (L ++ [f]))) (hg : wr.grownBy w' v.ownBlock) (ho : v'.ownBlock = v.ownBlock ∨ v'.ownBlock = some wr.heap.size) : CpI w v' (L ++ [f]) w' := by
  have hm : MLe (offS wr.cell? (fun k => v.ownBlock == some k)) (offS w'.cell? (fun k => v'.ownBlock == some k)) := mle_step fun k hk hs => by
    simp at hs
    refine ⟨?_, hg.block k hk (fun e => hs e.symm)⟩
    simp
    rcases ho with e | e
    · rw [e]; exact hs
    · rw [e]; intro e2; cases e2; omega
  refine ⟨h.low.grown hg h.low.size (fun g e => (h.row.lt g e).1), hown, fun f' hf' => ?_⟩
  rcases List.mem_append.1 hf' with e | e
  · exact (h.nd f' e).on hm
  · rw [List.mem_singleton] at e; rw [e]; exact hf.on hm
end Go.Proofs.Ytgmeecfdkcbggaa
