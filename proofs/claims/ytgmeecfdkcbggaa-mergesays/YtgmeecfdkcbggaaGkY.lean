/-
  THE UPPER IS ABOVE: a closed fact: the walk.
-/
import Derived.Test.YtgmeecfdkcbggaaGdX
import Derived.Test.YtgmeecfdkcbggaaGeX
namespace Go.Proofs.Ytgmeecfdkcbggaa
open Go.RowKit
def sA : Nd := .mk 2 0 0 0 false [] ⟨#[]⟩ [(⟨#[102]⟩, .mk 1 0 0 0 false [] ⟨#[97]⟩ [])]
def sB : Nd := .mk 2 0 0 0 false [] ⟨#[]⟩ [(⟨#[102]⟩, .mk 1 0 0 0 false [] ⟨#[98]⟩ []), (⟨#[103]⟩, .mk 1 0 0 0 false [] ⟨#[]⟩ [])]
theorem s_stack : stackP [sA, sB] [⟨#[102]⟩] = [((.mk 1 0 0 0 false [] ⟨#[97]⟩ [] : Nd), 0)] := by rfl
theorem s_list : listP (stackP [sA, sB] []) = [⟨#[102]⟩, ⟨#[103]⟩] := by decide +kernel
theorem s_ok : LaysOk [sA, sB] := ⟨fun x hx => by
    simp at hx
    rcases hx with rfl | rfl
    · simp [sA, Lil, LilL]; decide
    · simp [sB, Lil, LilL]; decide, by decide⟩
theorem nZk (c : Mem) (k m u g : Int) (o : Bool) (d : ByteArray) : NdV c (.mk k m u g o [] d []) zH := ndV_iff.2 ⟨.inl rfl, ⟨Nat.le_refl _, by decide⟩, ⟨Nat.le_refl _, by decide⟩, .inl rfl⟩
theorem kids_of {c : Mem} {b : Nat} {L : Khs} (hc : ∀ j u, (kfl L)[j]? = some u → c ⟨b, j, none⟩ = some u) (hn : ∀ e ∈ L, NdV c e.2.1 e.2.2) : KsV c (some ⟨b, 0, none⟩) (bare L) := ksH_ksV ⟨.inr ⟨b, 0, rfl, fun j u hj => by rw [Nat.zero_add]; exact hc j u hj⟩, hn⟩
theorem shows_mem (w : World) : NdV ((((w.alloc (.cells #[.string ⟨#[102]⟩, .int .i64 1, .int .i64 0, .int .i64 0, .int .i64 0, .bool false, .slice none 0 0, .string ⟨#[97]⟩, .slice none 0 0] 48)).alloc (.cells #[.int .i64 2, .int .i64 0, .int .i64 0, .int .i64 0, .bool false, .slice none 0 0, .string ⟨#[]⟩, .slice (some ⟨w.heap.size, 0, none⟩) 1 1] 31)).alloc (.cells #[.string ⟨#[102]⟩, .int .i64 1, .int .i64 0, .int .i64 0, .int .i64 0, .bool false, .slice none 0 0, .string ⟨#[98]⟩, .slice none 0 0, .string ⟨#[103]⟩, .int .i64 1, .int .i64 0, .int .i64 0, .int .i64 0, .bool false, .slice none 0 0, .string ⟨#[]⟩, .slice none 0 0] 48)).alloc (.cells #[.int .i64 2, .int .i64 0, .int .i64 0, .int .i64 0, .bool false, .slice none 0 0, .string ⟨#[]⟩, .slice (some ⟨w.heap.size + 1 + 1, 0, none⟩) 2 2] 31)).cell? sA ⟨none, 0, some ⟨w.heap.size, 0, none⟩, 1⟩ ∧ NdV ((((w.alloc (.cells #[.string ⟨#[102]⟩, .int .i64 1, .int .i64 0, .int .i64 0, .int .i64 0, .bool false, .slice none 0 0, .string ⟨#[97]⟩, .slice none 0 0] 48)).alloc (.cells #[.int .i64 2, .int .i64 0, .int .i64 0, .int .i64 0, .bool false, .slice none 0 0, .string ⟨#[]⟩, .slice (some ⟨w.heap.size, 0, none⟩) 1 1] 31)).alloc (.cells #[.string ⟨#[102]⟩, .int .i64 1, .int .i64 0, .int .i64 0, .int .i64 0, .bool false, .slice none 0 0, .string ⟨#[98]⟩, .slice none 0 0, .string ⟨#[103]⟩, .int .i64 1, .int .i64 0, .int .i64 0, .int .i64 0, .bool false, .slice none 0 0, .string ⟨#[]⟩, .slice none 0 0] 48)).alloc (.cells #[.int .i64 2, .int .i64 0, .int .i64 0, .int .i64 0, .bool false, .slice none 0 0, .string ⟨#[]⟩, .slice (some ⟨w.heap.size + 1 + 1, 0, none⟩) 2 2] 31)).cell? sB ⟨none, 0, some ⟨w.heap.size + 1 + 1, 0, none⟩, 2⟩ ∧ Below w.heap.size w ((((w.alloc (.cells #[.string ⟨#[102]⟩, .int .i64 1, .int .i64 0, .int .i64 0, .int .i64 0, .bool false, .slice none 0 0, .string ⟨#[97]⟩, .slice none 0 0] 48)).alloc (.cells #[.int .i64 2, .int .i64 0, .int .i64 0, .int .i64 0, .bool false, .slice none 0 0, .string ⟨#[]⟩, .slice (some ⟨w.heap.size, 0, none⟩) 1 1] 31)).alloc (.cells #[.string ⟨#[102]⟩, .int .i64 1, .int .i64 0, .int .i64 0, .int .i64 0, .bool false, .slice none 0 0, .string ⟨#[98]⟩, .slice none 0 0, .string ⟨#[103]⟩, .int .i64 1, .int .i64 0, .int .i64 0, .int .i64 0, .bool false, .slice none 0 0, .string ⟨#[]⟩, .slice none 0 0] 48)).alloc (.cells #[.int .i64 2, .int .i64 0, .int .i64 0, .int .i64 0, .bool false, .slice none 0 0, .string ⟨#[]⟩, .slice (some ⟨w.heap.size + 1 + 1, 0, none⟩) 2 2] 31)) ∧ ((((w.alloc (.cells #[.string ⟨#[102]⟩, .int .i64 1, .int .i64 0, .int .i64 0, .int .i64 0, .bool false, .slice none 0 0, .string ⟨#[97]⟩, .slice none 0 0] 48)).alloc (.cells #[.int .i64 2, .int .i64 0, .int .i64 0, .int .i64 0, .bool false, .slice none 0 0, .string ⟨#[]⟩, .slice (some ⟨w.heap.size, 0, none⟩) 1 1] 31)).alloc (.cells #[.string ⟨#[102]⟩, .int .i64 1, .int .i64 0, .int .i64 0, .int .i64 0, .bool false, .slice none 0 0, .string ⟨#[98]⟩, .slice none 0 0, .string ⟨#[103]⟩, .int .i64 1, .int .i64 0, .int .i64 0, .int .i64 0, .bool false, .slice none 0 0, .string ⟨#[]⟩, .slice none 0 0] 48)).alloc (.cells #[.int .i64 2, .int .i64 0, .int .i64 0, .int .i64 0, .bool false, .slice none 0 0, .string ⟨#[]⟩, .slice (some ⟨w.heap.size + 1 + 1, 0, none⟩) 2 2] 31)).heap.size = w.heap.size + 1 + 1 + 1 + 1 := by
  have z1 : (w.alloc (.cells #[.string ⟨#[102]⟩, .int .i64 1, .int .i64 0, .int .i64 0, .int .i64 0, .bool false, .slice none 0 0, .string ⟨#[97]⟩, .slice none 0 0] 48)).heap.size = w.heap.size + 1 := by rw [World.size_alloc]
  have z2 : ((w.alloc (.cells #[.string ⟨#[102]⟩, .int .i64 1, .int .i64 0, .int .i64 0, .int .i64 0, .bool false, .slice none 0 0, .string ⟨#[97]⟩, .slice none 0 0] 48)).alloc (.cells #[.int .i64 2, .int .i64 0, .int .i64 0, .int .i64 0, .bool false, .slice none 0 0, .string ⟨#[]⟩, .slice (some ⟨w.heap.size, 0, none⟩) 1 1] 31)).heap.size = w.heap.size + 1 + 1 := by rw [World.size_alloc, z1]
  have z3 : (((w.alloc (.cells #[.string ⟨#[102]⟩, .int .i64 1, .int .i64 0, .int .i64 0, .int .i64 0, .bool false, .slice none 0 0, .string ⟨#[97]⟩, .slice none 0 0] 48)).alloc (.cells #[.int .i64 2, .int .i64 0, .int .i64 0, .int .i64 0, .bool false, .slice none 0 0, .string ⟨#[]⟩, .slice (some ⟨w.heap.size, 0, none⟩) 1 1] 31)).alloc (.cells #[.string ⟨#[102]⟩, .int .i64 1, .int .i64 0, .int .i64 0, .int .i64 0, .bool false, .slice none 0 0, .string ⟨#[98]⟩, .slice none 0 0, .string ⟨#[103]⟩, .int .i64 1, .int .i64 0, .int .i64 0, .int .i64 0, .bool false, .slice none 0 0, .string ⟨#[]⟩, .slice none 0 0] 48)).heap.size = w.heap.size + 1 + 1 + 1 := by rw [World.size_alloc, z2]
  have a2 := alloc_bel2 (w.alloc (.cells #[.string ⟨#[102]⟩, .int .i64 1, .int .i64 0, .int .i64 0, .int .i64 0, .bool false, .slice none 0 0, .string ⟨#[97]⟩, .slice none 0 0] 48)) (.cells #[.int .i64 2, .int .i64 0, .int .i64 0, .int .i64 0, .bool false, .slice none 0 0, .string ⟨#[]⟩, .slice (some ⟨w.heap.size, 0, none⟩) 1 1] 31)
  have a3 := alloc_bel2 ((w.alloc (.cells #[.string ⟨#[102]⟩, .int .i64 1, .int .i64 0, .int .i64 0, .int .i64 0, .bool false, .slice none 0 0, .string ⟨#[97]⟩, .slice none 0 0] 48)).alloc (.cells #[.int .i64 2, .int .i64 0, .int .i64 0, .int .i64 0, .bool false, .slice none 0 0, .string ⟨#[]⟩, .slice (some ⟨w.heap.size, 0, none⟩) 1 1] 31)) (.cells #[.string ⟨#[102]⟩, .int .i64 1, .int .i64 0, .int .i64 0, .int .i64 0, .bool false, .slice none 0 0, .string ⟨#[98]⟩, .slice none 0 0, .string ⟨#[103]⟩, .int .i64 1, .int .i64 0, .int .i64 0, .int .i64 0, .bool false, .slice none 0 0, .string ⟨#[]⟩, .slice none 0 0] 48)
  have a4 := alloc_bel2 (((w.alloc (.cells #[.string ⟨#[102]⟩, .int .i64 1, .int .i64 0, .int .i64 0, .int .i64 0, .bool false, .slice none 0 0, .string ⟨#[97]⟩, .slice none 0 0] 48)).alloc (.cells #[.int .i64 2, .int .i64 0, .int .i64 0, .int .i64 0, .bool false, .slice none 0 0, .string ⟨#[]⟩, .slice (some ⟨w.heap.size, 0, none⟩) 1 1] 31)).alloc (.cells #[.string ⟨#[102]⟩, .int .i64 1, .int .i64 0, .int .i64 0, .int .i64 0, .bool false, .slice none 0 0, .string ⟨#[98]⟩, .slice none 0 0, .string ⟨#[103]⟩, .int .i64 1, .int .i64 0, .int .i64 0, .int .i64 0, .bool false, .slice none 0 0, .string ⟨#[]⟩, .slice none 0 0] 48)) (.cells #[.int .i64 2, .int .i64 0, .int .i64 0, .int .i64 0, .bool false, .slice none 0 0, .string ⟨#[]⟩, .slice (some ⟨w.heap.size + 1 + 1, 0, none⟩) 2 2] 31)
  have hB : Below w.heap.size w ((((w.alloc (.cells #[.string ⟨#[102]⟩, .int .i64 1, .int .i64 0, .int .i64 0, .int .i64 0, .bool false, .slice none 0 0, .string ⟨#[97]⟩, .slice none 0 0] 48)).alloc (.cells #[.int .i64 2, .int .i64 0, .int .i64 0, .int .i64 0, .bool false, .slice none 0 0, .string ⟨#[]⟩, .slice (some ⟨w.heap.size, 0, none⟩) 1 1] 31)).alloc (.cells #[.string ⟨#[102]⟩, .int .i64 1, .int .i64 0, .int .i64 0, .int .i64 0, .bool false, .slice none 0 0, .string ⟨#[98]⟩, .slice none 0 0, .string ⟨#[103]⟩, .int .i64 1, .int .i64 0, .int .i64 0, .int .i64 0, .bool false, .slice none 0 0, .string ⟨#[]⟩, .slice none 0 0] 48)).alloc (.cells #[.int .i64 2, .int .i64 0, .int .i64 0, .int .i64 0, .bool false, .slice none 0 0, .string ⟨#[]⟩, .slice (some ⟨w.heap.size + 1 + 1, 0, none⟩) 2 2] 31)) := (((alloc_bel2 w _).trans (a2.mono (by rw [World.size_alloc]; omega))).trans (a3.mono (by rw [z2]; omega))).trans (a4.mono (by rw [z3]; omega))
  refine ⟨?_, ?_, hB, by rw [World.size_alloc, z3]⟩
  · refine ndV_iff.2 ⟨.inl rfl, ⟨Nat.le_refl _, by show (0 : Nat) ≤ _; omega⟩, ⟨Nat.le_refl _, by show (_ : Nat) ≤ 9223372036854775807; simp⟩, ?_⟩
    refine kids_of (L := [(⟨#[102]⟩, .mk 1 0 0 0 false [] ⟨#[97]⟩ [], zH)]) (fun j u hj => ?_) (fun e he => by simp at he; rw [he]; exact nZk _ _ _ _ _ _ _)
    refine mle_below a4 _ _ (mle_below a3 _ _ (mle_below a2 _ _ ?_))
    refine (World.cell?_alloc_at _ _ _ _ rfl).trans ?_
    simpa [kfl, ndL, zH] using hj
  · refine ndV_iff.2 ⟨.inl rfl, ⟨Nat.le_refl _, by show (0 : Nat) ≤ _; omega⟩, ⟨Nat.le_refl _, by show (_ : Nat) ≤ 9223372036854775807; simp⟩, ?_⟩
    refine kids_of (L := [(⟨#[102]⟩, .mk 1 0 0 0 false [] ⟨#[98]⟩ [], zH), (⟨#[103]⟩, .mk 1 0 0 0 false [] ⟨#[]⟩ [], zH)]) (fun j u hj => ?_) (fun e he => by
      simp at he
      rcases he with rfl | rfl
      · exact nZk _ _ _ _ _ _ _
      · exact nZk _ _ _ _ _ _ _)
    refine mle_below a4 _ _ ?_
    refine (World.cell?_alloc_at _ _ _ _ z2.symm).trans ?_
    simpa [kfl, ndL, zH] using hj
theorem layers_mem {A : World} {hA hB : Hd} (nA : NdV A.cell? sA hA) (nB : NdV A.cell? sB hB) {w' : World} (hb : Below (A.alloc (.cells (ndL sA hA ++ ndL sB hB).toArray 31)).heap.size (A.alloc (.cells (ndL sA hA ++ ndL sB hB).toArray 31)) w') : NsV w'.cell? (some ⟨A.heap.size, 0, none⟩) [sA, sB] := by
  have hal := alloc_bel2 A (.cells (ndL sA hA ++ ndL sB hB).toArray 31)
  have hc : ∀ j u, (ndL sA hA ++ ndL sB hB)[j]? = some u → w'.cell? ⟨A.heap.size, j, none⟩ = some u := fun j u hj => mle_below hb _ _ ((World.cell?_alloc_at _ _ _ _ rfl).trans (by simpa using hj))
  refine .inr ⟨A.heap.size, 0, rfl, fun i => if i = 0 then hA else hB, fun i x hi => ?_⟩
  match i, hi with
  | 0, hi =>
    simp at hi
    subst hi
    exact ⟨nat_iff.2 fun q u hq => by
      show w'.cell? ⟨A.heap.size, 0 + 0 * 8 + q, none⟩ = some u
      rw [show 0 + 0 * 8 + q = q by omega]
      have hq' : (ndL sA hA)[q]? = some u := hq
      exact hc q u (by rw [List.getElem?_append_left (List.getElem?_eq_some_iff.1 hq').1]; exact hq'), (nA.ab hal).ab hb⟩
  | 1, hi =>
    simp at hi
    subst hi
    exact ⟨nat_iff.2 fun q u hq => by
      show w'.cell? ⟨A.heap.size, 0 + 1 * 8 + q, none⟩ = some u
      rw [show 0 + 1 * 8 + q = 8 + q by omega]
      exact hc (8 + q) u (by rw [List.getElem?_append_right (by rw [ndL_length]; omega), ndL_length, Nat.add_sub_cancel_left]; exact hq), (nB.ab hal).ab hb⟩
  | n + 2, hi => simp at hi
set_option maxRecDepth 100000 in
set_option maxHeartbeats 4000000 in
theorem shows_any (w : World) : Calls Try.prog 5 #[] w fun e w' => e = .returned (.bool true) ∧ Below w.heap.size w w' := by
  obtain ⟨nA, nB, hB, hz⟩ := shows_mem w
  have X1 : NBw ((((w.alloc (.cells #[.string ⟨#[102]⟩, .int .i64 1, .int .i64 0, .int .i64 0, .int .i64 0, .bool false, .slice none 0 0, .string ⟨#[97]⟩, .slice none 0 0] 48)).alloc (.cells #[.int .i64 2, .int .i64 0, .int .i64 0, .int .i64 0, .bool false, .slice none 0 0, .string ⟨#[]⟩, .slice (some ⟨w.heap.size, 0, none⟩) 1 1] 31)).alloc (.cells #[.string ⟨#[102]⟩, .int .i64 1, .int .i64 0, .int .i64 0, .int .i64 0, .bool false, .slice none 0 0, .string ⟨#[98]⟩, .slice none 0 0, .string ⟨#[103]⟩, .int .i64 1, .int .i64 0, .int .i64 0, .int .i64 0, .bool false, .slice none 0 0, .string ⟨#[]⟩, .slice none 0 0] 48)).alloc (.cells #[.int .i64 2, .int .i64 0, .int .i64 0, .int .i64 0, .bool false, .slice none 0 0, .string ⟨#[]⟩, .slice (some ⟨w.heap.size + 1 + 1, 0, none⟩) 2 2] 31)) (w.heap.size + 1) sA ⟨none, 0, some ⟨w.heap.size, 0, none⟩, 1⟩ := by
    have h1 := NBw.new (w.alloc (.cells #[.string ⟨#[102]⟩, .int .i64 1, .int .i64 0, .int .i64 0, .int .i64 0, .bool false, .slice none 0 0, .string ⟨#[97]⟩, .slice none 0 0] 48)) 2 0 0 0 false [] ⟨#[]⟩ [(⟨#[102]⟩, .mk 1 0 0 0 false [] ⟨#[97]⟩ [])] ⟨none, 0, some ⟨w.heap.size, 0, none⟩, 1⟩
    rw [World.size_alloc] at h1
    exact (h1.below (alloc_bel2 _ _)).below (alloc_bel2 _ _)
  have X2 : NBw ((((w.alloc (.cells #[.string ⟨#[102]⟩, .int .i64 1, .int .i64 0, .int .i64 0, .int .i64 0, .bool false, .slice none 0 0, .string ⟨#[97]⟩, .slice none 0 0] 48)).alloc (.cells #[.int .i64 2, .int .i64 0, .int .i64 0, .int .i64 0, .bool false, .slice none 0 0, .string ⟨#[]⟩, .slice (some ⟨w.heap.size, 0, none⟩) 1 1] 31)).alloc (.cells #[.string ⟨#[102]⟩, .int .i64 1, .int .i64 0, .int .i64 0, .int .i64 0, .bool false, .slice none 0 0, .string ⟨#[98]⟩, .slice none 0 0, .string ⟨#[103]⟩, .int .i64 1, .int .i64 0, .int .i64 0, .int .i64 0, .bool false, .slice none 0 0, .string ⟨#[]⟩, .slice none 0 0] 48)).alloc (.cells #[.int .i64 2, .int .i64 0, .int .i64 0, .int .i64 0, .bool false, .slice none 0 0, .string ⟨#[]⟩, .slice (some ⟨w.heap.size + 1 + 1, 0, none⟩) 2 2] 31)) (w.heap.size + 1 + 1 + 1) sB ⟨none, 0, some ⟨w.heap.size + 1 + 1, 0, none⟩, 2⟩ := by
    have h1 := NBw.new (((w.alloc (.cells #[.string ⟨#[102]⟩, .int .i64 1, .int .i64 0, .int .i64 0, .int .i64 0, .bool false, .slice none 0 0, .string ⟨#[97]⟩, .slice none 0 0] 48)).alloc (.cells #[.int .i64 2, .int .i64 0, .int .i64 0, .int .i64 0, .bool false, .slice none 0 0, .string ⟨#[]⟩, .slice (some ⟨w.heap.size, 0, none⟩) 1 1] 31)).alloc (.cells #[.string ⟨#[102]⟩, .int .i64 1, .int .i64 0, .int .i64 0, .int .i64 0, .bool false, .slice none 0 0, .string ⟨#[98]⟩, .slice none 0 0, .string ⟨#[103]⟩, .int .i64 1, .int .i64 0, .int .i64 0, .int .i64 0, .bool false, .slice none 0 0, .string ⟨#[]⟩, .slice none 0 0] 48)) 2 0 0 0 false [] ⟨#[]⟩ [(⟨#[102]⟩, .mk 1 0 0 0 false [] ⟨#[98]⟩ []), (⟨#[103]⟩, .mk 1 0 0 0 false [] ⟨#[]⟩ [])] ⟨none, 0, some ⟨w.heap.size + 1 + 1, 0, none⟩, 2⟩
    rw [World.size_alloc, World.size_alloc, World.size_alloc] at h1
    exact h1
  have HLK : Hid (∀ (w' : World) (b1 b2 : Nat), NsV w'.cell? (some ⟨b1, 0, none⟩) [sA, sB] → Strs w'.cell? (some ⟨b2, 0, none⟩) [⟨#[102]⟩] → Calls Try.prog 9 #[.slice (some ⟨b1, 0, none⟩) 2 2, .slice (some ⟨b2, 0, none⟩) 1 1] w' fun e W' => (∃ h : Hd, e = .returned (.tuple #[.agg #[.int .i64 1, .int .i64 0, .int .i64 0, .int .i64 0, .bool false, .slice h.aa 0 h.ca, .string ⟨#[97]⟩, .slice h.ak 0 h.ck], .int .i64 0, .bool true])) ∧ Below w'.heap.size w' W') := fun w' b1 b2 hx hs => by
    have e := look_one (w := w') (S := fun _ => false) (cap := 2) (capn := 1) (fun _ hk => by cases hk) (by rw [offS_no]; exact hx) (by rw [offS_no]; exact hs) s_ok (by decide)
    rw [s_stack] at e
    exact Calls.mono e fun e W' he => by
      obtain ⟨⟨h, h1, _⟩, hb⟩ := he
      exact ⟨⟨h, h1⟩, hb⟩
  have HLS : Hid (∀ (w' : World) (b1 : Nat), NsV w'.cell? (some ⟨b1, 0, none⟩) [sA, sB] → Calls Try.prog 15 #[.slice (some ⟨b1, 0, none⟩) 2 2, .slice none 0 0] w' fun e W' => (∃ a' c', e = .returned (.slice a' 2 c') ∧ Strs W'.cell? a' [⟨#[102]⟩, ⟨#[103]⟩]) ∧ Below w'.heap.size w' W') := fun w' b1 hx => by
    have e := mlist_any (w := w') (S := fun _ => false) (xs := [sA, sB]) (an := none) (names := []) (cap := 2) (capn := 0) (fun _ hk => by cases hk) (by rw [offS_no]; exact hx) (.inl rfl) s_ok (by decide)
    rw [s_list] at e
    exact Calls.mono e fun e W' he => by
      obtain ⟨⟨a', c', h1, _, _, h2⟩, hb⟩ := he
      exact ⟨⟨a', c', h1, h2.on (offS_le _ _)⟩, hb⟩
  go_enter Try.func5, Try.ntmps5
  have hns : NsV ((((((w.alloc (.cells #[.string ⟨#[102]⟩, .int .i64 1, .int .i64 0, .int .i64 0, .int .i64 0, .bool false, .slice none 0 0, .string ⟨#[97]⟩, .slice none 0 0] 48)).alloc (.cells #[.int .i64 2, .int .i64 0, .int .i64 0, .int .i64 0, .bool false, .slice none 0 0, .string ⟨#[]⟩, .slice (some ⟨w.heap.size, 0, none⟩) 1 1] 31)).alloc (.cells #[.string ⟨#[102]⟩, .int .i64 1, .int .i64 0, .int .i64 0, .int .i64 0, .bool false, .slice none 0 0, .string ⟨#[98]⟩, .slice none 0 0, .string ⟨#[103]⟩, .int .i64 1, .int .i64 0, .int .i64 0, .int .i64 0, .bool false, .slice none 0 0, .string ⟨#[]⟩, .slice none 0 0] 48)).alloc (.cells #[.int .i64 2, .int .i64 0, .int .i64 0, .int .i64 0, .bool false, .slice none 0 0, .string ⟨#[]⟩, .slice (some ⟨w.heap.size + 1 + 1, 0, none⟩) 2 2] 31)).alloc (.cells #[.int .i64 2, .int .i64 0, .int .i64 0, .int .i64 0, .bool false, .slice none 0 0, .string ⟨#[]⟩, .slice (some ⟨w.heap.size, 0, none⟩) 1 1, .int .i64 2, .int .i64 0, .int .i64 0, .int .i64 0, .bool false, .slice none 0 0, .string ⟨#[]⟩, .slice (some ⟨w.heap.size + 1 + 1, 0, none⟩) 2 2] 31)).alloc (.cells #[.string ⟨#[102]⟩] 9)).cell? (some ⟨w.heap.size + 1 + 1 + 1 + 1, 0, none⟩) [sA, sB] := by
    have h1 := layers_mem nA nB (w' := (((((w.alloc (.cells #[.string ⟨#[102]⟩, .int .i64 1, .int .i64 0, .int .i64 0, .int .i64 0, .bool false, .slice none 0 0, .string ⟨#[97]⟩, .slice none 0 0] 48)).alloc (.cells #[.int .i64 2, .int .i64 0, .int .i64 0, .int .i64 0, .bool false, .slice none 0 0, .string ⟨#[]⟩, .slice (some ⟨w.heap.size, 0, none⟩) 1 1] 31)).alloc (.cells #[.string ⟨#[102]⟩, .int .i64 1, .int .i64 0, .int .i64 0, .int .i64 0, .bool false, .slice none 0 0, .string ⟨#[98]⟩, .slice none 0 0, .string ⟨#[103]⟩, .int .i64 1, .int .i64 0, .int .i64 0, .int .i64 0, .bool false, .slice none 0 0, .string ⟨#[]⟩, .slice none 0 0] 48)).alloc (.cells #[.int .i64 2, .int .i64 0, .int .i64 0, .int .i64 0, .bool false, .slice none 0 0, .string ⟨#[]⟩, .slice (some ⟨w.heap.size + 1 + 1, 0, none⟩) 2 2] 31)).alloc (.cells #[.int .i64 2, .int .i64 0, .int .i64 0, .int .i64 0, .bool false, .slice none 0 0, .string ⟨#[]⟩, .slice (some ⟨w.heap.size, 0, none⟩) 1 1, .int .i64 2, .int .i64 0, .int .i64 0, .int .i64 0, .bool false, .slice none 0 0, .string ⟨#[]⟩, .slice (some ⟨w.heap.size + 1 + 1, 0, none⟩) 2 2] 31)).alloc (.cells #[.string ⟨#[102]⟩] 9)) (alloc_bel2 _ _)
    rw [hz] at h1
    exact h1
  have hst : Strs ((((((w.alloc (.cells #[.string ⟨#[102]⟩, .int .i64 1, .int .i64 0, .int .i64 0, .int .i64 0, .bool false, .slice none 0 0, .string ⟨#[97]⟩, .slice none 0 0] 48)).alloc (.cells #[.int .i64 2, .int .i64 0, .int .i64 0, .int .i64 0, .bool false, .slice none 0 0, .string ⟨#[]⟩, .slice (some ⟨w.heap.size, 0, none⟩) 1 1] 31)).alloc (.cells #[.string ⟨#[102]⟩, .int .i64 1, .int .i64 0, .int .i64 0, .int .i64 0, .bool false, .slice none 0 0, .string ⟨#[98]⟩, .slice none 0 0, .string ⟨#[103]⟩, .int .i64 1, .int .i64 0, .int .i64 0, .int .i64 0, .bool false, .slice none 0 0, .string ⟨#[]⟩, .slice none 0 0] 48)).alloc (.cells #[.int .i64 2, .int .i64 0, .int .i64 0, .int .i64 0, .bool false, .slice none 0 0, .string ⟨#[]⟩, .slice (some ⟨w.heap.size + 1 + 1, 0, none⟩) 2 2] 31)).alloc (.cells #[.int .i64 2, .int .i64 0, .int .i64 0, .int .i64 0, .bool false, .slice none 0 0, .string ⟨#[]⟩, .slice (some ⟨w.heap.size, 0, none⟩) 1 1, .int .i64 2, .int .i64 0, .int .i64 0, .int .i64 0, .bool false, .slice none 0 0, .string ⟨#[]⟩, .slice (some ⟨w.heap.size + 1 + 1, 0, none⟩) 2 2] 31)).alloc (.cells #[.string ⟨#[102]⟩] 9)).cell? (some ⟨w.heap.size + 1 + 1 + 1 + 1 + 1, 0, none⟩) [⟨#[102]⟩] := by
    refine .inr ⟨_, 0, rfl, fun i s hi => ?_⟩
    cases i with
    | zero =>
      simp at hi
      subst hi
      exact World.cell?_alloc_at _ _ _ _ (by rw [World.size_alloc, hz])
    | succ i => simp at hi
  have a5 := alloc_bel2 ((((w.alloc (.cells #[.string ⟨#[102]⟩, .int .i64 1, .int .i64 0, .int .i64 0, .int .i64 0, .bool false, .slice none 0 0, .string ⟨#[97]⟩, .slice none 0 0] 48)).alloc (.cells #[.int .i64 2, .int .i64 0, .int .i64 0, .int .i64 0, .bool false, .slice none 0 0, .string ⟨#[]⟩, .slice (some ⟨w.heap.size, 0, none⟩) 1 1] 31)).alloc (.cells #[.string ⟨#[102]⟩, .int .i64 1, .int .i64 0, .int .i64 0, .int .i64 0, .bool false, .slice none 0 0, .string ⟨#[98]⟩, .slice none 0 0, .string ⟨#[103]⟩, .int .i64 1, .int .i64 0, .int .i64 0, .int .i64 0, .bool false, .slice none 0 0, .string ⟨#[]⟩, .slice none 0 0] 48)).alloc (.cells #[.int .i64 2, .int .i64 0, .int .i64 0, .int .i64 0, .bool false, .slice none 0 0, .string ⟨#[]⟩, .slice (some ⟨w.heap.size + 1 + 1, 0, none⟩) 2 2] 31)) (.cells #[.int .i64 2, .int .i64 0, .int .i64 0, .int .i64 0, .bool false, .slice none 0 0, .string ⟨#[]⟩, .slice (some ⟨w.heap.size, 0, none⟩) 1 1, .int .i64 2, .int .i64 0, .int .i64 0, .int .i64 0, .bool false, .slice none 0 0, .string ⟨#[]⟩, .slice (some ⟨w.heap.size + 1 + 1, 0, none⟩) 2 2] 31)
  have a6 := a5.trans ((alloc_bel2 (((((w.alloc (.cells #[.string ⟨#[102]⟩, .int .i64 1, .int .i64 0, .int .i64 0, .int .i64 0, .bool false, .slice none 0 0, .string ⟨#[97]⟩, .slice none 0 0] 48)).alloc (.cells #[.int .i64 2, .int .i64 0, .int .i64 0, .int .i64 0, .bool false, .slice none 0 0, .string ⟨#[]⟩, .slice (some ⟨w.heap.size, 0, none⟩) 1 1] 31)).alloc (.cells #[.string ⟨#[102]⟩, .int .i64 1, .int .i64 0, .int .i64 0, .int .i64 0, .bool false, .slice none 0 0, .string ⟨#[98]⟩, .slice none 0 0, .string ⟨#[103]⟩, .int .i64 1, .int .i64 0, .int .i64 0, .int .i64 0, .bool false, .slice none 0 0, .string ⟨#[]⟩, .slice none 0 0] 48)).alloc (.cells #[.int .i64 2, .int .i64 0, .int .i64 0, .int .i64 0, .bool false, .slice none 0 0, .string ⟨#[]⟩, .slice (some ⟨w.heap.size + 1 + 1, 0, none⟩) 2 2] 31)).alloc (.cells #[.int .i64 2, .int .i64 0, .int .i64 0, .int .i64 0, .bool false, .slice none 0 0, .string ⟨#[]⟩, .slice (some ⟨w.heap.size, 0, none⟩) 1 1, .int .i64 2, .int .i64 0, .int .i64 0, .int .i64 0, .bool false, .slice none 0 0, .string ⟨#[]⟩, .slice (some ⟨w.heap.size + 1 + 1, 0, none⟩) 2 2] 31)) (.cells #[.string ⟨#[102]⟩] 9)).mono a5.size)
  have hB6 := hB.trans (a6.mono hB.size)
  have HNA : Hid _ := nA.ab a6
  have HNB : Hid _ := nB.ab a6
  replace X1 := X1.below a6
  replace X2 := X2.below a6
  clear nA nB hB hz a5 a6
  go_wp2_with fail
  with_reducible refine Calls.mono (HLK.out _ _ _ hns hst) ?_
  rintro e w7 ⟨⟨h, rfl⟩, hq⟩
  have hq2 := alloc_bel2 w7 (.cells #[.int .i64 1, .int .i64 0, .int .i64 0, .int .i64 0, .bool false, .slice h.aa 0 h.ca, .string ⟨#[97]⟩, .slice h.ak 0 h.ck] 31)
  have hq3 := hq.trans (hq2.mono hq.size)
  have hB8 := hB6.trans (hq3.mono hB6.size)
  have nA8 := NdV.ab HNA.out hq3
  have nB8 := NdV.ab HNB.out hq3
  replace X1 := X1.below hq3
  replace X2 := X2.below hq3
  clear hq hq2 hq3 hns hst HNA HNB hB6 HLK
  have XN := NBw.new w7 1 0 0 0 false [] ⟨#[97]⟩ [] h
  go_upto_region 4 with fail
  generalize w7.alloc (.cells #[.int .i64 1, .int .i64 0, .int .i64 0, .int .i64 0, .bool false, .slice h.aa 0 h.ca, .string ⟨#[97]⟩, .slice h.ak 0 h.ck] 31) = w8 at hB8 nA8 nB8 X1 X2 XN ⊢
  generalize w7.heap.size = bn at XN ⊢
  have hns9 := layers_mem nA8 nB8 (Below.refl _ _)
  obtain ⟨u0, u1, u2, u3, u4, u5, u6, u7⟩ := X1.1
  obtain ⟨v0, v1, v2, v3, v4, v5, v6, v7⟩ := X2.1
  obtain ⟨t0, t1, t2, t3, t4, t5, t6, t7⟩ := XN.1
  have hB9 := hB8.trans ((alloc_bel2 w8 (.cells #[.int .i64 2, .int .i64 0, .int .i64 0, .int .i64 0, .bool false, .slice none 0 0, .string ⟨#[]⟩, .slice (some ⟨w.heap.size, 0, none⟩) 1 1, .int .i64 2, .int .i64 0, .int .i64 0, .int .i64 0, .bool false, .slice none 0 0, .string ⟨#[]⟩, .slice (some ⟨w.heap.size + 1 + 1, 0, none⟩) 2 2] 31)).mono hB8.size)
  have HC : Hid (Calls Try.prog 15 #[.slice (some ⟨w8.heap.size, 0, none⟩) 2 2, .slice none 0 0] (w8.alloc (.cells #[.int .i64 2, .int .i64 0, .int .i64 0, .int .i64 0, .bool false, .slice none 0 0, .string ⟨#[]⟩, .slice (some ⟨w.heap.size, 0, none⟩) 1 1, .int .i64 2, .int .i64 0, .int .i64 0, .int .i64 0, .bool false, .slice none 0 0, .string ⟨#[]⟩, .slice (some ⟨w.heap.size + 1 + 1, 0, none⟩) 2 2] 31)) fun e W' => (∃ a' c', e = .returned (.slice a' 2 c') ∧ Strs W'.cell? a' [⟨#[102]⟩, ⟨#[103]⟩]) ∧ Below (w8.alloc (.cells #[.int .i64 2, .int .i64 0, .int .i64 0, .int .i64 0, .bool false, .slice none 0 0, .string ⟨#[]⟩, .slice (some ⟨w.heap.size, 0, none⟩) 1 1, .int .i64 2, .int .i64 0, .int .i64 0, .int .i64 0, .bool false, .slice none 0 0, .string ⟨#[]⟩, .slice (some ⟨w.heap.size + 1 + 1, 0, none⟩) 2 2] 31)).heap.size (w8.alloc (.cells #[.int .i64 2, .int .i64 0, .int .i64 0, .int .i64 0, .bool false, .slice none 0 0, .string ⟨#[]⟩, .slice (some ⟨w.heap.size, 0, none⟩) 1 1, .int .i64 2, .int .i64 0, .int .i64 0, .int .i64 0, .bool false, .slice none 0 0, .string ⟨#[]⟩, .slice (some ⟨w.heap.size + 1 + 1, 0, none⟩) 2 2] 31)) W') := HLS.out _ _ hns9
  clear hns9 HLS nA8 nB8
  go_wp2_with fail
  with_reducible refine Calls.mono HC.out ?_
  rintro e w9 ⟨⟨a9, c9, rfl, st9⟩, hq⟩
  have hB10 := hB9.trans (hq.mono hB9.size)
  have hal := alloc_bel2 w9 (.cells #[.string ⟨#[102]⟩, .string ⟨#[103]⟩] 9)
  have st10 : Strs (w9.alloc (.cells #[.string ⟨#[102]⟩, .string ⟨#[103]⟩] 9)).cell? (some ⟨w9.heap.size, 0, none⟩) [⟨#[102]⟩, ⟨#[103]⟩] := by
    refine .inr ⟨_, 0, rfl, fun i s hi => ?_⟩
    rw [Nat.zero_add]
    refine (World.cell?_alloc_at _ _ _ _ rfl).trans ?_
    match i, hi with
    | 0, hi => simp at hi; subst hi; rfl
    | 1, hi => simp at hi; subst hi; rfl
    | n + 2, hi => simp at hi
  have HSN : Hid (Calls Try.prog 14 #[.slice a9 2 c9, .slice (some ⟨w9.heap.size, 0, none⟩) 2 2] (w9.alloc (.cells #[.string ⟨#[102]⟩, .string ⟨#[103]⟩] 9)) fun e W' => e = .returned (.bool true) ∧ Below (w9.alloc (.cells #[.string ⟨#[102]⟩, .string ⟨#[103]⟩] 9)).heap.size (w9.alloc (.cells #[.string ⟨#[102]⟩, .string ⟨#[103]⟩] 9)) W') := sameNames_yes a9 _ c9 2 2 [⟨#[102]⟩, ⟨#[103]⟩] _ rfl (by decide) (st9.on (mle_below hal)) st10
  have hB11 := hB10.trans (hal.mono hB10.size)
  clear hq st9 st10 HC hal u0 u1 u2 u3 u4 u5 u6 u7 v0 v1 v2 v3 v4 v5 v6 v7 t0 t1 t2 t3 t4 t5 t6 t7
  go_wp2_with fail
  with_reducible refine Calls.mono HSN.out ?_
  rintro e w12 ⟨rfl, hq⟩
  have hB12 := hB11.trans (hq.mono hB11.size)
  go_wp2
  go_ret
  exact ⟨rfl, hB12⟩
end Go.Proofs.Ytgmeecfdkcbggaa
