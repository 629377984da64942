/-
  WHAT THE WALK OF CredSays WANTS: both Becomes' answers in one form; four creds in memory at once.
-/
import Derived.Test.YtoadlnojcbkdgaaCj
namespace Go.Proofs.Ytoadlnojcbkdgaa
open Go.RowKit

/-- A number that is told only where nothing is wrong. -/
def onlyOk (f x : Int) : Int := if f = 0 then x else 0
def onlyOkL (f : Int) (zs : List Int) : List Int := if f = 0 then zs else []

theorem become_one (u g c user group : Int) (a : Option Addr) (cap : Nat) (zs : List Int) (w : World) (hl : zs.length ≤ 8) (h : Ints w a zs) (F X0 X1 X3 : Int) (xs : List Int)
    (hF : becF u g zs c user group = F) (h0 : onlyOk F user = X0) (h1 : onlyOk F group = X1) (h3 : onlyOk F (becC u c user) = X3) (hx : onlyOkL F zs = xs) :
    Calls Try.prog 22 #[.agg #[.int .i64 u, .int .i64 g, .slice a zs.length cap, .int .i64 c], .int .i64 user, .int .i64 group] w fun e w' =>
      (∃ ao cp, e = .returned (.tuple #[.agg #[.int .i64 X0, .int .i64 X1, .slice ao xs.length cp, .int .i64 X3], errV F]) ∧ Ints w' ao xs) ∧ Below w.heap.size w w' := by
  refine (become_all u g c user group a cap zs w hl h).mono ?_
  subst hF h0 h1 h3 hx
  rintro e w' ⟨⟨h0, rfl⟩ | ⟨h0, ao, cp, rfl, hin⟩, hb⟩
  · exact ⟨⟨none, 0, by simp [onlyOk, onlyOkL, h0, badV, errV], .inl (by simp [onlyOkL, h0])⟩, hb⟩
  · exact ⟨⟨ao, cp, by simp [onlyOk, onlyOkL, h0, okV, errV], by simpa [onlyOkL, h0] using hin⟩, hb⟩
theorem becomer_one (u g c user group : Int) (a : Option Addr) (cap : Nat) (zs : List Int) (w : World) (hl : zs.length ≤ 8) (h : Ints w a zs) (F X0 X1 X3 : Int) (xs : List Int)
    (hF : becF u g zs c user group = F) (h0 : onlyOk F user = X0) (h1 : onlyOk F group = X1) (h3 : onlyOk F (becC u c user) = X3) (hx : onlyOkL F zs = xs) :
    Calls Try.prog 23 #[.agg #[.int .i64 u, .int .i64 g, .slice a zs.length cap, .int .i64 c], .int .i64 user, .int .i64 group] w fun e w' =>
      (∃ ao cp, e = .returned (.tuple #[.agg #[.int .i64 X0, .int .i64 X1, .slice ao xs.length cp, .int .i64 X3], .int .i64 F]) ∧ Ints w' ao xs) ∧ Below w.heap.size w w' := by
  refine (becomer_all u g c user group a cap zs w hl h).mono ?_
  subst hF h0 h1 h3 hx
  rintro e w' ⟨⟨h0, rfl⟩ | ⟨h0, ao, cp, rfl, hin⟩, hb⟩
  · exact ⟨⟨none, 0, by simp [onlyOk, onlyOkL, h0, rbadV], .inl (by simp [onlyOkL, h0])⟩, hb⟩
  · exact ⟨⟨ao, cp, by simp [onlyOk, onlyOkL, h0, rgoodV], by simpa [onlyOkL, h0] using hin⟩, hb⟩

/-- An error is the one of its number. -/
theorem same_errV (n : Int) (hn : 0 ≤ n) (w : World) : Calls Try.prog 14 #[errV n, .int .i64 n] w fun e w' => e = .returned (.bool true) ∧ w = w' := by
  by_cases h : n = 0
  · subst h; exact same_nil w
  · rw [errV_of rfl h]; exact same_err n (by omega) w

/-- Four creds in memory, and their groups. -/
structure Four (W0 w : World) (ob wb xb yb : Nat) (u g c X0 X1 X3 : Int) (a ao ax ay : Option Addr) (cap cp cx cy : Nat) (zs xs : List Int) : Prop where
  bo : Box w ob u g (.slice ao zs.length cp) c
  bc : Box w wb u g (.slice a zs.length cap) c
  bx : Box w xb X0 X1 (.slice ax xs.length cx) X3
  bt : Box w yb X0 X1 (.slice ay xs.length cy) X3
  io : Ints w ao zs
  ic : Ints w a zs
  ix : Ints w ax xs
  it : Ints w ay xs
  bl : Below W0.heap.size W0 w

theorem Four.below {W0 w w' : World} {ob wb xb yb : Nat} {u g c X0 X1 X3 : Int} {a ao ax ay : Option Addr} {cap cp cx cy : Nat} {zs xs : List Int} (h : Four W0 w ob wb xb yb u g c X0 X1 X3 a ao ax ay cap cp cx cy zs xs) (hb : Below w.heap.size w w') :
    Four W0 w' ob wb xb yb u g c X0 X1 X3 a ao ax ay cap cp cx cy zs xs :=
  ⟨h.bo.below hb, h.bc.below hb, h.bx.below hb, h.bt.below hb, h.io.below hb, h.ic.below hb, h.ix.below hb, h.it.below hb, h.bl.trans (hb.mono h.bl.size)⟩
theorem Four.drew {W0 w : World} {ob wb xb yb : Nat} {u g c X0 X1 X3 : Int} {a ao ax ay : Option Addr} {cap cp cx cy : Nat} {zs xs : List Int} (h : Four W0 w ob wb xb yb u g c X0 X1 X3 a ao ax ay cap cp cx cy zs xs) : Four W0 w.drew ob wb xb yb u g c X0 X1 X3 a ao ax ay cap cp cx cy zs xs :=
  h.below (Below.refl _ _).drew

/-- The sixteen cells. -/
theorem Four.cells {W0 w : World} {ob wb xb yb : Nat} {u g c X0 X1 X3 : Int} {a ao ax ay : Option Addr} {cap cp cx cy : Nat} {zs xs : List Int} (h : Four W0 w ob wb xb yb u g c X0 X1 X3 a ao ax ay cap cp cx cy zs xs) :
    (w.cell? ⟨ob, 0, none⟩ = some (.int .i64 u) ∧ w.cell? ⟨ob, 1, none⟩ = some (.int .i64 g) ∧ w.cell? ⟨ob, 2, none⟩ = some (.slice ao zs.length cp) ∧ w.cell? ⟨ob, 3, none⟩ = some (.int .i64 c)) ∧
    (w.cell? ⟨wb, 0, none⟩ = some (.int .i64 u) ∧ w.cell? ⟨wb, 1, none⟩ = some (.int .i64 g) ∧ w.cell? ⟨wb, 2, none⟩ = some (.slice a zs.length cap) ∧ w.cell? ⟨wb, 3, none⟩ = some (.int .i64 c)) ∧
    (w.cell? ⟨xb, 0, none⟩ = some (.int .i64 X0) ∧ w.cell? ⟨xb, 1, none⟩ = some (.int .i64 X1) ∧ w.cell? ⟨xb, 2, none⟩ = some (.slice ax xs.length cx) ∧ w.cell? ⟨xb, 3, none⟩ = some (.int .i64 X3)) ∧
    (w.cell? ⟨yb, 0, none⟩ = some (.int .i64 X0) ∧ w.cell? ⟨yb, 1, none⟩ = some (.int .i64 X1) ∧ w.cell? ⟨yb, 2, none⟩ = some (.slice ay xs.length cy) ∧ w.cell? ⟨yb, 3, none⟩ = some (.int .i64 X3)) :=
  ⟨⟨h.bo.1, h.bo.2.1, h.bo.2.2.1, h.bo.2.2.2.1⟩, ⟨h.bc.1, h.bc.2.1, h.bc.2.2.1, h.bc.2.2.2.1⟩, ⟨h.bx.1, h.bx.2.1, h.bx.2.2.1, h.bx.2.2.2.1⟩, ⟨h.bt.1, h.bt.2.1, h.bt.2.2.1, h.bt.2.2.2.1⟩⟩

theorem Box.set2 {w : World} {b : Nat} {u g : Int} {v : Value} {c : Int} (h : Box w b u g v c) (v' : Value) : Box (w.setCell ⟨b, 2, none⟩ v') b u g v' c := by
  obtain ⟨h0, h1, h2, h3, h4⟩ := h
  refine ⟨?_, ?_, ?_, ?_, fun o => by simp [h4]⟩ <;> simp [World.cell?_setCell_other, World.cell?_setCell_same', h0, h1, h2, h3]
theorem ints_of_ownsRow {w : World} {base gb k cp m : Nat} {e : TypeId} {zs : List Int} {rest : List Value} (h : w.ownsRow base e 1 (.slice (some ⟨gb, 0, none⟩) k cp) m (zs.map (Value.int .i64) ++ rest)) : Ints w (some ⟨gb, 0, none⟩) zs := by
  rcases h.2 with ⟨hv, _⟩ | ⟨g, cap, cur, hv, _, hg, _, _, _, hx⟩
  · cases hv
  · obtain ⟨rfl, _, _⟩ : gb = g ∧ k = m ∧ cp = cap := by simpa using hv
    refine .inr ⟨gb, 0, rfl, fun i hi => ?_⟩
    rw [Nat.zero_add]
    exact ownsRow_cell hg hx (by rw [List.getElem?_append_left (by simpa using hi)]; simp [hi])
theorem one77 {w : World} {b : Nat} (h : w.cell? ⟨b, 0, none⟩ = some (.int .i64 77)) : ∀ j u, [Value.int .i64 77][j]? = some u → w.cell? ((⟨b, 0, none⟩ : Addr).add j) = some u := by
  intro j u hj
  have hj0 : j = 0 := by have := (List.getElem?_eq_some_iff.1 hj).1; simpa using this
  subst hj0
  simp at hj
  subst hj
  simpa [Addr.add] using h

theorem far77 {w w' : World} (hg : (w.alloc (.cells #[.int .i64 77] 3)).drew.grownBy w' (Value.slice none 0 0).ownBlock) : w'.cell? ⟨w.heap.size, 0, none⟩ = some (.int .i64 77) := by
  rw [hg.cell_far ⟨w.heap.size, 0, none⟩ (by simp) (by simp [Value.ownBlock])]
  exact World.cell?_alloc_at _ _ _ _ rfl

end Go.Proofs.Ytoadlnojcbkdgaa
