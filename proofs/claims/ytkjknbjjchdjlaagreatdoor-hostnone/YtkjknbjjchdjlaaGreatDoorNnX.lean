/-
  A NODE's BOX, where another block is written.
  WHAT slices.Clone DOES, of attributes and of kids, AND apart: the walks.
  WHAT layText DOES: the walk.
  WHAT lay HOLDS: its row, its box: the facts of no program.
-/
import Derived.Test.YtkjknbjjchdjlaaGreatDoorWaY
import Derived.Test.YtkjknbjjchdjlaaGreatDoorApX
import Derived.Test.YtkjknbjjchdjlaaGreatDoorNpX
import Derived.Test.YtkjknbjjchdjlaaGreatDoorWbY
import Derived.Lib.SliceRun
namespace Go.Proofs.YtkjknbjjchdjlaaGreatDoor
open Go.RowKit
theorem NBox.but {w w' : World} {b b' : Nat} {x : Nd} {h : Hd} (hk : NBox w b x h) (hb : But b' w w') (hne : b ≠ b') : NBox w' b x h := by
  obtain ⟨k, m, u, g, o, at_, d, ks⟩ := x
  obtain ⟨h0, h1, h2, h3, h4, h5, h6, h7⟩ := hk
  have hl : b < w.heap.size := World.block_lt_of_cell? _ _ h0
  exact ⟨(hb.cell (p := ⟨b, 0, none⟩) hl hne).trans h0, (hb.cell (p := ⟨b, 1, none⟩) hl hne).trans h1, (hb.cell (p := ⟨b, 2, none⟩) hl hne).trans h2, (hb.cell (p := ⟨b, 3, none⟩) hl hne).trans h3, (hb.cell (p := ⟨b, 4, none⟩) hl hne).trans h4,
    (hb.cell (p := ⟨b, 5, none⟩) hl hne).trans h5, (hb.cell (p := ⟨b, 6, none⟩) hl hne).trans h6, (hb.cell (p := ⟨b, 7, none⟩) hl hne).trans h7⟩
end Go.Proofs.YtkjknbjjchdjlaaGreatDoor
namespace Go.Proofs.YtkjknbjjchdjlaaGreatDoor
open Go.RowKit
theorem Tryz.infoA : (Tryz.prog.info? 163).map (fun i => (i.zero, i.size, i.bytes)) = some (some (.agg #[.string ⟨#[]⟩, .string ⟨#[]⟩]), 2, 32) := by kernel_rfl
theorem info_three {P : Program} {t : TypeId} {z : Value} {n m : Nat} (h : (P.info? t).map (fun i => (i.zero, i.size, i.bytes)) = some (some z, n, m)) : ∃ i, P.info? t = some i ∧ i.zero = some z ∧ i.size = n ∧ i.bytes = m := by
  cases hi : P.info? t with
  | none => rw [hi] at h; cases h
  | some i => rw [hi] at h; simp at h; exact ⟨i, rfl, h.1, h.2.1, h.2.2⟩
abbrev zK : Value := .agg #[.string ⟨#[]⟩, .int .i64 0, .int .i64 0, .int .i64 0, .int .i64 0, .bool false, .slice none 0 0, .string ⟨#[]⟩, .slice none 0 0]
theorem Tryz.infoK : (Tryz.prog.info? 138).map (fun i => (i.zero, i.size, i.bytes)) = some (some zK, 9, 120) := by kernel_rfl
set_option maxRecDepth 100000 in
set_option maxHeartbeats 1000000 in
theorem cloneA_any (a : Option Addr) (cap : Nat) (l : List Kv) (w : World) (hl : l.length ≤ 1000) (h : Kvm w.cell? a l) :
    Calls Tryz.prog 91 #[.slice a l.length cap] w fun e w' => (∃ v, e = .returned v ∧ w'.ownsRow w.heap.size 163 2 v l.length (flat l)) ∧ Below w.heap.size w w' := by
  have hnil := fun (W : World) (n c : Nat) => Lib.run_eql_slice_nil (P := Tryz.prog) W 99 163 a n c 0 0 Tryz.underlying99
  cases a with
  | none =>
    have hl0 : l = [] := by
      rcases h with e | ⟨b, off, e, _⟩
      · exact e
      · cases e
    subst hl0
    go_enter Tryz.func91, Tryz.ntmps91
    go_wp2
    go_ret
    exact ⟨⟨_, rfl, World.ownsRow_nil _ _ _ _⟩, Below.refl _ _⟩
  | some ad =>
    obtain ⟨i0, hi0, hz0, hz1, hz2⟩ := info_three Tryz.infoA
    have hB : Below w.heap.size w (w.alloc (.cells #[] 163)) := (Below.refl _ _).alloc (Nat.le_refl _) _
    have hrow : (w.alloc (.cells #[] 163)).ownsRow w.heap.size 163 2 (.slice (some ⟨w.heap.size, 0, none⟩) 0 0) 0 (flat []) := World.ownsRow_made w #[] 0 (Nat.le_refl _) (by decide) rfl
    have hs := src_of_kvm (h.below hB)
    have hsz : w.heap.size ≤ (w.alloc (.cells #[] 163)).heap.size := hB.size
    go_enter Tryz.func91, Tryz.ntmps91
    go_wp2_with (at_builtin; refine wpList_append_src _ rfl (.tmp 5) (.tmp 6) 99 rfl w.heap.size 163 i0 (.agg #[.string ⟨#[]⟩, .string ⟨#[]⟩]) 2 32 Tryz.underlying99 hi0 hz0 hz1 hz2 rfl (by decide) _ 0 (flat []) rfl hrow (some ad) l.length cap (flat l) rfl (flat_length l) hs (flat_one _) (by unfold maxLen; omega) (by omega) hsz ?_)
    intro v2 w4 hown4 hgrow4 _
    have hB4 := hB.grown hgrow4 hsz (fun q e => (hrow.lt q e).1)
    rw [show flat [] ++ flat l = flat l from rfl] at hown4
    clear hgrow4 hrow hB hs hsz
    go_wp2
    go_ret
    exact ⟨⟨_, rfl, hown4⟩, hB4⟩
set_option maxRecDepth 100000 in
set_option maxHeartbeats 1000000 in
theorem cloneK_any (a : Option Addr) (cap : Nat) (L : Khs) (w : World) (hl : L.length ≤ 1000) (h : KsH w.cell? a L) :
    Calls Tryz.prog 92 #[.slice a L.length cap] w fun e w' => (∃ v, e = .returned v ∧ w'.ownsRow w.heap.size 138 9 v L.length (kfl L)) ∧ Below w.heap.size w w' := by
  have hnil := fun (W : World) (n c : Nat) => Lib.run_eql_slice_nil (P := Tryz.prog) W 100 138 a n c 0 0 Tryz.underlying100
  cases a with
  | none =>
    have hl0 : L = [] := by
      rcases h.1 with e | ⟨b, off, e, _⟩
      · exact e
      · cases e
    subst hl0
    go_enter Tryz.func92, Tryz.ntmps92
    go_wp2
    go_ret
    exact ⟨⟨_, rfl, World.ownsRow_nil _ _ _ _⟩, Below.refl _ _⟩
  | some ad =>
    obtain ⟨i0, hi0, hz0, hz1, hz2⟩ := info_three Tryz.infoK
    have hB : Below w.heap.size w (w.alloc (.cells #[] 138)) := (Below.refl _ _).alloc (Nat.le_refl _) _
    have hrow : (w.alloc (.cells #[] 138)).ownsRow w.heap.size 138 9 (.slice (some ⟨w.heap.size, 0, none⟩) 0 0) 0 (kfl []) := World.ownsRow_made w #[] 0 (Nat.le_refl _) (by decide) rfl
    have hs := src_of_ksH (h.on (mle_below hB))
    have hsz : w.heap.size ≤ (w.alloc (.cells #[] 138)).heap.size := hB.size
    go_enter Tryz.func92, Tryz.ntmps92
    go_wp2_with (at_builtin; refine wpList_append_src _ rfl (.tmp 5) (.tmp 6) 100 rfl w.heap.size 138 i0 zK 9 120 Tryz.underlying100 hi0 hz0 hz1 hz2 rfl (by decide) _ 0 (kfl []) rfl hrow (some ad) L.length cap (kfl L) rfl (kfl_length L) hs (kfl_one _) (by unfold maxLen; omega) (by omega) hsz ?_)
    intro v2 w4 hown4 hgrow4 _
    have hB4 := hB.grown hgrow4 hsz (fun q e => (hrow.lt q e).1)
    rw [show kfl [] ++ kfl L = kfl L from rfl] at hown4
    clear hgrow4 hrow hB hs hsz
    go_wp2
    go_ret
    exact ⟨⟨_, rfl, hown4⟩, hB4⟩
/-- A row stays owned while its block stands. -/
theorem owns_keep {w w' : World} {base : Nat} {e : TypeId} {size : Nat} {v : Value} {n : Nat} {xs : List Value} (h : w.ownsRow base e size v n xs) (hb : ∀ g, v.ownBlock = some g → w'.heap[g]? = w.heap[g]?) : w'.ownsRow base e size v n xs := by
  obtain ⟨h1, h2⟩ := h
  refine ⟨h1, ?_⟩
  rcases h2 with h2 | ⟨g, cap, cur, hv, hg, hh, r⟩
  · exact .inl h2
  · exact .inr ⟨g, cap, cur, hv, hg, by rw [hb g (by rw [hv]; rfl)]; exact hh, r⟩
theorem owns_below {w w' : World} {base : Nat} {e : TypeId} {size : Nat} {v : Value} {n : Nat} {xs : List Value} (h : w.ownsRow base e size v n xs) (hb : Below w.heap.size w w') : w'.ownsRow base e size v n xs := owns_keep h fun g hg => hb.block g (h.lt g hg).2
theorem owns_but {w w' : World} {base b : Nat} {e : TypeId} {size : Nat} {v : Value} {n : Nat} {xs : List Value} (h : w.ownsRow base e size v n xs) (hb : But b w w') (hlt : b < base) : w'.ownsRow base e size v n xs := owns_keep h fun g hg => hb.block g (h.lt g hg).2 (by have := (h.lt g hg).1; omega)
theorem owns_set {w : World} {base : Nat} {e : TypeId} {size : Nat} {v : Value} {n : Nat} {xs : List Value} (h : w.ownsRow base e size v n xs) {p : Addr} (hp : p.block < base) (u : Value) : (w.setCell p u).ownsRow base e size v n xs := owns_keep h fun g hg => Below.heap_setCell _ _ _ _ (by have := (h.lt g hg).1; omega)
/-- A node's box that may be written. -/
def NBw (w : World) (b : Nat) (x : Nd) (h : Hd) : Prop := NBox w b x h ∧ ∀ j, w.frozen? ⟨b, j, none⟩ = false
theorem NBox.lt {w : World} {b : Nat} {x : Nd} {h : Hd} (hk : NBox w b x h) : b < w.heap.size := by
  obtain ⟨k, m, u, g, o, at_, d, ks⟩ := x
  exact World.block_lt_of_cell? _ _ hk.1
theorem NBw.below {w w' : World} {b : Nat} {x : Nd} {h : Hd} (hk : NBw w b x h) (hb : Below w.heap.size w w') : NBw w' b x h :=
  ⟨hk.1.below hb, fun j => (hb.frozen (p := ⟨b, j, none⟩) hk.1.lt).trans (hk.2 j)⟩
theorem NBw.other {w : World} {b : Nat} {x : Nd} {h : Hd} (hk : NBw w b x h) {p : Addr} (hp : p.block ≠ b) (v : Value) : NBw (w.setCell p v) b x h := by
  obtain ⟨k, m, u, g, o, at_, d, ks⟩ := x
  obtain ⟨⟨h0, h1, h2, h3, h4, h5, h6, h7⟩, hf⟩ := hk
  have e : ∀ o, (w.setCell p v).cell? ⟨b, o, none⟩ = w.cell? ⟨b, o, none⟩ := fun o => World.cell?_setCell_other _ _ _ _ (fun e => hp (by rw [e]))
  exact ⟨⟨(e _).trans h0, (e _).trans h1, (e _).trans h2, (e _).trans h3, (e _).trans h4, (e _).trans h5, (e _).trans h6, (e _).trans h7⟩, fun j => by rw [World.frozen?_setCell]; exact hf j⟩
theorem NBw.set5 {w : World} {b : Nat} {k m u g : Int} {o : Bool} {at_ : List Kv} {d : ByteArray} {ks : Kds} {h : Hd} (hk : NBw w b (.mk k m u g o at_ d ks) h) (aa : Option Addr) (ca : Nat) : NBw (w.setCell ⟨b, 5, none⟩ (.slice aa at_.length ca)) b (.mk k m u g o at_ d ks) ⟨aa, ca, h.ak, h.ck⟩ := by
  obtain ⟨⟨h0, h1, h2, h3, h4, h5, h6, h7⟩, hf⟩ := hk
  have e : ∀ o, o ≠ 5 → (w.setCell ⟨b, 5, none⟩ (.slice aa at_.length ca)).cell? ⟨b, o, none⟩ = w.cell? ⟨b, o, none⟩ := fun o ho => World.cell?_setCell_other _ _ _ _ (fun e => ho (Addr.mk.inj e).2.1.symm)
  exact ⟨⟨(e _ (by decide)).trans h0, (e _ (by decide)).trans h1, (e _ (by decide)).trans h2, (e _ (by decide)).trans h3, (e _ (by decide)).trans h4, World.cell?_setCell_same _ _ _ h5, (e _ (by decide)).trans h6, (e _ (by decide)).trans h7⟩, fun j => by rw [World.frozen?_setCell]; exact hf j⟩
theorem NBw.set7 {w : World} {b : Nat} {k m u g : Int} {o : Bool} {at_ : List Kv} {d : ByteArray} {ks : Kds} {h : Hd} (hk : NBw w b (.mk k m u g o at_ d ks) h) (ks' : Kds) (ak : Option Addr) (ck : Nat) : NBw (w.setCell ⟨b, 7, none⟩ (.slice ak ks'.length ck)) b (.mk k m u g o at_ d ks') ⟨h.aa, h.ca, ak, ck⟩ := by
  obtain ⟨⟨h0, h1, h2, h3, h4, h5, h6, h7⟩, hf⟩ := hk
  have e : ∀ o, o ≠ 7 → (w.setCell ⟨b, 7, none⟩ (.slice ak ks'.length ck)).cell? ⟨b, o, none⟩ = w.cell? ⟨b, o, none⟩ := fun o ho => World.cell?_setCell_other _ _ _ _ (fun e => ho (Addr.mk.inj e).2.1.symm)
  exact ⟨⟨(e _ (by decide)).trans h0, (e _ (by decide)).trans h1, (e _ (by decide)).trans h2, (e _ (by decide)).trans h3, (e _ (by decide)).trans h4, (e _ (by decide)).trans h5, (e _ (by decide)).trans h6, World.cell?_setCell_same _ _ _ h7⟩, fun j => by rw [World.frozen?_setCell]; exact hf j⟩
theorem NBw.new (w : World) (k m u g : Int) (o : Bool) (at_ : List Kv) (d : ByteArray) (ks : Kds) (h : Hd) : NBw (w.alloc (.cells #[.int .i64 k, .int .i64 m, .int .i64 u, .int .i64 g, .bool o, .slice h.aa at_.length h.ca, .string d, .slice h.ak ks.length h.ck] 102)) w.heap.size (.mk k m u g o at_ d ks) h :=
  ⟨NBox.new w k m u g o at_ d ks h, fun _j => World.frozen?_alloc_new _ _ _ _⟩
def zH : Hd := ⟨none, 0, none, 0⟩
theorem NBw.zero (w : World) : NBw (w.alloc (.cells #[.int .i64 0, .int .i64 0, .int .i64 0, .int .i64 0, .bool false, .slice none 0 0, .string ⟨#[]⟩, .slice none 0 0] 102)) w.heap.size zN zH := NBw.new w 0 0 0 0 false [] ⟨#[]⟩ [] zH
/-- A box stored whole, cell by cell. -/
def stB (w : World) (b : Nat) : Nd → Hd → World
  | .mk k m u g o at_ d ks, h => (((((((w.setCell ⟨b, 0, none⟩ (.int .i64 k)).setCell ⟨b, 1, none⟩ (.int .i64 m)).setCell ⟨b, 2, none⟩ (.int .i64 u)).setCell ⟨b, 3, none⟩ (.int .i64 g)).setCell ⟨b, 4, none⟩ (.bool o)).setCell ⟨b, 5, none⟩ (.slice h.aa at_.length h.ca)).setCell ⟨b, 6, none⟩ (.string d)).setCell ⟨b, 7, none⟩ (.slice h.ak ks.length h.ck)
theorem stB_eq (w : World) (b : Nat) (x : Nd) (h : Hd) : stB w b x h = st8 w b 0 x h := by
  obtain ⟨k, m, u, g, o, at_, d, ks⟩ := x
  rfl
theorem NBw.store {w : World} {b : Nat} {y : Nd} {h' : Hd} (hk : NBw w b y h') (x : Nd) (h : Hd) : NBw (stB w b x h) b x h := by
  rw [stB_eq]
  exact ⟨NAt.box (st8_at hk.1.at), fun j => (st8_frozen _).trans (hk.2 j)⟩
theorem stB_but {w : World} {b : Nat} {x : Nd} {h : Hd} : But b w (stB w b x h) := by rw [stB_eq]; exact st8_but
set_option maxRecDepth 100000 in
set_option maxHeartbeats 2000000 in
theorem apart_any {w : World} {S : Nat → Bool} (hS : ∀ k, S k = true → k < w.heap.size) {x : Nd} {h : Hd} (hN : NdV (offS w.cell? S) x h) (W : World) (hW : Below w.heap.size w W) (hlim : Lim x) :
    Calls Tryz.prog 71 #[ndV x h] W fun e W' => (∃ h', e = .returned (ndV x h') ∧ NdV (offS W'.cell? S) x h' ∧ FreshK W.heap.size W' h'.ak x.kids) ∧ Below W.heap.size W W' := by
  obtain ⟨k, m, u, g, o, at_, d, ks⟩ := x
  rw [Lim] at hlim
  obtain ⟨ha, hca, hck, hks⟩ := ndV_iff.1 (hN.on (mle_S hW))
  obtain ⟨hla, hlk, _⟩ := hlim
  obtain ⟨L, hL, hKH⟩ := ksV_ksH hks
  have hll : ks.length = L.length := by rw [← hL, bare_length]
  have HL : Hid (bare L = ks) := hL
  have HLL : Hid (ks.length = L.length) := hll
  have hlL : L.length ≤ 1000 := by omega
  have hSW : ∀ k, S k = true → k < W.heap.size := fun k hk => Nat.lt_of_lt_of_le (hS k hk) hW.size
  clear hN hW hks hL hll hlk hS
  show Calls Tryz.prog 71 #[.agg #[.int .i64 k, .int .i64 m, .int .i64 u, .int .i64 g, .bool o, .slice h.aa at_.length h.ca, .string d, .slice h.ak ks.length h.ck]] _ _
  have B0 := NBw.new W k m u g o at_ d ks h
  have hB0 : Below W.heap.size W (W.alloc (.cells #[.int .i64 k, .int .i64 m, .int .i64 u, .int .i64 g, .bool o, .slice h.aa at_.length h.ca, .string d, .slice h.ak ks.length h.ck] 102)) := (Below.refl _ _).alloc (Nat.le_refl _) _
  have R1 := NBw.zero (W.alloc (.cells #[.int .i64 k, .int .i64 m, .int .i64 u, .int .i64 g, .bool o, .slice h.aa at_.length h.ca, .string d, .slice h.ak ks.length h.ck] 102))
  rw [World.size_alloc] at R1
  have B1 := B0.below ((Below.refl _ _).alloc (Nat.le_refl _) (.cells #[.int .i64 0, .int .i64 0, .int .i64 0, .int .i64 0, .bool false, .slice none 0 0, .string ⟨#[]⟩, .slice none 0 0] 102))
  have hB1 : Below W.heap.size W ((W.alloc (.cells #[.int .i64 k, .int .i64 m, .int .i64 u, .int .i64 g, .bool o, .slice h.aa at_.length h.ca, .string d, .slice h.ak ks.length h.ck] 102)).alloc (.cells #[.int .i64 0, .int .i64 0, .int .i64 0, .int .i64 0, .bool false, .slice none 0 0, .string ⟨#[]⟩, .slice none 0 0] 102)) := hB0.alloc hB0.size _
  have ha1 := (ha.on (offS_le _ _)).below hB1
  have hs1 : W.heap.size + 2 ≤ ((W.alloc (.cells #[.int .i64 k, .int .i64 m, .int .i64 u, .int .i64 g, .bool o, .slice h.aa at_.length h.ca, .string d, .slice h.ak ks.length h.ck] 102)).alloc (.cells #[.int .i64 0, .int .i64 0, .int .i64 0, .int .i64 0, .bool false, .slice none 0 0, .string ⟨#[]⟩, .slice none 0 0] 102)).heap.size := by simp
  obtain ⟨⟨y0, y1, y2, y3, y4, y5, y6, y7⟩, y8⟩ := id B1
  clear B0 hB0
  go_enter Tryz.func71, Tryz.ntmps71
  go_wp2_with fail
  refine (cloneA_any h.aa h.ca at_ _ hla ha1).mono ?_
  rintro e w2 ⟨⟨vA, rfl, hA2⟩, b2⟩
  have B2 := B1.below b2
  have R2 := R1.below b2
  have hB2 := hB1.trans (b2.mono hB1.size)
  have hs2 := Nat.le_trans hs1 b2.size
  generalize ((W.alloc (.cells #[.int .i64 k, .int .i64 m, .int .i64 u, .int .i64 g, .bool o, .slice h.aa at_.length h.ca, .string d, .slice h.ak ks.length h.ck] 102)).alloc (.cells #[.int .i64 0, .int .i64 0, .int .i64 0, .int .i64 0, .bool false, .slice none 0 0, .string ⟨#[]⟩, .slice none 0 0] 102)).heap.size = base at hs1 hA2
  clear y0 y1 y2 y3 y4 y5 y6 y7 y8 B1 R1 hB1 b2 ha1 ha
  generalize hsz : W.heap.size = nb at B2 R2 hs1 hs2 ⊢
  obtain ⟨a2, c2, hv2, hc2, hc2', hA2'⟩ := kvm_of_owns hA2
  rw [hv2] at hA2 ⊢
  clear hv2
  have B3 := B2.set5 a2 c2
  have R3 := R2.other (p := ⟨nb, 5, none⟩) (by simp) (.slice a2 at_.length c2)
  have hA3 := owns_set hA2 (p := ⟨nb, 5, none⟩) (show nb < base by omega) (.slice a2 at_.length c2)
  have hB3 := hB2.setCell (p := ⟨nb, 5, none⟩) (by show W.heap.size ≤ nb; omega) (.slice a2 at_.length c2)
  have hs3 : nb + 2 ≤ (w2.setCell ⟨nb, 5, none⟩ (.slice a2 at_.length c2)).heap.size := by rw [World.size_setCell]; exact hs2
  have hK3 := (hKH.on (offS_le _ _)).on (mle_below hB3)
  obtain ⟨⟨y0, y1, y2, y3, y4, y5, y6, y7⟩, y8⟩ := B2
  have z7 := B3.1.2.2.2.2.2.2.2
  clear hA2 hA2' R2 hB2 hs2
  go_wp2_with fail
  rw [HLL.out]
  refine (cloneK_any h.ak h.ck L _ hlL hK3).mono ?_
  rintro e w4 ⟨⟨vK, rfl, hK4⟩, b4⟩
  have B4 := B3.below b4
  have R4 := R3.below b4
  have hA4 := owns_below hA3 b4
  have hB4 := hB3.trans (b4.mono hB3.size)
  have hs4 := Nat.le_trans hs3 b4.size
  generalize (w2.setCell ⟨nb, 5, none⟩ (.slice a2 at_.length c2)).heap.size = base2 at hs3 hK4
  clear y0 y1 y2 y3 y4 y5 y6 y7 y8 z7 B3 R3 hA3 hB3 b4 hK3
  obtain ⟨a4, c4, hv4, hc4, hc4', hf4⟩ := owns_cells hK4
  clear hf4
  rw [hv4] at hK4 ⊢
  clear hv4
  rw [← HLL.out] at hK4 hc4 ⊢
  have B5 := B4.set7 ks a4 c4
  have R5 := R4.other (p := ⟨nb, 7, none⟩) (by simp) (.slice a4 ks.length c4)
  have hA5 := owns_set hA4 (p := ⟨nb, 7, none⟩) (show nb < base by omega) (.slice a4 ks.length c4)
  have hK5 := owns_set hK4 (p := ⟨nb, 7, none⟩) (show nb < base2 by omega) (.slice a4 ks.length c4)
  have hB5 := hB4.setCell (p := ⟨nb, 7, none⟩) (by show W.heap.size ≤ nb; omega) (.slice a4 ks.length c4)
  obtain ⟨⟨y0, y1, y2, y3, y4, y5, y6, y7⟩, y8⟩ := B4
  clear hA4 hK4 hB4 R4
  obtain ⟨⟨x0, x1, x2, x3, x4, x5, x6, x7⟩, x8⟩ := id B5
  obtain ⟨⟨z0, z1, z2, z3, z4, z5, z6, z7⟩, z8⟩ := id R5
  have R6 := R5.store (.mk k m u g o at_ d ks) ⟨a2, c2, a4, c4⟩
  have b6 : But (nb + 1) (w4.setCell ⟨nb, 7, none⟩ (.slice a4 ks.length c4)) (stB (w4.setCell ⟨nb, 7, none⟩ (.slice a4 ks.length c4)) (nb + 1) (.mk k m u g o at_ d ks) ⟨a2, c2, a4, c4⟩) := stB_but
  have hA6 := owns_but hA5 b6 (by omega)
  have hK6 := owns_but hK5 b6 (by omega)
  have hB6 := hB5.trans (b6.below (B := W.heap.size) (by omega) (by have := hB5.size; omega))
  generalize hw6 : stB (w4.setCell ⟨nb, 7, none⟩ (.slice a4 ks.length c4)) (nb + 1) (.mk k m u g o at_ d ks) ⟨a2, c2, a4, c4⟩ = w6 at R6 b6 hA6 hK6 hB6
  have HW6 : Hid (stB (w4.setCell ⟨nb, 7, none⟩ (.slice a4 ks.length c4)) (nb + 1) (.mk k m u g o at_ d ks) ⟨a2, c2, a4, c4⟩ = w6) := hw6
  clear hw6 b6 hA5 hK5 hB5 R5
  go_wp2
  have hw6 := HW6.out
  simp only [stB] at hw6
  rw [hw6]
  clear hw6 HW6 x0 x1 x2 x3 x4 x5 x6 x7 x8 y0 y1 y2 y3 y4 y5 y6 y7 y8 z0 z1 z2 z3 z4 z5 z6 z7 z8
  obtain ⟨a7, c7, e7, h71, h72, hA7⟩ := kvm_of_ownsS (S := S) (fun k hk => by have := hSW k hk; omega) hA6
  have hNL : ∀ e ∈ L, NdV (offS w6.cell? S) e.2.1 e.2.2 := fun e he => (hKH.2 e he).on (mle_S hB6)
  obtain ⟨a8, c8, e8, h81, h82, hK8, hF8⟩ := ksH_of_ownsS (fun k hk => by have := hSW k hk; omega) hK6 hNL
  simp only [Value.slice.injEq, true_and] at e7 e8
  obtain ⟨rfl, rfl⟩ := e7
  obtain ⟨rfl, rfl⟩ := e8
  obtain ⟨r0, r1, r2, r3, r4, r5, r6, r7⟩ := R6.1
  refine bodyPost_ret (v := ndV (.mk k m u g o at_ d ks) ⟨a2, c2, a4, c4⟩) (by simp [results, Tryz.results71, go_sem, ndV, r0, r1, r2, r3, r4, r5, r6, r7]) rfl ⟨⟨⟨a2, c2, a4, c4⟩, rfl, ?_, ?_⟩, ?_⟩
  · refine ndV_iff.2 ⟨hA7, ⟨h71, h72⟩, ⟨h81, h82⟩, ?_⟩
    have := ksH_ksV hK8
    rw [HL.out] at this
    exact this
  · rw [HL.out] at hF8
    rcases hF8 with e | ⟨gg, e1, e2, e3, e4⟩
    · exact .inl e
    · exact .inr ⟨gg, e1, by omega, e3, e4⟩
  · exact hB6
end Go.Proofs.YtkjknbjjchdjlaaGreatDoor
namespace Go.Proofs.YtkjknbjjchdjlaaGreatDoor
open Go.RowKit
theorem Tryz.infoB : (Tryz.prog.info? 5).map (fun i => (i.zero, i.size, i.bytes)) = some (some (.int .u8 0), 1, 1) := by kernel_rfl
theorem one_byte (w : World) (z : Int) (t : TypeId) : ∀ j u, (bc [b8 z])[j]? = some u → (w.alloc (.cells #[.int .u8 (IntKind.u8.wrap z)] t)).cell? ((⟨w.heap.size, 0, none⟩ : Addr).add j) = some u := by
  intro j u hj
  rw [addr_add, Nat.zero_add]
  refine (World.cell?_alloc_at _ _ _ _ rfl).trans ?_
  cases j with
  | zero =>
    simp [bc] at hj
    subst hj
    simp [IntKind.wrap_u8, b8_val]
  | succ j => simp [bc] at hj
theorem gr_app {w w' : World} {o : Obj} {v v' : Value} (hg : (w.alloc o).grownBy w' v.ownBlock) (ho : v'.ownBlock = v.ownBlock ∨ v'.ownBlock = some (w.heap.size + 1)) : Gr w w' v v' := by
  refine ⟨?_, ?_⟩
  · obtain ⟨a1, a2, a3, a4, a5⟩ := hg
    have b := (Below.refl _ w).alloc (Nat.le_refl _) o
    exact ⟨a1.trans b.os, a2.trans b.tape, a3.trans b.output, Nat.le_trans b.size a4, fun q hq hne => (a5 q (Nat.lt_of_lt_of_le hq b.size) hne).trans (b.block q hq)⟩
  · rcases ho with e | e
    · exact .inl e
    · exact .inr ⟨_, e, by omega⟩
theorem Gr.size {w w' : World} {v v' : Value} (h : Gr w w' v v') : w.heap.size ≤ w'.heap.size := h.g.size
set_option maxRecDepth 100000 in
set_option maxHeartbeats 1000000 in
theorem layText_any {base : Nat} (s : ByteArray) (W : World) (v : Value) (n : Nat) (xs : List Value) (hrow : W.ownsRow base 5 1 v n xs) (hbase : base ≤ W.heap.size) (hn : n + s.size ≤ 90000000) :
    Calls Tryz.prog 93 #[v, .string s] W fun e w' => ∃ v', e = .returned v' ∧ w'.ownsRow base 5 1 v' (n + (1 + s.size)) (xs ++ bc (txt s)) ∧ Gr W w' v v' := by
  obtain ⟨i0, hi0, hz0, hz1, hz2⟩ := info_three Tryz.infoB
  have HROW : Hid (W.ownsRow base 5 1 v n xs) := hrow
  clear hrow
  go_enter Tryz.func93, Tryz.ntmps93
  go_wp2_with (at_builtin; refine wpList_append_src (W.alloc (.cells #[.int .u8 (IntKind.u8.wrap s.size)] 5)) rfl (.tmp 5) (.tmp 9) 48 rfl base 5 i0 (.int .u8 0) 1 1 Tryz.underlying48 hi0 hz0 hz1 hz2 rfl (by decide) v n xs rfl (HROW.out.alloc _) (some ⟨W.heap.size, 0, none⟩) 1 1 (bc [b8 s.size]) rfl rfl (.inr ⟨_, rfl, one_byte _ _ _⟩) (bc_one _) (by unfold maxLen; omega) (by omega) (by rw [World.size_alloc]; omega) ?_)
  intro v1 w1 hown1 hgr1 ho1
  have G1 : Gr W w1 v v1 := gr_app hgr1 ho1
  have hb1 : base ≤ w1.heap.size := Nat.le_trans hbase G1.size
  have HG1 : Hid (Gr W w1 v v1) := G1
  clear hgr1 ho1 G1 HROW
  go_wp2_with (at_builtin; refine wpList_append_str w1 rfl (.tmp 11) (.tmp 12) 48 9 rfl base 5 i0 Tryz.underlying48 Tryz.underlying9 hi0 hz0 hz1 hz2 v1 (n + 1) (xs ++ bc [b8 s.size]) rfl hown1 (by omega) s rfl (by omega) hb1 ?_)
  intro v2 w2 hown2 G2
  go_wp2
  go_ret
  refine ⟨v2, rfl, ?_, HG1.out.trans G2⟩
  rw [show n + (1 + s.size) = n + 1 + s.size by omega, show bc (txt s) = bc [b8 s.size] ++ bc s.data.toList from by rw [← bc_append]; rfl]
  exact hown2
end Go.Proofs.YtkjknbjjchdjlaaGreatDoor
namespace Go.Proofs.YtkjknbjjchdjlaaGreatDoor
open Go.RowKit
mutual
/-- All numbers small. -/
def Sml : Nd → Prop
  | .mk k m u g _ at_ d ks => (0 ≤ k ∧ k ≤ 100) ∧ (0 ≤ m ∧ m ≤ 65535) ∧ (0 ≤ u ∧ u ≤ 65535) ∧ (0 ≤ g ∧ g ≤ 65535) ∧ (at_.length ≤ 1000 ∧ ∀ r ∈ at_, r.n.size ≤ 1000 ∧ r.v.size ≤ 1000) ∧ d.size ≤ 1000 ∧ ks.length ≤ 1000 ∧ SmlL ks
def SmlL : Kds → Prop
  | [] => True
  | p :: l => p.1.size ≤ 1000 ∧ Sml p.2 ∧ SmlL l
end
theorem smlL_get : ∀ {ks : Kds} {i : Nat} {n : ByteArray} {x : Nd}, SmlL ks → ks[i]? = some (n, x) → n.size ≤ 1000 ∧ Sml x
  | [], i, n, x, _, h => by simp at h
  | p :: l, 0, n, x, h, e => by
    rw [SmlL] at h
    simp at e
    subst e
    exact ⟨h.1, h.2.1⟩
  | p :: l, i + 1, n, x, h, e => by
    rw [SmlL] at h
    exact smlL_get h.2.2 (by simpa using e)
structure LS (w0 W wr : World) (v vr : Value) (n : Nat) (xs : List Value) (sb : Nat) (x : Nd) (h : Hd) (pre : List UInt8) : Prop where
  row : wr.ownsRow w0.heap.size 5 1 vr (n + pre.length) (xs ++ bc pre)
  gr : Gr W wr v vr
  box : NBox wr sb x h
  ne : some sb ≠ vr.ownBlock
  low : Below w0.heap.size w0 wr
theorem NBox.gr {w w' : World} {v v' : Value} {sb : Nat} {x : Nd} {h : Hd} (hb : NBox w sb x h) (hg : Gr w w' v v') (hne : some sb ≠ v.ownBlock) : NBox w' sb x h := by
  have hlt := hb.lt
  obtain ⟨k, m, u, g, o, at_, d, ks⟩ := x
  have q : ∀ j, w'.cell? ⟨sb, j, none⟩ = w.cell? ⟨sb, j, none⟩ := fun j => World.cell?_of_block (w := w) (hg.g.block sb hlt hne)
  obtain ⟨e0, e1, e2, e3, e4, e5, e6, e7⟩ := hb
  exact ⟨(q 0).trans e0, (q 1).trans e1, (q 2).trans e2, (q 3).trans e3, (q 4).trans e4, (q 5).trans e5, (q 6).trans e6, (q 7).trans e7⟩
theorem gr_ne {w w' : World} {v v' : Value} {sb : Nat} (hg : Gr w w' v v') (hlt : sb < w.heap.size) (hne : some sb ≠ v.ownBlock) : some sb ≠ v'.ownBlock := by
  rcases hg.o with e | ⟨s, e, hs⟩
  · rw [e]; exact hne
  · rw [e]; intro q
    have : sb = s := by simpa using q
    omega
theorem LS.app {w0 W wr w' : World} {v vr v' : Value} {n : Nat} {xs : List Value} {sb : Nat} {x : Nd} {h : Hd} {pre : List UInt8} (H : LS w0 W wr v vr n xs sb x h pre) (hg : Gr wr w' vr v') (piece : List UInt8) {q : Nat} (hrow : w'.ownsRow w0.heap.size 5 1 v' q (xs ++ (bc pre ++ bc piece))) (hq : q = n + pre.length + piece.length) : LS w0 W w' v v' n xs sb x h (pre ++ piece) := by
  refine ⟨?_, H.gr.trans hg, H.box.gr hg H.ne, gr_ne hg H.box.lt H.ne, ?_⟩
  · rw [List.length_append, bc_append, ← Nat.add_assoc, ← hq]; exact hrow
  · exact H.low.grown hg.g H.low.size (fun q e => (H.row.lt q e).1)
theorem LS.alloc {w0 W wr : World} {v vr : Value} {n : Nat} {xs : List Value} {sb : Nat} {x : Nd} {h : Hd} {pre : List UInt8} (H : LS w0 W wr v vr n xs sb x h pre) (o : Obj) : LS w0 W (wr.alloc o) v vr n xs sb x h pre := by
  have b : Below wr.heap.size wr (wr.alloc o) := (Below.refl _ _).alloc (Nat.le_refl _) o
  exact ⟨H.row.alloc _, H.gr.trans ⟨⟨b.os, b.tape, b.output, b.size, fun q hq _ => b.block q hq⟩, .inl rfl⟩, H.box.below b, H.ne, H.low.trans (b.mono H.low.size)⟩
theorem LS.drew {w0 W wr : World} {v vr : Value} {n : Nat} {xs : List Value} {sb : Nat} {x : Nd} {h : Hd} {pre : List UInt8} (H : LS w0 W wr v vr n xs sb x h pre) : LS w0 W wr.drew v vr n xs sb x h pre := by
  have b : Below wr.heap.size wr wr.drew := below_drewN (Below.refl _ wr) 1
  exact ⟨H.row.drew, H.gr.trans ⟨⟨b.os, b.tape, b.output, b.size, fun q hq _ => b.block q hq⟩, .inl rfl⟩, H.box.below b, H.ne, H.low.trans (b.mono H.low.size)⟩
theorem LS.start {w0 W : World} {v : Value} {n : Nat} {xs : List Value} (hW : Below w0.heap.size w0 W) (hrow : W.ownsRow w0.heap.size 5 1 v n xs) (k m u g : Int) (o : Bool) (at_ : List Kv) (d : ByteArray) (ks : Kds) (h : Hd) :
    LS w0 W (W.alloc (.cells #[.int .i64 k, .int .i64 m, .int .i64 u, .int .i64 g, .bool o, .slice h.aa at_.length h.ca, .string d, .slice h.ak ks.length h.ck] 102)) v v n xs W.heap.size (.mk k m u g o at_ d ks) h [] := by
  have b : Below W.heap.size W (W.alloc (.cells #[.int .i64 k, .int .i64 m, .int .i64 u, .int .i64 g, .bool o, .slice h.aa at_.length h.ca, .string d, .slice h.ak ks.length h.ck] 102)) := (Below.refl _ _).alloc (Nat.le_refl _) _
  refine ⟨?_, ⟨⟨b.os, b.tape, b.output, b.size, fun q hq _ => b.block q hq⟩, .inl rfl⟩, NBox.new W k m u g o at_ d ks h, ?_, hW.trans (b.mono hW.size)⟩
  · have := hrow.alloc (.cells #[.int .i64 k, .int .i64 m, .int .i64 u, .int .i64 g, .bool o, .slice h.aa at_.length h.ca, .string d, .slice h.ak ks.length h.ck] 102)
    rw [show bc [] = [] from rfl, List.append_nil]
    exact this
  · intro e
    have := (hrow.lt _ e.symm).2
    omega
theorem one_byteR (w : World) (z : Int) (t : TypeId) (hz : 0 ≤ z ∧ z ≤ 255) : ∀ j u, (bc [b8 z])[j]? = some u → (w.alloc (.cells #[.int .u8 z] t)).cell? ((⟨w.heap.size, 0, none⟩ : Addr).add j) = some u := by
  have e : IntKind.u8.wrap z = z := by rw [IntKind.wrap_u8]; omega
  have := one_byte w z t
  rwa [e] at this
theorem idx3 (x y z : Value) (w : World) : (Instr.index 165 (.agg #[x, y, z]) (.int .i64 0)).run Tryz.prog w = .ok x w ∧ (Instr.index 165 (.agg #[x, y, z]) (.int .i64 1)).run Tryz.prog w = .ok y w ∧ (Instr.index 165 (.agg #[x, y, z]) (.int .i64 2)).run Tryz.prog w = .ok z w := ⟨by kernel_rfl, by kernel_rfl, by kernel_rfl⟩
def n2L : List Int → List UInt8
  | [] => []
  | z :: l => num2 z ++ n2L l
/-- Two bytes. -/
theorem two_bytesR (w : World) (z : Int) (t : TypeId) (hz : 0 ≤ z ∧ z ≤ 65535) : ∀ j u, (bc (num2 z))[j]? = some u → (w.alloc (.cells #[.int .u8 (z / 256), .int .u8 (z % 256)] t)).cell? ((⟨w.heap.size, 0, none⟩ : Addr).add j) = some u := by
  intro j u hj
  rw [addr_add, Nat.zero_add]
  refine (World.cell?_alloc_at _ _ _ _ rfl).trans ?_
  have e : z / 256 % 256 = z / 256 := by omega
  match j with
  | 0 => simp [bc, num2] at hj; subst hj; simp [b8_val, e]
  | 1 => simp [bc, num2] at hj; subst hj; simp [b8_val]
  | j + 2 => simp [bc, num2] at hj
theorem num2_length (z : Int) : (num2 z).length = 2 := rfl
theorem atB_drop {l : List Kv} {j : Nat} {r : Kv} (h : l[j]? = some r) : atB (l.drop j) = txt r.n ++ (txt r.v ++ atB (l.drop (j + 1))) := by
  obtain ⟨hlt, he⟩ := List.getElem?_eq_some_iff.1 h
  rw [List.drop_eq_getElem_cons hlt, he, atB]
theorem byL_drop {l : Kds} {j : Nat} {m : ByteArray} {x : Nd} (h : l[j]? = some (m, x)) : byL (l.drop j) = txt m ++ (byN x ++ byL (l.drop (j + 1))) := by
  obtain ⟨hlt, he⟩ := List.getElem?_eq_some_iff.1 h
  rw [List.drop_eq_getElem_cons hlt, he, byL]
end Go.Proofs.YtkjknbjjchdjlaaGreatDoor
