/-
  A NODE's BOX, where another block is written.
  WHAT slices.Clone DOES, of attributes and of kids, AND apart: the walks.
  WHAT place AND above DO, by slices.IndexFunc; slices.Grow AND slices.Concat OF KIDS: the walks.
  THE KIDS OF A NAME, of spots: the walks.
-/
import Derived.Test.YtlbabnffiibnpaaGreatWaY
import Derived.Test.YtlbabnffiibnpaaGreatApX
import Derived.Test.YtlbabnffiibnpaaGreatNpX
import Derived.Test.YtlbabnffiibnpaaGreatWbY
import Derived.Lib.SliceRun
import Derived.Lib.AppendZeros
namespace Go.Proofs.YtlbabnffiibnpaaGreat
open Go.RowKit
theorem NBox.but {w w' : World} {b b' : Nat} {x : Nd} {h : Hd} (hk : NBox w b x h) (hb : But b' w w') (hne : b ≠ b') : NBox w' b x h := by
  obtain ⟨k, m, u, g, o, at_, d, ks⟩ := x
  obtain ⟨h0, h1, h2, h3, h4, h5, h6, h7⟩ := hk
  have hl : b < w.heap.size := World.block_lt_of_cell? _ _ h0
  exact ⟨(hb.cell (p := ⟨b, 0, none⟩) hl hne).trans h0, (hb.cell (p := ⟨b, 1, none⟩) hl hne).trans h1, (hb.cell (p := ⟨b, 2, none⟩) hl hne).trans h2, (hb.cell (p := ⟨b, 3, none⟩) hl hne).trans h3, (hb.cell (p := ⟨b, 4, none⟩) hl hne).trans h4,
    (hb.cell (p := ⟨b, 5, none⟩) hl hne).trans h5, (hb.cell (p := ⟨b, 6, none⟩) hl hne).trans h6, (hb.cell (p := ⟨b, 7, none⟩) hl hne).trans h7⟩
end Go.Proofs.YtlbabnffiibnpaaGreat
namespace Go.Proofs.YtlbabnffiibnpaaGreat
open Go.RowKit
theorem Tryz.infoA : (Tryz.prog.info? 82).map (fun i => (i.zero, i.size, i.bytes)) = some (some (.agg #[.string ⟨#[]⟩, .string ⟨#[]⟩]), 2, 32) := by kernel_rfl
theorem info_three {P : Program} {t : TypeId} {z : Value} {n m : Nat} (h : (P.info? t).map (fun i => (i.zero, i.size, i.bytes)) = some (some z, n, m)) : ∃ i, P.info? t = some i ∧ i.zero = some z ∧ i.size = n ∧ i.bytes = m := by
  cases hi : P.info? t with
  | none => rw [hi] at h; cases h
  | some i => rw [hi] at h; simp at h; exact ⟨i, rfl, h.1, h.2.1, h.2.2⟩
abbrev zK : Value := .agg #[.string ⟨#[]⟩, .int .i64 0, .int .i64 0, .int .i64 0, .int .i64 0, .bool false, .slice none 0 0, .string ⟨#[]⟩, .slice none 0 0]
theorem Tryz.infoK : (Tryz.prog.info? 61).map (fun i => (i.zero, i.size, i.bytes)) = some (some zK, 9, 120) := by kernel_rfl
set_option maxRecDepth 100000 in
set_option maxHeartbeats 1000000 in
theorem cloneA_any (a : Option Addr) (cap : Nat) (l : List Kv) (w : World) (hl : l.length ≤ 1000) (h : Kvm w.cell? a l) :
    Calls Tryz.prog 48 #[.slice a l.length cap] w fun e w' => (∃ v, e = .returned v ∧ w'.ownsRow w.heap.size 82 2 v l.length (flat l)) ∧ Below w.heap.size w w' := by
  have hnil := fun (W : World) (n c : Nat) => Lib.run_eql_slice_nil (P := Tryz.prog) W 31 82 a n c 0 0 Tryz.underlying31
  cases a with
  | none =>
    have hl0 : l = [] := by
      rcases h with e | ⟨b, off, e, _⟩
      · exact e
      · cases e
    subst hl0
    go_enter Tryz.func48, Tryz.ntmps48
    go_wp2
    go_ret
    exact ⟨⟨_, rfl, World.ownsRow_nil _ _ _ _⟩, Below.refl _ _⟩
  | some ad =>
    obtain ⟨i0, hi0, hz0, hz1, hz2⟩ := info_three Tryz.infoA
    have hB : Below w.heap.size w (w.alloc (.cells #[] 82)) := (Below.refl _ _).alloc (Nat.le_refl _) _
    have hrow : (w.alloc (.cells #[] 82)).ownsRow w.heap.size 82 2 (.slice (some ⟨w.heap.size, 0, none⟩) 0 0) 0 (flat []) := World.ownsRow_made w #[] 0 (Nat.le_refl _) (by decide) rfl
    have hs := src_of_kvm (h.below hB)
    have hsz : w.heap.size ≤ (w.alloc (.cells #[] 82)).heap.size := hB.size
    go_enter Tryz.func48, Tryz.ntmps48
    go_wp2_with (at_builtin; refine wpList_append_src _ rfl (.tmp 5) (.tmp 6) 31 rfl w.heap.size 82 i0 (.agg #[.string ⟨#[]⟩, .string ⟨#[]⟩]) 2 32 Tryz.underlying31 hi0 hz0 hz1 hz2 rfl (by decide) _ 0 (flat []) rfl hrow (some ad) l.length cap (flat l) rfl (flat_length l) hs (flat_one _) (by unfold maxLen; omega) (by omega) hsz ?_)
    intro v2 w4 hown4 hgrow4 _
    have hB4 := hB.grown hgrow4 hsz (fun q e => (hrow.lt q e).1)
    rw [show flat [] ++ flat l = flat l from rfl] at hown4
    clear hgrow4 hrow hB hs hsz
    go_wp2
    go_ret
    exact ⟨⟨_, rfl, hown4⟩, hB4⟩
set_option maxRecDepth 100000 in
set_option maxHeartbeats 1000000 in
theorem cloneK_any (a : Option Addr) (cap : Nat) (L : Khs) (w : World) (hl : L.length ≤ 1000) (h : KsH w.cell? a L) :
    Calls Tryz.prog 49 #[.slice a L.length cap] w fun e w' => (∃ v, e = .returned v ∧ w'.ownsRow w.heap.size 61 9 v L.length (kfl L)) ∧ Below w.heap.size w w' := by
  have hnil := fun (W : World) (n c : Nat) => Lib.run_eql_slice_nil (P := Tryz.prog) W 32 61 a n c 0 0 Tryz.underlying32
  cases a with
  | none =>
    have hl0 : L = [] := by
      rcases h.1 with e | ⟨b, off, e, _⟩
      · exact e
      · cases e
    subst hl0
    go_enter Tryz.func49, Tryz.ntmps49
    go_wp2
    go_ret
    exact ⟨⟨_, rfl, World.ownsRow_nil _ _ _ _⟩, Below.refl _ _⟩
  | some ad =>
    obtain ⟨i0, hi0, hz0, hz1, hz2⟩ := info_three Tryz.infoK
    have hB : Below w.heap.size w (w.alloc (.cells #[] 61)) := (Below.refl _ _).alloc (Nat.le_refl _) _
    have hrow : (w.alloc (.cells #[] 61)).ownsRow w.heap.size 61 9 (.slice (some ⟨w.heap.size, 0, none⟩) 0 0) 0 (kfl []) := World.ownsRow_made w #[] 0 (Nat.le_refl _) (by decide) rfl
    have hs := src_of_ksH (h.on (mle_below hB))
    have hsz : w.heap.size ≤ (w.alloc (.cells #[] 61)).heap.size := hB.size
    go_enter Tryz.func49, Tryz.ntmps49
    go_wp2_with (at_builtin; refine wpList_append_src _ rfl (.tmp 5) (.tmp 6) 32 rfl w.heap.size 61 i0 zK 9 120 Tryz.underlying32 hi0 hz0 hz1 hz2 rfl (by decide) _ 0 (kfl []) rfl hrow (some ad) L.length cap (kfl L) rfl (kfl_length L) hs (kfl_one _) (by unfold maxLen; omega) (by omega) hsz ?_)
    intro v2 w4 hown4 hgrow4 _
    have hB4 := hB.grown hgrow4 hsz (fun q e => (hrow.lt q e).1)
    rw [show kfl [] ++ kfl L = kfl L from rfl] at hown4
    clear hgrow4 hrow hB hs hsz
    go_wp2
    go_ret
    exact ⟨⟨_, rfl, hown4⟩, hB4⟩
/-- A row stays owned while its block stands. -/
theorem owns_keep {w w' : World} {base : Nat} {e : TypeId} {size : Nat} {v : Value} {n : Nat} {xs : List Value} (h : w.ownsRow base e size v n xs) (hb : ∀ g, v.ownBlock = some g → w'.heap[g]? = w.heap[g]?) : w'.ownsRow base e size v n xs := by
  obtain ⟨h1, h2⟩ := h
  refine ⟨h1, ?_⟩
  rcases h2 with h2 | ⟨g, cap, cur, hv, hg, hh, r⟩
  · exact .inl h2
  · exact .inr ⟨g, cap, cur, hv, hg, by rw [hb g (by rw [hv]; rfl)]; exact hh, r⟩
theorem owns_below {w w' : World} {base : Nat} {e : TypeId} {size : Nat} {v : Value} {n : Nat} {xs : List Value} (h : w.ownsRow base e size v n xs) (hb : Below w.heap.size w w') : w'.ownsRow base e size v n xs := owns_keep h fun g hg => hb.block g (h.lt g hg).2
theorem owns_but {w w' : World} {base b : Nat} {e : TypeId} {size : Nat} {v : Value} {n : Nat} {xs : List Value} (h : w.ownsRow base e size v n xs) (hb : But b w w') (hlt : b < base) : w'.ownsRow base e size v n xs := owns_keep h fun g hg => hb.block g (h.lt g hg).2 (by have := (h.lt g hg).1; omega)
theorem owns_set {w : World} {base : Nat} {e : TypeId} {size : Nat} {v : Value} {n : Nat} {xs : List Value} (h : w.ownsRow base e size v n xs) {p : Addr} (hp : p.block < base) (u : Value) : (w.setCell p u).ownsRow base e size v n xs := owns_keep h fun g hg => Below.heap_setCell _ _ _ _ (by have := (h.lt g hg).1; omega)
/-- A node's box that may be written. -/
def NBw (w : World) (b : Nat) (x : Nd) (h : Hd) : Prop := NBox w b x h ∧ ∀ j, w.frozen? ⟨b, j, none⟩ = false
theorem NBox.lt {w : World} {b : Nat} {x : Nd} {h : Hd} (hk : NBox w b x h) : b < w.heap.size := by
  obtain ⟨k, m, u, g, o, at_, d, ks⟩ := x
  exact World.block_lt_of_cell? _ _ hk.1
theorem NBw.below {w w' : World} {b : Nat} {x : Nd} {h : Hd} (hk : NBw w b x h) (hb : Below w.heap.size w w') : NBw w' b x h :=
  ⟨hk.1.below hb, fun j => (hb.frozen (p := ⟨b, j, none⟩) hk.1.lt).trans (hk.2 j)⟩
theorem NBw.other {w : World} {b : Nat} {x : Nd} {h : Hd} (hk : NBw w b x h) {p : Addr} (hp : p.block ≠ b) (v : Value) : NBw (w.setCell p v) b x h := by
  obtain ⟨k, m, u, g, o, at_, d, ks⟩ := x
  obtain ⟨⟨h0, h1, h2, h3, h4, h5, h6, h7⟩, hf⟩ := hk
  have e : ∀ o, (w.setCell p v).cell? ⟨b, o, none⟩ = w.cell? ⟨b, o, none⟩ := fun o => World.cell?_setCell_other _ _ _ _ (fun e => hp (by rw [e]))
  exact ⟨⟨(e _).trans h0, (e _).trans h1, (e _).trans h2, (e _).trans h3, (e _).trans h4, (e _).trans h5, (e _).trans h6, (e _).trans h7⟩, fun j => by rw [World.frozen?_setCell]; exact hf j⟩
theorem NBw.set5 {w : World} {b : Nat} {k m u g : Int} {o : Bool} {at_ : List Kv} {d : ByteArray} {ks : Kds} {h : Hd} (hk : NBw w b (.mk k m u g o at_ d ks) h) (aa : Option Addr) (ca : Nat) : NBw (w.setCell ⟨b, 5, none⟩ (.slice aa at_.length ca)) b (.mk k m u g o at_ d ks) ⟨aa, ca, h.ak, h.ck⟩ := by
  obtain ⟨⟨h0, h1, h2, h3, h4, h5, h6, h7⟩, hf⟩ := hk
  have e : ∀ o, o ≠ 5 → (w.setCell ⟨b, 5, none⟩ (.slice aa at_.length ca)).cell? ⟨b, o, none⟩ = w.cell? ⟨b, o, none⟩ := fun o ho => World.cell?_setCell_other _ _ _ _ (fun e => ho (Addr.mk.inj e).2.1.symm)
  exact ⟨⟨(e _ (by decide)).trans h0, (e _ (by decide)).trans h1, (e _ (by decide)).trans h2, (e _ (by decide)).trans h3, (e _ (by decide)).trans h4, World.cell?_setCell_same _ _ _ h5, (e _ (by decide)).trans h6, (e _ (by decide)).trans h7⟩, fun j => by rw [World.frozen?_setCell]; exact hf j⟩
theorem NBw.set7 {w : World} {b : Nat} {k m u g : Int} {o : Bool} {at_ : List Kv} {d : ByteArray} {ks : Kds} {h : Hd} (hk : NBw w b (.mk k m u g o at_ d ks) h) (ks' : Kds) (ak : Option Addr) (ck : Nat) : NBw (w.setCell ⟨b, 7, none⟩ (.slice ak ks'.length ck)) b (.mk k m u g o at_ d ks') ⟨h.aa, h.ca, ak, ck⟩ := by
  obtain ⟨⟨h0, h1, h2, h3, h4, h5, h6, h7⟩, hf⟩ := hk
  have e : ∀ o, o ≠ 7 → (w.setCell ⟨b, 7, none⟩ (.slice ak ks'.length ck)).cell? ⟨b, o, none⟩ = w.cell? ⟨b, o, none⟩ := fun o ho => World.cell?_setCell_other _ _ _ _ (fun e => ho (Addr.mk.inj e).2.1.symm)
  exact ⟨⟨(e _ (by decide)).trans h0, (e _ (by decide)).trans h1, (e _ (by decide)).trans h2, (e _ (by decide)).trans h3, (e _ (by decide)).trans h4, (e _ (by decide)).trans h5, (e _ (by decide)).trans h6, World.cell?_setCell_same _ _ _ h7⟩, fun j => by rw [World.frozen?_setCell]; exact hf j⟩
theorem NBw.new (w : World) (k m u g : Int) (o : Bool) (at_ : List Kv) (d : ByteArray) (ks : Kds) (h : Hd) : NBw (w.alloc (.cells #[.int .i64 k, .int .i64 m, .int .i64 u, .int .i64 g, .bool o, .slice h.aa at_.length h.ca, .string d, .slice h.ak ks.length h.ck] 34)) w.heap.size (.mk k m u g o at_ d ks) h :=
  ⟨NBox.new w k m u g o at_ d ks h, fun _j => World.frozen?_alloc_new _ _ _ _⟩
def zH : Hd := ⟨none, 0, none, 0⟩
theorem NBw.zero (w : World) : NBw (w.alloc (.cells #[.int .i64 0, .int .i64 0, .int .i64 0, .int .i64 0, .bool false, .slice none 0 0, .string ⟨#[]⟩, .slice none 0 0] 34)) w.heap.size zN zH := NBw.new w 0 0 0 0 false [] ⟨#[]⟩ [] zH
/-- A box stored whole, cell by cell. -/
def stB (w : World) (b : Nat) : Nd → Hd → World
  | .mk k m u g o at_ d ks, h => (((((((w.setCell ⟨b, 0, none⟩ (.int .i64 k)).setCell ⟨b, 1, none⟩ (.int .i64 m)).setCell ⟨b, 2, none⟩ (.int .i64 u)).setCell ⟨b, 3, none⟩ (.int .i64 g)).setCell ⟨b, 4, none⟩ (.bool o)).setCell ⟨b, 5, none⟩ (.slice h.aa at_.length h.ca)).setCell ⟨b, 6, none⟩ (.string d)).setCell ⟨b, 7, none⟩ (.slice h.ak ks.length h.ck)
theorem stB_eq (w : World) (b : Nat) (x : Nd) (h : Hd) : stB w b x h = st8 w b 0 x h := by
  obtain ⟨k, m, u, g, o, at_, d, ks⟩ := x
  rfl
theorem NBw.store {w : World} {b : Nat} {y : Nd} {h' : Hd} (hk : NBw w b y h') (x : Nd) (h : Hd) : NBw (stB w b x h) b x h := by
  rw [stB_eq]
  exact ⟨NAt.box (st8_at hk.1.at), fun j => (st8_frozen _).trans (hk.2 j)⟩
theorem stB_but {w : World} {b : Nat} {x : Nd} {h : Hd} : But b w (stB w b x h) := by rw [stB_eq]; exact st8_but
set_option maxRecDepth 100000 in
set_option maxHeartbeats 2000000 in
theorem apart_any {w : World} {S : Nat → Bool} (hS : ∀ k, S k = true → k < w.heap.size) {x : Nd} {h : Hd} (hN : NdV (offS w.cell? S) x h) (W : World) (hW : Below w.heap.size w W) (hlim : Lim x) :
    Calls Tryz.prog 27 #[ndV x h] W fun e W' => (∃ h', e = .returned (ndV x h') ∧ NdV (offS W'.cell? S) x h' ∧ FreshK W.heap.size W' h'.ak x.kids) ∧ Below W.heap.size W W' := by
  obtain ⟨k, m, u, g, o, at_, d, ks⟩ := x
  rw [Lim] at hlim
  obtain ⟨ha, hca, hck, hks⟩ := ndV_iff.1 (hN.on (mle_S hW))
  obtain ⟨hla, hlk, _⟩ := hlim
  obtain ⟨L, hL, hKH⟩ := ksV_ksH hks
  have hll : ks.length = L.length := by rw [← hL, bare_length]
  have HL : Hid (bare L = ks) := hL
  have HLL : Hid (ks.length = L.length) := hll
  have hlL : L.length ≤ 1000 := by omega
  have hSW : ∀ k, S k = true → k < W.heap.size := fun k hk => Nat.lt_of_lt_of_le (hS k hk) hW.size
  clear hN hW hks hL hll hlk hS
  show Calls Tryz.prog 27 #[.agg #[.int .i64 k, .int .i64 m, .int .i64 u, .int .i64 g, .bool o, .slice h.aa at_.length h.ca, .string d, .slice h.ak ks.length h.ck]] _ _
  have B0 := NBw.new W k m u g o at_ d ks h
  have hB0 : Below W.heap.size W (W.alloc (.cells #[.int .i64 k, .int .i64 m, .int .i64 u, .int .i64 g, .bool o, .slice h.aa at_.length h.ca, .string d, .slice h.ak ks.length h.ck] 34)) := (Below.refl _ _).alloc (Nat.le_refl _) _
  have R1 := NBw.zero (W.alloc (.cells #[.int .i64 k, .int .i64 m, .int .i64 u, .int .i64 g, .bool o, .slice h.aa at_.length h.ca, .string d, .slice h.ak ks.length h.ck] 34))
  rw [World.size_alloc] at R1
  have B1 := B0.below ((Below.refl _ _).alloc (Nat.le_refl _) (.cells #[.int .i64 0, .int .i64 0, .int .i64 0, .int .i64 0, .bool false, .slice none 0 0, .string ⟨#[]⟩, .slice none 0 0] 34))
  have hB1 : Below W.heap.size W ((W.alloc (.cells #[.int .i64 k, .int .i64 m, .int .i64 u, .int .i64 g, .bool o, .slice h.aa at_.length h.ca, .string d, .slice h.ak ks.length h.ck] 34)).alloc (.cells #[.int .i64 0, .int .i64 0, .int .i64 0, .int .i64 0, .bool false, .slice none 0 0, .string ⟨#[]⟩, .slice none 0 0] 34)) := hB0.alloc hB0.size _
  have ha1 := (ha.on (offS_le _ _)).below hB1
  have hs1 : W.heap.size + 2 ≤ ((W.alloc (.cells #[.int .i64 k, .int .i64 m, .int .i64 u, .int .i64 g, .bool o, .slice h.aa at_.length h.ca, .string d, .slice h.ak ks.length h.ck] 34)).alloc (.cells #[.int .i64 0, .int .i64 0, .int .i64 0, .int .i64 0, .bool false, .slice none 0 0, .string ⟨#[]⟩, .slice none 0 0] 34)).heap.size := by simp
  obtain ⟨⟨y0, y1, y2, y3, y4, y5, y6, y7⟩, y8⟩ := id B1
  clear B0 hB0
  go_enter Tryz.func27, Tryz.ntmps27
  go_wp2_with fail
  refine (cloneA_any h.aa h.ca at_ _ hla ha1).mono ?_
  rintro e w2 ⟨⟨vA, rfl, hA2⟩, b2⟩
  have B2 := B1.below b2
  have R2 := R1.below b2
  have hB2 := hB1.trans (b2.mono hB1.size)
  have hs2 := Nat.le_trans hs1 b2.size
  generalize ((W.alloc (.cells #[.int .i64 k, .int .i64 m, .int .i64 u, .int .i64 g, .bool o, .slice h.aa at_.length h.ca, .string d, .slice h.ak ks.length h.ck] 34)).alloc (.cells #[.int .i64 0, .int .i64 0, .int .i64 0, .int .i64 0, .bool false, .slice none 0 0, .string ⟨#[]⟩, .slice none 0 0] 34)).heap.size = base at hs1 hA2
  clear y0 y1 y2 y3 y4 y5 y6 y7 y8 B1 R1 hB1 b2 ha1 ha
  generalize hsz : W.heap.size = nb at B2 R2 hs1 hs2 ⊢
  obtain ⟨a2, c2, hv2, hc2, hc2', hA2'⟩ := kvm_of_owns hA2
  rw [hv2] at hA2 ⊢
  clear hv2
  have B3 := B2.set5 a2 c2
  have R3 := R2.other (p := ⟨nb, 5, none⟩) (by simp) (.slice a2 at_.length c2)
  have hA3 := owns_set hA2 (p := ⟨nb, 5, none⟩) (show nb < base by omega) (.slice a2 at_.length c2)
  have hB3 := hB2.setCell (p := ⟨nb, 5, none⟩) (by show W.heap.size ≤ nb; omega) (.slice a2 at_.length c2)
  have hs3 : nb + 2 ≤ (w2.setCell ⟨nb, 5, none⟩ (.slice a2 at_.length c2)).heap.size := by rw [World.size_setCell]; exact hs2
  have hK3 := (hKH.on (offS_le _ _)).on (mle_below hB3)
  obtain ⟨⟨y0, y1, y2, y3, y4, y5, y6, y7⟩, y8⟩ := B2
  have z7 := B3.1.2.2.2.2.2.2.2
  clear hA2 hA2' R2 hB2 hs2
  go_wp2_with fail
  rw [HLL.out]
  refine (cloneK_any h.ak h.ck L _ hlL hK3).mono ?_
  rintro e w4 ⟨⟨vK, rfl, hK4⟩, b4⟩
  have B4 := B3.below b4
  have R4 := R3.below b4
  have hA4 := owns_below hA3 b4
  have hB4 := hB3.trans (b4.mono hB3.size)
  have hs4 := Nat.le_trans hs3 b4.size
  generalize (w2.setCell ⟨nb, 5, none⟩ (.slice a2 at_.length c2)).heap.size = base2 at hs3 hK4
  clear y0 y1 y2 y3 y4 y5 y6 y7 y8 z7 B3 R3 hA3 hB3 b4 hK3
  obtain ⟨a4, c4, hv4, hc4, hc4', hf4⟩ := owns_cells hK4
  clear hf4
  rw [hv4] at hK4 ⊢
  clear hv4
  rw [← HLL.out] at hK4 hc4 ⊢
  have B5 := B4.set7 ks a4 c4
  have R5 := R4.other (p := ⟨nb, 7, none⟩) (by simp) (.slice a4 ks.length c4)
  have hA5 := owns_set hA4 (p := ⟨nb, 7, none⟩) (show nb < base by omega) (.slice a4 ks.length c4)
  have hK5 := owns_set hK4 (p := ⟨nb, 7, none⟩) (show nb < base2 by omega) (.slice a4 ks.length c4)
  have hB5 := hB4.setCell (p := ⟨nb, 7, none⟩) (by show W.heap.size ≤ nb; omega) (.slice a4 ks.length c4)
  obtain ⟨⟨y0, y1, y2, y3, y4, y5, y6, y7⟩, y8⟩ := B4
  clear hA4 hK4 hB4 R4
  obtain ⟨⟨x0, x1, x2, x3, x4, x5, x6, x7⟩, x8⟩ := id B5
  obtain ⟨⟨z0, z1, z2, z3, z4, z5, z6, z7⟩, z8⟩ := id R5
  have R6 := R5.store (.mk k m u g o at_ d ks) ⟨a2, c2, a4, c4⟩
  have b6 : But (nb + 1) (w4.setCell ⟨nb, 7, none⟩ (.slice a4 ks.length c4)) (stB (w4.setCell ⟨nb, 7, none⟩ (.slice a4 ks.length c4)) (nb + 1) (.mk k m u g o at_ d ks) ⟨a2, c2, a4, c4⟩) := stB_but
  have hA6 := owns_but hA5 b6 (by omega)
  have hK6 := owns_but hK5 b6 (by omega)
  have hB6 := hB5.trans (b6.below (B := W.heap.size) (by omega) (by have := hB5.size; omega))
  generalize hw6 : stB (w4.setCell ⟨nb, 7, none⟩ (.slice a4 ks.length c4)) (nb + 1) (.mk k m u g o at_ d ks) ⟨a2, c2, a4, c4⟩ = w6 at R6 b6 hA6 hK6 hB6
  have HW6 : Hid (stB (w4.setCell ⟨nb, 7, none⟩ (.slice a4 ks.length c4)) (nb + 1) (.mk k m u g o at_ d ks) ⟨a2, c2, a4, c4⟩ = w6) := hw6
  clear hw6 b6 hA5 hK5 hB5 R5
  go_wp2
  have hw6 := HW6.out
  simp only [stB] at hw6
  rw [hw6]
  clear hw6 HW6 x0 x1 x2 x3 x4 x5 x6 x7 x8 y0 y1 y2 y3 y4 y5 y6 y7 y8 z0 z1 z2 z3 z4 z5 z6 z7 z8
  obtain ⟨a7, c7, e7, h71, h72, hA7⟩ := kvm_of_ownsS (S := S) (fun k hk => by have := hSW k hk; omega) hA6
  have hNL : ∀ e ∈ L, NdV (offS w6.cell? S) e.2.1 e.2.2 := fun e he => (hKH.2 e he).on (mle_S hB6)
  obtain ⟨a8, c8, e8, h81, h82, hK8, hF8⟩ := ksH_of_ownsS (fun k hk => by have := hSW k hk; omega) hK6 hNL
  simp only [Value.slice.injEq, true_and] at e7 e8
  obtain ⟨rfl, rfl⟩ := e7
  obtain ⟨rfl, rfl⟩ := e8
  obtain ⟨r0, r1, r2, r3, r4, r5, r6, r7⟩ := R6.1
  refine bodyPost_ret (v := ndV (.mk k m u g o at_ d ks) ⟨a2, c2, a4, c4⟩) (by simp [results, Tryz.results27, go_sem, ndV, r0, r1, r2, r3, r4, r5, r6, r7]) rfl ⟨⟨⟨a2, c2, a4, c4⟩, rfl, ?_, ?_⟩, ?_⟩
  · refine ndV_iff.2 ⟨hA7, ⟨h71, h72⟩, ⟨h81, h82⟩, ?_⟩
    have := ksH_ksV hK8
    rw [HL.out] at this
    exact this
  · rw [HL.out] at hF8
    rcases hF8 with e | ⟨gg, e1, e2, e3, e4⟩
    · exact .inl e
    · exact .inr ⟨gg, e1, by omega, e3, e4⟩
  · exact hB6
end Go.Proofs.YtlbabnffiibnpaaGreat
namespace Go.Proofs.YtlbabnffiibnpaaGreat
open Go.RowKit
/-- The first kid whose name is such. -/
def idxI (p : ByteArray → Bool) : Kds → Nat → Int
  | [], _ => -1
  | q :: l, i => if p q.1 = true then (i : Int) else idxI p l (i + 1)
theorem idxI_drop {p : ByteArray → Bool} {n : ByteArray} {ks : Kds} {j : Nat} {x : Nd} (h : ks[j]? = some (n, x)) : idxI p (ks.drop j) j = if p n = true then (j : Int) else idxI p (ks.drop (j + 1)) (j + 1) := by
  obtain ⟨hlt, he⟩ := List.getElem?_eq_some_iff.1 h
  rw [List.drop_eq_getElem_cons hlt, he, idxI]
theorem idxI_kid (m : ByteArray) : ∀ (ks : Kds) (i : Nat), idxI (fun n => decide (n = m)) ks i = kidI m ks i
  | [], i => rfl
  | q :: l, i => by rw [idxI, kidI, idxI_kid m l (i + 1)]; simp
theorem idxI_abv (m : ByteArray) : ∀ (ks : Kds) (i : Nat), (idxI (fun n => ltB m n) ks i = -1 ∧ abvN m ks = ks.length) ∨ (idxI (fun n => ltB m n) ks i = ((i + abvN m ks : Nat) : Int) ∧ abvN m ks < ks.length)
  | [], i => .inl ⟨rfl, rfl⟩
  | q :: l, i => by
    rw [idxI]
    have e : abvN m (q :: l) = if ltB m q.1 = true then 0 else abvN m l + 1 := by
      unfold abvN
      rw [List.findIdx_cons]
      cases ltB m q.1 <;> simp
    by_cases hq : ltB m q.1 = true
    · rw [if_pos hq, e, if_pos hq]; right; exact ⟨by simp, by simp⟩
    · rw [if_neg hq, e, if_neg hq]
      rcases idxI_abv m l (i + 1) with ⟨h1, h2⟩ | ⟨h1, h2⟩
      · left; exact ⟨h1, by simp [h2]⟩
      · right; exact ⟨by rw [h1]; congr 1; omega, by simp; omega⟩
theorem gtr_eq (a b : ByteArray) : (!Op.bytesLess a.toList b.toList && !(a.toList == b.toList)) = ltB b a := by
  have h := leq_eq a b
  have : (!Op.bytesLess a.toList b.toList && !(a.toList == b.toList)) = !(Op.bytesLess a.toList b.toList || a.toList == b.toList) := by cases Op.bytesLess a.toList b.toList <;> cases (a.toList == b.toList) <;> rfl
  rw [this, h]; simp
theorem eql_eq (a b : ByteArray) : (a.toList == b.toList) = decide (a = b) := by
  rw [Bool.eq_iff_iff]; simp
  exact ⟨toList_inj, fun e => by rw [e]⟩
/-- A kid's value. -/
def kdV (n : ByteArray) : Nd → Hd → Value
  | .mk k m u g o at_ d ks, h => .agg #[.string n, .int .i64 k, .int .i64 m, .int .i64 u, .int .i64 g, .bool o, .slice h.aa at_.length h.ca, .string d, .slice h.ak ks.length h.ck]
theorem KBx.newW (w : World) (n : ByteArray) (k m u g : Int) (o : Bool) (at_ : List Kv) (d : ByteArray) (ks : Kds) (h : Hd) (t : TypeId) :
    (w.alloc (.cells #[.string n, .int .i64 k, .int .i64 m, .int .i64 u, .int .i64 g, .bool o, .slice h.aa at_.length h.ca, .string d, .slice h.ak ks.length h.ck] t)).cell? ⟨w.heap.size, 0, none⟩ = some (.string n) := World.cell?_alloc_at _ _ _ _ rfl
set_option maxRecDepth 100000 in
set_option maxHeartbeats 1000000 in
theorem place1_any (n m : ByteArray) (x : Nd) (h : Hd) (bp : Nat) (w : World) (hc : w.cell? ⟨bp, 0, none⟩ = some (.string m)) :
    Calls Tryz.prog 53 #[kdV n x h, .pointer (some ⟨bp, 0, none⟩)] w fun e w' => e = .returned (.bool (decide (n = m))) ∧ Below w.heap.size w w' := by
  obtain ⟨k, mo, u, g, o, at_, d, ks⟩ := x
  have hB : Below w.heap.size w (w.alloc (.cells #[.string n, .int .i64 k, .int .i64 mo, .int .i64 u, .int .i64 g, .bool o, .slice h.aa at_.length h.ca, .string d, .slice h.ak ks.length h.ck] 61)) := (Below.refl _ _).alloc (Nat.le_refl _) _
  have c0 := KBx.newW w n k mo u g o at_ d ks h 61
  have c1 : (w.alloc (.cells #[.string n, .int .i64 k, .int .i64 mo, .int .i64 u, .int .i64 g, .bool o, .slice h.aa at_.length h.ca, .string d, .slice h.ak ks.length h.ck] 61)).cell? ⟨bp, 0, none⟩ = some (.string m) := (hB.cell (p := ⟨bp, 0, none⟩) (World.block_lt_of_cell? _ _ hc)).trans hc
  have hlt : bp < w.heap.size := World.block_lt_of_cell? _ _ hc
  show Calls Tryz.prog 53 #[.agg #[.string n, .int .i64 k, .int .i64 mo, .int .i64 u, .int .i64 g, .bool o, .slice h.aa at_.length h.ca, .string d, .slice h.ak ks.length h.ck], .pointer (some ⟨bp, 0, none⟩)] _ _
  go_enter Tryz.func53, Tryz.ntmps53
  go_wp2
  go_ret
  exact ⟨ret_bool (by rw [← eql_eq]), hB⟩
set_option maxRecDepth 100000 in
set_option maxHeartbeats 1000000 in
theorem placex_any (a : Option Addr) (cap bp : Nat) (ks : Kds) (m : ByteArray) (w : World) (hl : ks.length ≤ 1000) (h : KsV w.cell? a ks) (hc : w.cell? ⟨bp, 0, none⟩ = some (.string m)) :
    Calls Tryz.prog 52 #[.slice a ks.length cap, .func (.func 53) #[] #[.pointer (some ⟨bp, 0, none⟩)]] w fun e w' => e = .returned (.int .i64 (idxI (fun n => decide (n = m)) ks 0)) ∧ Below w.heap.size w w' := by
  obtain ⟨R, HR⟩ : ∃ R, Hid (idxI (fun n => decide (n = m)) ks 0 = R) := ⟨_, rfl⟩
  rw [HR.out]
  have HC : Hid (w.cell? ⟨bp, 0, none⟩ = some (.string m)) := hc
  have HK : Hid (KsV w.cell? a ks) := h
  have hbp : bp < w.heap.size := World.block_lt_of_cell? _ _ hc
  clear hc h
  by_cases hks : ks = []
  · subst hks
    have HR2 : Hid (R = -1) := HR.out.symm
    go_enter Tryz.func52, Tryz.ntmps52
    go_wp2
    go_loop [8] (fun i => i = .int .i64 0) (fun _ => 0)
    case atStart => rfl
    case round =>
      subst hrel
      go_wp2
      go_ret
      exact ⟨ret_num HR2.out.symm, Below.refl _ _⟩
  obtain ⟨b, off, rfl, f, hf⟩ : ∃ b off, a = some ⟨b, off, none⟩ ∧ ∃ f : Nat → Hd, ∀ i n x, ks[i]? = some (n, x) → KdAt w.cell? b (off + i * 9) n x (f i) := by
    rcases HK.out with e | ⟨b, off, e, f, hf⟩
    · exact absurd e hks
    · exact ⟨b, off, e, f, fun i n x hi => (hf i n x hi).1⟩
  have HF : Hid (∀ i n x, ks[i]? = some (n, x) → KdAt w.cell? b (off + i * 9) n x (f i)) := hf
  clear hf hks HK
  go_enter Tryz.func52, Tryz.ntmps52
  go_wp2
  go_loopw [8] (fun i wr => ∃ j : Nat, j ≤ ks.length ∧ i = .int .i64 j ∧ Hid (R = idxI (fun n => decide (n = m)) (ks.drop j) j) ∧ Below w.heap.size w wr) (fun i _ => ks.length - (intOf i).toNat)
  case atStart => exact ⟨0, Nat.zero_le _, rfl, HR.out.symm, Below.refl _ _⟩
  case round =>
    obtain ⟨j, hj, rfl, HJ, hB⟩ := hrel
    by_cases hjl : j < ks.length
    rotate_left
    · have hji : decide ((j : Int) < (ks.length : Int)) = false := decide_eq_false (by omega)
      have HR2 : Hid (R = -1) := by show _ = _; rw [HJ.out, List.drop_of_length_le (by omega), idxI]
      go_wp2
      go_ret
      exact ⟨ret_num HR2.out.symm, hB⟩
    have hji : (j : Int) < (ks.length : Int) := by omega
    obtain ⟨⟨n, x⟩, hx⟩ : ∃ x, ks[j]? = some x := ⟨ks[j], by simp [hjl]⟩
    have hK := (HF.out j n x hx).below hB
    have hc2 : wr.cell? ⟨bp, 0, none⟩ = some (.string m) := (hB.cell (p := ⟨bp, 0, none⟩) hbp).trans HC.out
    have HD : Hid (R = if (decide (n = m)) = true then (j : Int) else idxI (fun n => decide (n = m)) (ks.drop (j + 1)) (j + 1)) := HJ.out.trans (idxI_drop hx)
    clear hx HJ
    generalize f j = hd1 at hK
    have hcl := place1_any n m x hd1 bp wr hc2
    have HCL : Hid (Calls Tryz.prog 53 #[kdV n x hd1, .pointer (some ⟨bp, 0, none⟩)] wr fun e w' => e = .returned (.bool (decide (n = m))) ∧ Below wr.heap.size wr w') := hcl
    obtain ⟨t, ht⟩ : ∃ t, (decide (n = m)) = t := ⟨_, rfl⟩
    rw [ht] at HD HCL
    clear ht hcl hc2
    obtain ⟨k', m', u', g', o', at', d', ks'⟩ := x
    obtain ⟨p0, p1, p2, p3, p4, p5, p6, p7, p8⟩ := hK.nine
    clear hK
    go_wp2_with fail
    refine HCL.out.mono ?_
    rintro e w2 ⟨rfl, c2⟩
    have hB2 := hB.trans (c2.mono hB.size)
    clear p0 p1 p2 p3 p4 p5 p6 p7 p8 c2 hB HCL
    cases t
    · have HN : Hid (R = idxI (fun n => decide (n = m)) (ks.drop (j + 1)) (j + 1)) := by show _ = _; rw [HD.out, if_neg (by simp)]
      go_wp2
      go_roundw
      case rel => exact ⟨j + 1, by omega, by go_num, HN.out, hB2⟩
      case measure => simp [intOf]; omega
    · have HN : Hid (R = j) := by show _ = _; rw [HD.out, if_pos rfl]
      go_wp2
      go_ret
      exact ⟨ret_num HN.out.symm, hB2⟩
set_option maxRecDepth 100000 in
set_option maxHeartbeats 1000000 in
theorem above1_any (n m : ByteArray) (x : Nd) (h : Hd) (bp : Nat) (w : World) (hc : w.cell? ⟨bp, 0, none⟩ = some (.string m)) :
    Calls Tryz.prog 54 #[kdV n x h, .pointer (some ⟨bp, 0, none⟩)] w fun e w' => e = .returned (.bool (ltB m n)) ∧ Below w.heap.size w w' := by
  obtain ⟨k, mo, u, g, o, at_, d, ks⟩ := x
  have hB : Below w.heap.size w (w.alloc (.cells #[.string n, .int .i64 k, .int .i64 mo, .int .i64 u, .int .i64 g, .bool o, .slice h.aa at_.length h.ca, .string d, .slice h.ak ks.length h.ck] 61)) := (Below.refl _ _).alloc (Nat.le_refl _) _
  have c0 := KBx.newW w n k mo u g o at_ d ks h 61
  have c1 : (w.alloc (.cells #[.string n, .int .i64 k, .int .i64 mo, .int .i64 u, .int .i64 g, .bool o, .slice h.aa at_.length h.ca, .string d, .slice h.ak ks.length h.ck] 61)).cell? ⟨bp, 0, none⟩ = some (.string m) := (hB.cell (p := ⟨bp, 0, none⟩) (World.block_lt_of_cell? _ _ hc)).trans hc
  have hlt : bp < w.heap.size := World.block_lt_of_cell? _ _ hc
  show Calls Tryz.prog 54 #[.agg #[.string n, .int .i64 k, .int .i64 mo, .int .i64 u, .int .i64 g, .bool o, .slice h.aa at_.length h.ca, .string d, .slice h.ak ks.length h.ck], .pointer (some ⟨bp, 0, none⟩)] _ _
  go_enter Tryz.func54, Tryz.ntmps54
  go_wp2
  go_ret
  exact ⟨ret_bool (by rw [← gtr_eq]), hB⟩
set_option maxRecDepth 100000 in
set_option maxHeartbeats 1000000 in
theorem abovex_any (a : Option Addr) (cap bp : Nat) (ks : Kds) (m : ByteArray) (w : World) (hl : ks.length ≤ 1000) (h : KsV w.cell? a ks) (hc : w.cell? ⟨bp, 0, none⟩ = some (.string m)) :
    Calls Tryz.prog 52 #[.slice a ks.length cap, .func (.func 54) #[] #[.pointer (some ⟨bp, 0, none⟩)]] w fun e w' => e = .returned (.int .i64 (idxI (fun n => ltB m n) ks 0)) ∧ Below w.heap.size w w' := by
  obtain ⟨R, HR⟩ : ∃ R, Hid (idxI (fun n => ltB m n) ks 0 = R) := ⟨_, rfl⟩
  rw [HR.out]
  have HC : Hid (w.cell? ⟨bp, 0, none⟩ = some (.string m)) := hc
  have HK : Hid (KsV w.cell? a ks) := h
  have hbp : bp < w.heap.size := World.block_lt_of_cell? _ _ hc
  clear hc h
  by_cases hks : ks = []
  · subst hks
    have HR2 : Hid (R = -1) := HR.out.symm
    go_enter Tryz.func52, Tryz.ntmps52
    go_wp2
    go_loop [8] (fun i => i = .int .i64 0) (fun _ => 0)
    case atStart => rfl
    case round =>
      subst hrel
      go_wp2
      go_ret
      exact ⟨ret_num HR2.out.symm, Below.refl _ _⟩
  obtain ⟨b, off, rfl, f, hf⟩ : ∃ b off, a = some ⟨b, off, none⟩ ∧ ∃ f : Nat → Hd, ∀ i n x, ks[i]? = some (n, x) → KdAt w.cell? b (off + i * 9) n x (f i) := by
    rcases HK.out with e | ⟨b, off, e, f, hf⟩
    · exact absurd e hks
    · exact ⟨b, off, e, f, fun i n x hi => (hf i n x hi).1⟩
  have HF : Hid (∀ i n x, ks[i]? = some (n, x) → KdAt w.cell? b (off + i * 9) n x (f i)) := hf
  clear hf hks HK
  go_enter Tryz.func52, Tryz.ntmps52
  go_wp2
  go_loopw [8] (fun i wr => ∃ j : Nat, j ≤ ks.length ∧ i = .int .i64 j ∧ Hid (R = idxI (fun n => ltB m n) (ks.drop j) j) ∧ Below w.heap.size w wr) (fun i _ => ks.length - (intOf i).toNat)
  case atStart => exact ⟨0, Nat.zero_le _, rfl, HR.out.symm, Below.refl _ _⟩
  case round =>
    obtain ⟨j, hj, rfl, HJ, hB⟩ := hrel
    by_cases hjl : j < ks.length
    rotate_left
    · have hji : decide ((j : Int) < (ks.length : Int)) = false := decide_eq_false (by omega)
      have HR2 : Hid (R = -1) := by show _ = _; rw [HJ.out, List.drop_of_length_le (by omega), idxI]
      go_wp2
      go_ret
      exact ⟨ret_num HR2.out.symm, hB⟩
    have hji : (j : Int) < (ks.length : Int) := by omega
    obtain ⟨⟨n, x⟩, hx⟩ : ∃ x, ks[j]? = some x := ⟨ks[j], by simp [hjl]⟩
    have hK := (HF.out j n x hx).below hB
    have hc2 : wr.cell? ⟨bp, 0, none⟩ = some (.string m) := (hB.cell (p := ⟨bp, 0, none⟩) hbp).trans HC.out
    have HD : Hid (R = if (ltB m n) = true then (j : Int) else idxI (fun n => ltB m n) (ks.drop (j + 1)) (j + 1)) := HJ.out.trans (idxI_drop hx)
    clear hx HJ
    generalize f j = hd1 at hK
    have hcl := above1_any n m x hd1 bp wr hc2
    have HCL : Hid (Calls Tryz.prog 54 #[kdV n x hd1, .pointer (some ⟨bp, 0, none⟩)] wr fun e w' => e = .returned (.bool (ltB m n)) ∧ Below wr.heap.size wr w') := hcl
    obtain ⟨t, ht⟩ : ∃ t, (ltB m n) = t := ⟨_, rfl⟩
    rw [ht] at HD HCL
    clear ht hcl hc2
    obtain ⟨k', m', u', g', o', at', d', ks'⟩ := x
    obtain ⟨p0, p1, p2, p3, p4, p5, p6, p7, p8⟩ := hK.nine
    clear hK
    go_wp2_with fail
    refine HCL.out.mono ?_
    rintro e w2 ⟨rfl, c2⟩
    have hB2 := hB.trans (c2.mono hB.size)
    clear p0 p1 p2 p3 p4 p5 p6 p7 p8 c2 hB HCL
    cases t
    · have HN : Hid (R = idxI (fun n => ltB m n) (ks.drop (j + 1)) (j + 1)) := by show _ = _; rw [HD.out, if_neg (by simp)]
      go_wp2
      go_roundw
      case rel => exact ⟨j + 1, by omega, by go_num, HN.out, hB2⟩
      case measure => simp [intOf]; omega
    · have HN : Hid (R = j) := by show _ = _; rw [HD.out, if_pos rfl]
      go_wp2
      go_ret
      exact ⟨ret_num HN.out.symm, hB2⟩
set_option maxRecDepth 100000 in
set_option maxHeartbeats 1000000 in
theorem place_any (a : Option Addr) (cap : Nat) (ks : Kds) (m : ByteArray) (w : World) (hl : ks.length ≤ 1000) (h : KsV w.cell? a ks) :
    Calls Tryz.prog 32 #[.slice a ks.length cap, .string m] w fun e w' => e = .returned (.int .i64 (kidI m ks 0)) ∧ Below w.heap.size w w' := by
  have hB : Below w.heap.size w (w.alloc (.cells #[.string m] 9)) := (Below.refl _ _).alloc (Nat.le_refl _) _
  have c1 : (w.alloc (.cells #[.string m] 9)).cell? ⟨w.heap.size, 0, none⟩ = some (.string m) := World.cell?_alloc_at _ _ _ _ rfl
  have hP := placex_any a cap w.heap.size ks m _ hl (h.below hB) c1
  rw [idxI_kid] at hP
  have HP : Hid _ := hP
  clear hP
  go_enter Tryz.func32, Tryz.ntmps32
  go_wp2_with fail
  refine Calls.mono HP.out ?_
  rintro e w2 ⟨rfl, c2⟩
  have hB2 := hB.trans (c2.mono hB.size)
  clear c1 HP c2 hB
  obtain ⟨R, HR⟩ : ∃ R, Hid (kidI m ks 0 = R) := ⟨_, rfl⟩
  rw [HR.out]
  go_wp2
  go_ret
  exact ⟨ret_num HR.out.symm, hB2⟩
set_option maxRecDepth 100000 in
set_option maxHeartbeats 1000000 in
theorem above_any (a : Option Addr) (cap : Nat) (ks : Kds) (m : ByteArray) (w : World) (hl : ks.length ≤ 1000) (h : KsV w.cell? a ks) :
    Calls Tryz.prog 33 #[.slice a ks.length cap, .string m] w fun e w' => e = .returned (.int .i64 (abvN m ks)) ∧ Below w.heap.size w w' := by
  have hB : Below w.heap.size w (w.alloc (.cells #[.string m] 9)) := (Below.refl _ _).alloc (Nat.le_refl _) _
  have c1 : (w.alloc (.cells #[.string m] 9)).cell? ⟨w.heap.size, 0, none⟩ = some (.string m) := World.cell?_alloc_at _ _ _ _ rfl
  have hP := abovex_any a cap w.heap.size ks m _ hl (h.below hB) c1
  have HP : Hid _ := hP
  clear hP
  have HA := idxI_abv m ks 0
  rcases HA with ⟨h1, h2⟩ | ⟨h1, h2⟩
  · have H1 : Hid (idxI (fun n => ltB m n) ks 0 = -1) := h1
    have H2 : Hid (abvN m ks = ks.length) := h2
    clear h1 h2
    go_enter Tryz.func33, Tryz.ntmps33
    go_wp2_with fail
    refine Calls.mono HP.out ?_
    rintro e w2 ⟨rfl, c2⟩
    rw [H1.out]
    have hB2 := hB.trans (c2.mono hB.size)
    clear c1 HP c2 hB
    go_wp2
    go_ret
    exact ⟨ret_num (by rw [H2.out]), hB2⟩
  · rw [Nat.zero_add] at h1
    have H1 : Hid (idxI (fun n => ltB m n) ks 0 = (abvN m ks : Int)) := h1
    clear h1
    go_enter Tryz.func33, Tryz.ntmps33
    go_wp2_with fail
    refine Calls.mono HP.out ?_
    rintro e w2 ⟨rfl, c2⟩
    rw [H1.out]
    have hB2 := hB.trans (c2.mono hB.size)
    clear c1 HP c2 hB H1
    obtain ⟨R, HR⟩ : ∃ R, Hid (abvN m ks = R) := ⟨_, rfl⟩
    rw [HR.out] at h2 ⊢
    go_wp2
    go_ret
    exact ⟨ret_num (by rw [HR.out]), hB2⟩
end Go.Proofs.YtlbabnffiibnpaaGreat
namespace Go.Proofs.YtlbabnffiibnpaaGreat
open Go.RowKit Go.Shelf
set_option maxRecDepth 100000 in
set_option maxHeartbeats 1000000 in
theorem kof1_any (n m : ByteArray) (x : Nd) (h : Hd) (bp : Nat) (w : World) (hc : w.cell? ⟨bp, 0, none⟩ = some (.string m)) :
    Calls Tryz.prog 69 #[kdV n x h, .pointer (some ⟨bp, 0, none⟩)] w fun e w' => e = .returned (.bool (decide (n = m))) ∧ Below w.heap.size w w' := by
  obtain ⟨k, mo, u, g, o, at_, d, ks⟩ := x
  have hB : Below w.heap.size w (w.alloc (.cells #[.string n, .int .i64 k, .int .i64 mo, .int .i64 u, .int .i64 g, .bool o, .slice h.aa at_.length h.ca, .string d, .slice h.ak ks.length h.ck] 61)) := (Below.refl _ _).alloc (Nat.le_refl _) _
  have c0 := KBx.newW w n k mo u g o at_ d ks h 61
  have c1 : (w.alloc (.cells #[.string n, .int .i64 k, .int .i64 mo, .int .i64 u, .int .i64 g, .bool o, .slice h.aa at_.length h.ca, .string d, .slice h.ak ks.length h.ck] 61)).cell? ⟨bp, 0, none⟩ = some (.string m) := (hB.cell (p := ⟨bp, 0, none⟩) (World.block_lt_of_cell? _ _ hc)).trans hc
  have hlt : bp < w.heap.size := World.block_lt_of_cell? _ _ hc
  show Calls Tryz.prog 69 #[.agg #[.string n, .int .i64 k, .int .i64 mo, .int .i64 u, .int .i64 g, .bool o, .slice h.aa at_.length h.ca, .string d, .slice h.ak ks.length h.ck], .pointer (some ⟨bp, 0, none⟩)] _ _
  go_enter Tryz.func69, Tryz.ntmps69
  go_wp2
  go_ret
  exact ⟨ret_bool (by rw [← eql_eq]), hB⟩
set_option maxRecDepth 100000 in
set_option maxHeartbeats 1000000 in
theorem kofx_any (a : Option Addr) (cap bp : Nat) (ks : Kds) (m : ByteArray) (w : World) (hl : ks.length ≤ 1000) (h : KsV w.cell? a ks) (hc : w.cell? ⟨bp, 0, none⟩ = some (.string m)) :
    Calls Tryz.prog 52 #[.slice a ks.length cap, .func (.func 69) #[] #[.pointer (some ⟨bp, 0, none⟩)]] w fun e w' => e = .returned (.int .i64 (idxI (fun n => decide (n = m)) ks 0)) ∧ Below w.heap.size w w' := by
  obtain ⟨R, HR⟩ : ∃ R, Hid (idxI (fun n => decide (n = m)) ks 0 = R) := ⟨_, rfl⟩
  rw [HR.out]
  have HC : Hid (w.cell? ⟨bp, 0, none⟩ = some (.string m)) := hc
  have HK : Hid (KsV w.cell? a ks) := h
  have hbp : bp < w.heap.size := World.block_lt_of_cell? _ _ hc
  clear hc h
  by_cases hks : ks = []
  · subst hks
    have HR2 : Hid (R = -1) := HR.out.symm
    go_enter Tryz.func52, Tryz.ntmps52
    go_wp2
    go_loop [8] (fun i => i = .int .i64 0) (fun _ => 0)
    case atStart => rfl
    case round =>
      subst hrel
      go_wp2
      go_ret
      exact ⟨ret_num HR2.out.symm, Below.refl _ _⟩
  obtain ⟨b, off, rfl, f, hf⟩ : ∃ b off, a = some ⟨b, off, none⟩ ∧ ∃ f : Nat → Hd, ∀ i n x, ks[i]? = some (n, x) → KdAt w.cell? b (off + i * 9) n x (f i) := by
    rcases HK.out with e | ⟨b, off, e, f, hf⟩
    · exact absurd e hks
    · exact ⟨b, off, e, f, fun i n x hi => (hf i n x hi).1⟩
  have HF : Hid (∀ i n x, ks[i]? = some (n, x) → KdAt w.cell? b (off + i * 9) n x (f i)) := hf
  clear hf hks HK
  go_enter Tryz.func52, Tryz.ntmps52
  go_wp2
  go_loopw [8] (fun i wr => ∃ j : Nat, j ≤ ks.length ∧ i = .int .i64 j ∧ Hid (R = idxI (fun n => decide (n = m)) (ks.drop j) j) ∧ Below w.heap.size w wr) (fun i _ => ks.length - (intOf i).toNat)
  case atStart => exact ⟨0, Nat.zero_le _, rfl, HR.out.symm, Below.refl _ _⟩
  case round =>
    obtain ⟨j, hj, rfl, HJ, hB⟩ := hrel
    by_cases hjl : j < ks.length
    rotate_left
    · have hji : decide ((j : Int) < (ks.length : Int)) = false := decide_eq_false (by omega)
      have HR2 : Hid (R = -1) := by show _ = _; rw [HJ.out, List.drop_of_length_le (by omega), idxI]
      go_wp2
      go_ret
      exact ⟨ret_num HR2.out.symm, hB⟩
    have hji : (j : Int) < (ks.length : Int) := by omega
    obtain ⟨⟨n, x⟩, hx⟩ : ∃ x, ks[j]? = some x := ⟨ks[j], by simp [hjl]⟩
    have hK := (HF.out j n x hx).below hB
    have hc2 : wr.cell? ⟨bp, 0, none⟩ = some (.string m) := (hB.cell (p := ⟨bp, 0, none⟩) hbp).trans HC.out
    have HD : Hid (R = if (decide (n = m)) = true then (j : Int) else idxI (fun n => decide (n = m)) (ks.drop (j + 1)) (j + 1)) := HJ.out.trans (idxI_drop hx)
    clear hx HJ
    generalize f j = hd1 at hK
    have hcl := kof1_any n m x hd1 bp wr hc2
    have HCL : Hid (Calls Tryz.prog 69 #[kdV n x hd1, .pointer (some ⟨bp, 0, none⟩)] wr fun e w' => e = .returned (.bool (decide (n = m))) ∧ Below wr.heap.size wr w') := hcl
    obtain ⟨t, ht⟩ : ∃ t, (decide (n = m)) = t := ⟨_, rfl⟩
    rw [ht] at HD HCL
    clear ht hcl hc2
    obtain ⟨k', m', u', g', o', at', d', ks'⟩ := x
    obtain ⟨p0, p1, p2, p3, p4, p5, p6, p7, p8⟩ := hK.nine
    clear hK
    go_wp2_with fail
    refine HCL.out.mono ?_
    rintro e w2 ⟨rfl, c2⟩
    have hB2 := hB.trans (c2.mono hB.size)
    clear p0 p1 p2 p3 p4 p5 p6 p7 p8 c2 hB HCL
    cases t
    · have HN : Hid (R = idxI (fun n => decide (n = m)) (ks.drop (j + 1)) (j + 1)) := by show _ = _; rw [HD.out, if_neg (by simp)]
      go_wp2
      go_roundw
      case rel => exact ⟨j + 1, by omega, by go_num, HN.out, hB2⟩
      case measure => simp [intOf]; omega
    · have HN : Hid (R = j) := by show _ = _; rw [HD.out, if_pos rfl]
      go_wp2
      go_ret
      exact ⟨ret_num HN.out.symm, hB2⟩
theorem NAt.split {c : Mem} {b p : Nat} {k m u g : Int} {o : Bool} {at_ : List Kv} {d : ByteArray} {ks : Kds} {h : Hd} (hk : NAt c b p (.mk k m u g o at_ d ks) h) : c ⟨b, p, none⟩ = some (.int .i64 k) ∧ c ⟨b, p + 4, none⟩ = some (.bool o) ∧ c ⟨b, p + 7, none⟩ = some (.slice h.ak ks.length h.ck) := ⟨hk.1, hk.2.2.2.2.1, hk.2.2.2.2.2.2.2⟩
theorem two_new (w : World) (u v : Value) (t : TypeId) : (w.alloc (.cells #[u, v] t)).cell? ⟨w.heap.size, 0, none⟩ = some u ∧ (w.alloc (.cells #[u, v] t)).cell? ⟨w.heap.size, 1, none⟩ = some v := ⟨World.cell?_alloc_at _ _ _ _ rfl, World.cell?_alloc_at _ _ _ _ rfl⟩
/-- The kids that are asked for. -/
def Nd.dirKs (x : Nd) : Kds := if x.kind = 2 then x.kids else []
set_option maxRecDepth 100000 in
set_option maxHeartbeats 1000000 in
theorem kids_any {w : World} {s : Sp} (hs : SpAt w.cell? s) :
    Calls Tryz.prog 56 #[s.v] w fun e w' => e = .returned (if s.x.kind = 2 then .slice s.h.ak s.x.kids.length s.h.ck else .slice none 0 0) ∧ Below w.heap.size w w' := by
  obtain ⟨b, p, ly, ⟨k, m, u, g, o, at_, d, ks⟩, h⟩ := s
  have hB : Below w.heap.size w (w.alloc (.cells #[.pointer (some ⟨b, p, none⟩), .int .i64 ly] 59)) := (Below.refl _ _).alloc (Nat.le_refl _) _
  obtain ⟨c0, c1⟩ := two_new w (.pointer (some ⟨b, p, none⟩)) (.int .i64 ly) 59
  obtain ⟨n0, n1, n2⟩ := (hs.1.below hB).split
  show Calls Tryz.prog 56 #[.agg #[.pointer (some ⟨b, p, none⟩), .int .i64 ly]] w fun e w' => e = .returned (if k = 2 then .slice h.ak ks.length h.ck else .slice none 0 0) ∧ Below w.heap.size w w'
  dsimp only at n0 n2
  by_cases hk : k = 2
  · subst hk
    go_enter Tryz.func56, Tryz.ntmps56
    go_wp2
    go_ret
    exact ⟨rfl, hB⟩
  · rw [if_neg hk]
    go_enter Tryz.func56, Tryz.ntmps56
    go_wp2
    go_ret
    exact ⟨rfl, hB⟩
/-- The spot of a kid. -/
theorem kid_spot {c : Mem} {s : Sp} (hs : SpAt c s) (nm : ByteArray) :
    (kidF nm s.x = -1 ∧ idxI (fun n => decide (n = nm)) s.x.dirKs 0 = -1) ∨ ∃ (b off j : Nat) (y : Nd) (hy : Hd), s.x.kind = 2 ∧ s.h.ak = some ⟨b, off, none⟩ ∧ kidF nm s.x = j ∧ idxI (fun n => decide (n = nm)) s.x.dirKs 0 = j ∧ s.x.kids[j]? = some (nm, y) ∧ j < s.x.kids.length ∧ SpAt c ⟨b, off + j * 9 + 1, s.ly, y, hy⟩ := by
  obtain ⟨b, p, ly, ⟨k, m, u, g, o, at_, d, ks⟩, h⟩ := s
  show ((if k = 2 then kidI nm ks 0 else -1) = -1 ∧ idxI (fun n => decide (n = nm)) (if k = 2 then ks else []) 0 = -1) ∨ ∃ (b off j : Nat) (y : Nd) (hy : Hd), k = 2 ∧ h.ak = some ⟨b, off, none⟩ ∧ (if k = 2 then kidI nm ks 0 else -1) = (j : Int) ∧ idxI (fun n => decide (n = nm)) (if k = 2 then ks else []) 0 = j ∧ ks[j]? = some (nm, y) ∧ j < ks.length ∧ SpAt c ⟨b, off + j * 9 + 1, ly, y, hy⟩
  by_cases hk : k = 2
  · rw [if_pos hk, if_pos hk, idxI_kid]
    rcases kidI_at nm ks 0 with ⟨h1, _⟩ | ⟨j, x, h1, h2, _⟩
    · exact .inl ⟨h1, h1⟩
    · right
      obtain ⟨_, _, _, hK⟩ := ndV_iff.1 hs.2
      rcases hK with e | ⟨kb, off, e, f, hf⟩
      · subst e; simp at h2
      · obtain ⟨g1, g2⟩ := hf j nm x h2
        refine ⟨kb, off, j, x, f j, hk, e, by rw [h1]; simp, by rw [h1]; simp, h2, (List.getElem?_eq_some_iff.1 h2).1, g1.2, g2⟩
  · rw [if_neg hk, if_neg hk]
    exact .inl ⟨rfl, rfl⟩
end Go.Proofs.YtlbabnffiibnpaaGreat
