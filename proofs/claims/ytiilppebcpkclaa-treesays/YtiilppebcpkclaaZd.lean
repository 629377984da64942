/-
  WHAT THE DOCUMENT's Put DOES, where it ends at once: the walk.
-/
import Derived.Test.YtiilppebcpkclaaZb
import Derived.Test.YtiilppebcpkclaaZc
namespace Go.Proofs.Ytiilppebcpkclaa
open Go.RowKit

def RdE (W W' : World) (S : Nat → Bool) (e : Ending) (R : Except Int Nd) : Prop := (∃ h', e = .returned (.tuple #[ndV (xNd R) h', .int .i64 (xErr R)]) ∧ NdV (offS W'.cell? S) (xNd R) h') ∧ Below W.heap.size W W'
theorem three (W : World) (k m u g : Int) (o : Bool) (at_ : List Kv) (d : ByteArray) (ks : Kds) (h : Hd) (k3 m3 u3 g3 : Int) (o3 : Bool) (at3 : List Kv) (d3 : ByteArray) (ks3 : Kds) (hx : Hd) :
    NBw (((W.alloc (.cells #[.int .i64 k, .int .i64 m, .int .i64 u, .int .i64 g, .bool o, .slice h.aa at_.length h.ca, .string d, .slice h.ak ks.length h.ck] 84)).alloc (.cells #[.int .i64 k3, .int .i64 m3, .int .i64 u3, .int .i64 g3, .bool o3, .slice hx.aa at3.length hx.ca, .string d3, .slice hx.ak ks3.length hx.ck] 84)).alloc (.cells #[.int .i64 0, .int .i64 0, .int .i64 0, .int .i64 0, .bool false, .slice none 0 0, .string ⟨#[]⟩, .slice none 0 0] 84)) W.heap.size (.mk k m u g o at_ d ks) h ∧ NBw (((W.alloc (.cells #[.int .i64 k, .int .i64 m, .int .i64 u, .int .i64 g, .bool o, .slice h.aa at_.length h.ca, .string d, .slice h.ak ks.length h.ck] 84)).alloc (.cells #[.int .i64 k3, .int .i64 m3, .int .i64 u3, .int .i64 g3, .bool o3, .slice hx.aa at3.length hx.ca, .string d3, .slice hx.ak ks3.length hx.ck] 84)).alloc (.cells #[.int .i64 0, .int .i64 0, .int .i64 0, .int .i64 0, .bool false, .slice none 0 0, .string ⟨#[]⟩, .slice none 0 0] 84)) (W.heap.size + 1) (.mk k3 m3 u3 g3 o3 at3 d3 ks3) hx ∧ NBw (((W.alloc (.cells #[.int .i64 k, .int .i64 m, .int .i64 u, .int .i64 g, .bool o, .slice h.aa at_.length h.ca, .string d, .slice h.ak ks.length h.ck] 84)).alloc (.cells #[.int .i64 k3, .int .i64 m3, .int .i64 u3, .int .i64 g3, .bool o3, .slice hx.aa at3.length hx.ca, .string d3, .slice hx.ak ks3.length hx.ck] 84)).alloc (.cells #[.int .i64 0, .int .i64 0, .int .i64 0, .int .i64 0, .bool false, .slice none 0 0, .string ⟨#[]⟩, .slice none 0 0] 84)) (W.heap.size + 1 + 1) zN zH ∧ Below W.heap.size W (((W.alloc (.cells #[.int .i64 k, .int .i64 m, .int .i64 u, .int .i64 g, .bool o, .slice h.aa at_.length h.ca, .string d, .slice h.ak ks.length h.ck] 84)).alloc (.cells #[.int .i64 k3, .int .i64 m3, .int .i64 u3, .int .i64 g3, .bool o3, .slice hx.aa at3.length hx.ca, .string d3, .slice hx.ak ks3.length hx.ck] 84)).alloc (.cells #[.int .i64 0, .int .i64 0, .int .i64 0, .int .i64 0, .bool false, .slice none 0 0, .string ⟨#[]⟩, .slice none 0 0] 84)) := by
  have a1 := NBw.new W k m u g o at_ d ks h
  have b1 : Below W.heap.size W (W.alloc (.cells #[.int .i64 k, .int .i64 m, .int .i64 u, .int .i64 g, .bool o, .slice h.aa at_.length h.ca, .string d, .slice h.ak ks.length h.ck] 84)) := (Below.refl _ _).alloc (Nat.le_refl _) _
  have s1 : (W.alloc (.cells #[.int .i64 k, .int .i64 m, .int .i64 u, .int .i64 g, .bool o, .slice h.aa at_.length h.ca, .string d, .slice h.ak ks.length h.ck] 84)).heap.size = W.heap.size + 1 := World.size_alloc _ _
  generalize W.alloc (.cells #[.int .i64 k, .int .i64 m, .int .i64 u, .int .i64 g, .bool o, .slice h.aa at_.length h.ca, .string d, .slice h.ak ks.length h.ck] 84) = w1 at *
  have a2 := NBw.new w1 k3 m3 u3 g3 o3 at3 d3 ks3 hx
  have b2 : Below w1.heap.size w1 (w1.alloc (.cells #[.int .i64 k3, .int .i64 m3, .int .i64 u3, .int .i64 g3, .bool o3, .slice hx.aa at3.length hx.ca, .string d3, .slice hx.ak ks3.length hx.ck] 84)) := (Below.refl _ _).alloc (Nat.le_refl _) _
  have s2 : (w1.alloc (.cells #[.int .i64 k3, .int .i64 m3, .int .i64 u3, .int .i64 g3, .bool o3, .slice hx.aa at3.length hx.ca, .string d3, .slice hx.ak ks3.length hx.ck] 84)).heap.size = w1.heap.size + 1 := World.size_alloc _ _
  generalize w1.alloc (.cells #[.int .i64 k3, .int .i64 m3, .int .i64 u3, .int .i64 g3, .bool o3, .slice hx.aa at3.length hx.ca, .string d3, .slice hx.ak ks3.length hx.ck] 84) = w2 at *
  have a3 := NBw.zero w2
  have b3 : Below w2.heap.size w2 (w2.alloc (.cells #[.int .i64 0, .int .i64 0, .int .i64 0, .int .i64 0, .bool false, .slice none 0 0, .string ⟨#[]⟩, .slice none 0 0] 84)) := (Below.refl _ _).alloc (Nat.le_refl _) _
  rw [s2, s1] at a3
  rw [s1] at a2
  exact ⟨(a1.below b2).below b3, a2.below b3, a3, (b1.trans (b2.mono b1.size)).trans (b3.mono (by omega))⟩

set_option maxRecDepth 100000 in
set_option maxHeartbeats 2000000 in
/-- No name, or no directory. -/
theorem rput_zero {W : World} {S : Nat → Bool} (x0 : Nd) (h : Hd) (xp : Nd) (hx : Hd) (cut : Bool) (a : Option Addr) (n cl : Nat) (hn : n ≤ 1000) (hz : n = 0 ∨ x0.kind ≠ 2) :
    Calls Try.prog 69 #[ndV x0 h, .slice a n cl, ndV xp hx, .bool cut] W fun e W' => RdE W W' S e (.error 7) := by
  obtain ⟨k, m, u, g, o, at_, d, ks⟩ := x0
  obtain ⟨k3, m3, u3, g3, o3, at3, d3, ks3⟩ := xp
  show Calls Try.prog 69 #[.agg #[.int .i64 k, .int .i64 m, .int .i64 u, .int .i64 g, .bool o, .slice h.aa at_.length h.ca, .string d, .slice h.ak ks.length h.ck], .slice a n cl, .agg #[.int .i64 k3, .int .i64 m3, .int .i64 u3, .int .i64 g3, .bool o3, .slice hx.aa at3.length hx.ca, .string d3, .slice hx.ak ks3.length hx.ck], .bool cut] _ _
  obtain ⟨B1, X1, R1, hB1⟩ := three W k m u g o at_ d ks h k3 m3 u3 g3 o3 at3 d3 ks3 hx
  obtain ⟨⟨y0, y1, y2, y3, y4, y5, y6, y7⟩, y8⟩ := id B1
  obtain ⟨⟨r0, r1, r2, r3, r4, r5, r6, r7⟩, z8⟩ : NBox (((W.alloc (.cells #[.int .i64 k, .int .i64 m, .int .i64 u, .int .i64 g, .bool o, .slice h.aa at_.length h.ca, .string d, .slice h.ak ks.length h.ck] 84)).alloc (.cells #[.int .i64 k3, .int .i64 m3, .int .i64 u3, .int .i64 g3, .bool o3, .slice hx.aa at3.length hx.ca, .string d3, .slice hx.ak ks3.length hx.ck] 84)).alloc (.cells #[.int .i64 0, .int .i64 0, .int .i64 0, .int .i64 0, .bool false, .slice none 0 0, .string ⟨#[]⟩, .slice none 0 0] 84)) (W.heap.size + 1 + 1) zN zH ∧ ∀ j, (((W.alloc (.cells #[.int .i64 k, .int .i64 m, .int .i64 u, .int .i64 g, .bool o, .slice h.aa at_.length h.ca, .string d, .slice h.ak ks.length h.ck] 84)).alloc (.cells #[.int .i64 k3, .int .i64 m3, .int .i64 u3, .int .i64 g3, .bool o3, .slice hx.aa at3.length hx.ca, .string d3, .slice hx.ak ks3.length hx.ck] 84)).alloc (.cells #[.int .i64 0, .int .i64 0, .int .i64 0, .int .i64 0, .bool false, .slice none 0 0, .string ⟨#[]⟩, .slice none 0 0] 84)).frozen? ⟨W.heap.size + 1 + 1, j, none⟩ = false := R1
  clear B1 X1
  by_cases hn0 : n = 0
  · subst hn0
    go_enter Try.func69, Try.ntmps69
    go_wp2
    refine bodyPost_ret (v := .tuple #[ndV zN zH, .int .i64 7]) (by simp [results, Try.results69, go_sem, ndV, zN, zH]) rfl ⟨⟨zH, rfl, zN_in _⟩, hB1⟩
  · have hk : k ≠ 2 := by
      rcases hz with e | e
      · exact absurd e hn0
      · exact e
    have bk : (k != 2) = true := bne_iff_ne.2 hk
    have dz : ((n : Int) == 0) = false := by simp; omega
    clear hz
    go_enter Try.func69, Try.ntmps69
    go_wp2
    refine bodyPost_ret (v := .tuple #[ndV zN zH, .int .i64 7]) (by simp [results, Try.results69, go_sem, ndV, zN, zH]) rfl ⟨⟨zH, rfl, zN_in _⟩, hB1⟩
end Go.Proofs.Ytiilppebcpkclaa
