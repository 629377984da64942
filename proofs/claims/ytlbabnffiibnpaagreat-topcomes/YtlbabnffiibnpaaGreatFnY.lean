/-
  WHAT IS MADE OF A NODE: the walk.
-/
import Derived.Test.YtlbabnffiibnpaaGreatUbX
import Derived.Test.YtlbabnffiibnpaaGreatZnX
import Derived.Test.YtlbabnffiibnpaaGreatWoX
namespace Go.Proofs.YtlbabnffiibnpaaGreat
open Go.RowKit
/-- A node without kids, as it comes. -/
abbrev bv (k m u g : Int) (o : Bool) (at_ : List Kv) (d : ByteArray) (aa : Option Addr) (ca : Nat) : Value := .agg #[.int .i64 k, .int .i64 m, .int .i64 u, .int .i64 g, .bool o, .slice aa at_.length ca, .string d, .slice none 0 0]
/-- How an answer of such a node stands in memory. -/
def MadeR (x : Nd) (S : Nat → Bool) (W : World) (e : Ending) (W' : World) : Prop := ∃ (k m u g : Int) (o : Bool) (at_ : List Kv) (d : ByteArray) (aa : Option Addr) (ca : Nat), x = .mk k m u g o at_ d [] ∧ e = .returned (bv k m u g o at_ d aa ca) ∧ at_.length ≤ ca ∧ ca ≤ 9223372036854775807 ∧ at_.length ≤ 1000 ∧ Kvm (offS W'.cell? S) aa at_ ∧ Below W.heap.size W W'
/-- What a function makes of nodes. -/
def FnOk (w0 : World) (fv : Value) (F : Nd → Nat → Nd) : Prop := (fv = .nilFunc ∧ F = idF) ∨ ∃ gf lb, fv = .func (.func gf) #[] lb ∧ (∀ args w, (callFunc gf args).run Tryz.prog w = .ok (.enter gf args) w) ∧
  ∀ (W : World) (S : Nat → Bool) (k m u g : Int) (o : Bool) (at_ : List Kv) (d : ByteArray) (aa : Option Addr) (ca ly : Nat), I64 u → I64 g → Below w0.heap.size w0 W → (∀ k, S k = true → k < W.heap.size) → at_.length ≤ ca → ca ≤ 9223372036854775807 → at_.length ≤ 1000 → Kvm (offS W.cell? S) aa at_ →
    Calls Tryz.prog gf (#[bv k m u g o at_ d aa ca, .int .i64 ly] ++ lb) W (MadeR (F (.mk k m u g o at_ d []) ly) S W)
theorem maker_any (w : World) (fv : Value) (hf : fv.oneCell' = true) :
    Calls Tryz.prog 35 #[fv] w fun e w' => e = .returned (.func (.func 55) #[] #[.pointer (some ⟨w.heap.size, 0, none⟩)]) ∧ w' = w.alloc (.cells #[fv] 66) := by
  go_enter Tryz.func35, Tryz.ntmps35
  go_wp2
  go_ret
  exact ⟨rfl, rfl⟩
theorem eqlIn_nilF {P : Program} (w : World) (d : Nat) (t : TypeId) (ps rs : Array TypeId) (v : Bool) (h : P.underlying t = some (.func ps rs v)) : (Op.equalIn (d + 1) t .nilFunc .nilFunc).run P w = .ok true w := by simp [Op.equalIn, run_underlying h]
theorem eqlIn_funF {P : Program} (w : World) (d : Nat) (t : TypeId) (ps rs : Array TypeId) (v : Bool) (gf : Nat) (lb : Array Value) (h : P.underlying t = some (.func ps rs v)) : (Op.equalIn (d + 1) t (.func (.func gf) #[] lb) .nilFunc).run P w = .ok false w := by simp [Op.equalIn, run_underlying h]
theorem eql_nilF (w : World) : (binOp .eql 66 .nilFunc .nilFunc).run Tryz.prog w = .ok (.bool true) w := by
  simp only [binOp]
  simp [Op.equal, Op.maxDepth, eqlIn_nilF w 9999 _ _ _ _ Tryz.underlying66]
theorem eql_funF (w : World) (gf : Nat) (lb : Array Value) : (binOp .eql 66 (.func (.func gf) #[] lb) .nilFunc).run Tryz.prog w = .ok (.bool false) w := by
  simp only [binOp]
  simp [Op.equal, Op.maxDepth, eqlIn_funF w 9999 _ _ _ _ gf lb Tryz.underlying66]
theorem butc {b : Nat} {w w' : World} (hb : But b w w') (q : Addr) (h1 : q.block < w.heap.size) (h2 : q.block ≠ b) : w'.cell? q = w.cell? q := World.cell?_of_block (w := w) (hb.block _ h1 h2)
theorem drop3 {W : World} {S : Nat → Bool} {x y z : Obj} (hS : ∀ k, S k = true → k < W.heap.size) : (∀ k, ((k == W.heap.size || (k == W.heap.size + 1 || k == W.heap.size + 1 + 1)) || S k) = true → k < (((W.alloc x).alloc y).alloc z).heap.size) ∧ MLe (offS W.cell? S) (offS (((W.alloc x).alloc y).alloc z).cell? (fun k => (k == W.heap.size || (k == W.heap.size + 1 || k == W.heap.size + 1 + 1)) || S k)) := by
  have hs : (((W.alloc x).alloc y).alloc z).heap.size = W.heap.size + 1 + 1 + 1 := by rw [World.size_alloc, World.size_alloc, World.size_alloc]
  refine ⟨fun k hk => ?_, mle_step fun k hk hs => ⟨by simp [hs]; omega, ?_⟩⟩
  · rw [hs]
    simp at hk
    rcases hk with (q | q | q) | q
    · omega
    · omega
    · omega
    · have := hS k q; omega
  · rw [Below.heap_alloc _ _ _ (by rw [World.size_alloc, World.size_alloc]; omega), Below.heap_alloc _ _ _ (by rw [World.size_alloc]; omega), Below.heap_alloc _ _ _ hk]
set_option maxRecDepth 100000 in
set_option maxHeartbeats 1000000 in
theorem made_any {w0 W : World} {S : Nat → Bool} (hS : ∀ k, S k = true → k < W.heap.size) (hW : Below w0.heap.size w0 W) {fb : Nat} {fv : Value} {F : Nd → Nat → Nd} (hf : W.cell? ⟨fb, 0, none⟩ = some fv) (hF : FnOk w0 fv F) {s : Sp} (hs : SpAt (offS W.cell? S) s) (hl : Lim s.x) (hid : IdN s.x) :
    Calls Tryz.prog 55 #[.agg #[.pointer (some ⟨s.b, s.p, none⟩), .int .i64 s.ly], .pointer (some ⟨fb, 0, none⟩)] W (MadeR (F (nakN s.x) s.ly) S W) := by
  obtain ⟨sb, sp, ly, ⟨k, m, u, g, o, at_, d, ks⟩, h⟩ := s
  obtain ⟨q0, q1, q2, q3, q4, q5, q6, q7⟩ := hs.1.on (offS_le _ _)
  obtain ⟨hka, hca, _, _⟩ := ndV_iff.1 hs.2
  dsimp only at q0 q1 q2 q3 q4 q5 q6 q7 hka hca hl hid
  rw [Lim] at hl
  have hla := hl.1
  rw [IdN] at hid
  have HI64 : Hid (I64 u ∧ I64 g) := ⟨hid.1, hid.2.1⟩
  clear hid
  clear hl hs
  have hB0 : Below W.heap.size W (W.alloc (.cells #[.pointer (some ⟨sb, sp, none⟩), .int .i64 ly] 59)) := (Below.refl _ _).alloc (Nat.le_refl _) _
  have hB1 := hB0.alloc hB0.size (.cells #[.int .i64 0, .int .i64 0, .int .i64 0, .int .i64 0, .bool false, .slice none 0 0, .string ⟨#[]⟩, .slice none 0 0] 34)
  have q0 := mle_below hB1 _ _ q0
  have q1 := mle_below hB1 _ _ q1
  have q2 := mle_below hB1 _ _ q2
  have q3 := mle_below hB1 _ _ q3
  have q4 := mle_below hB1 _ _ q4
  have q5 := mle_below hB1 _ _ q5
  have q6 := mle_below hB1 _ _ q6
  have q7 := mle_below hB1 _ _ q7
  obtain ⟨s0, s1⟩ := two_new W (.pointer (some ⟨sb, sp, none⟩)) (.int .i64 ly) 59
  have s0 := mle_below ((Below.refl _ _).alloc (Nat.le_refl _) (.cells #[.int .i64 0, .int .i64 0, .int .i64 0, .int .i64 0, .bool false, .slice none 0 0, .string ⟨#[]⟩, .slice none 0 0] 34)) _ _ s0
  have s1 := mle_below ((Below.refl _ _).alloc (Nat.le_refl _) (.cells #[.int .i64 0, .int .i64 0, .int .i64 0, .int .i64 0, .bool false, .slice none 0 0, .string ⟨#[]⟩, .slice none 0 0] 34)) _ _ s1
  show Calls Tryz.prog 55 #[.agg #[.pointer (some ⟨sb, sp, none⟩), .int .i64 ly], .pointer (some ⟨fb, 0, none⟩)] W (MadeR (F (.mk k m u g false at_ d []) ly) S W)
  go_enter Tryz.func55, Tryz.ntmps55
  go_wp2_with fail
  obtain ⟨hS3, hm3⟩ := drop3 (x := .cells #[.pointer (some ⟨sb, sp, none⟩), .int .i64 ly] 59) (y := .cells #[.int .i64 0, .int .i64 0, .int .i64 0, .int .i64 0, .bool false, .slice none 0 0, .string ⟨#[]⟩, .slice none 0 0] 34) (z := .cells #[.int .i64 k, .int .i64 m, .int .i64 u, .int .i64 g, .bool false, .slice h.aa at_.length h.ca, .string d, .slice none 0 0] 34) hS
  have hk3 := hka.on hm3
  have hB3 := hB1.alloc hB1.size (.cells #[.int .i64 k, .int .i64 m, .int .i64 u, .int .i64 g, .bool false, .slice h.aa at_.length h.ca, .string d, .slice none 0 0] 34)
  have hal := (Below.refl _ ((W.alloc (.cells #[.pointer (some ⟨sb, sp, none⟩), .int .i64 ly] 59)).alloc (.cells #[.int .i64 0, .int .i64 0, .int .i64 0, .int .i64 0, .bool false, .slice none 0 0, .string ⟨#[]⟩, .slice none 0 0] 34))).alloc (Nat.le_refl _) (.cells #[.int .i64 k, .int .i64 m, .int .i64 u, .int .i64 g, .bool false, .slice h.aa at_.length h.ca, .string d, .slice none 0 0] 34)
  have R3 := (NBw.zero (W.alloc (.cells #[.pointer (some ⟨sb, sp, none⟩), .int .i64 ly] 59))).below hal
  have B3 := NBw.new ((W.alloc (.cells #[.pointer (some ⟨sb, sp, none⟩), .int .i64 ly] 59)).alloc (.cells #[.int .i64 0, .int .i64 0, .int .i64 0, .int .i64 0, .bool false, .slice none 0 0, .string ⟨#[]⟩, .slice none 0 0] 34)) k m u g false at_ d [] ⟨h.aa, h.ca, none, 0⟩
  simp only [List.length_nil] at B3
  rw [World.size_alloc, World.size_alloc] at B3
  rw [World.size_alloc] at R3
  have s0 := mle_below hal _ _ s0
  have s1 := mle_below hal _ _ s1
  have f3 := mle_below hB3 _ _ hf
  have hfb : fb < W.heap.size := World.block_lt_of_cell? _ _ hf
  clear q0 q1 q2 q3 q4 q5 q6 q7 hB0 hB1 hka hm3 hal hf
  have HS : Hid (∀ k, S k = true → k < W.heap.size) := hS
  have hWs := hW.size
  generalize (((W.alloc (.cells #[.pointer (some ⟨sb, sp, none⟩), .int .i64 ly] 59)).alloc (.cells #[.int .i64 0, .int .i64 0, .int .i64 0, .int .i64 0, .bool false, .slice none 0 0, .string ⟨#[]⟩, .slice none 0 0] 34)).alloc (.cells #[.int .i64 k, .int .i64 m, .int .i64 u, .int .i64 g, .bool false, .slice h.aa at_.length h.ca, .string d, .slice none 0 0] 34)) = w3 at hS3 hk3 hB3 R3 B3 s0 s1 f3 ⊢
  refine Calls.mono (ownN_any (k := k) (m := m) (u := u) (g := g) (o := false) (d := d) (ca := h.ca) hS3 hk3 hla) ?_
  rintro e w4 ⟨a2, c2, rfl, hc1, hc2, hk4, b4⟩
  have B4 := B3.below b4
  have R4 := R3.below b4
  have hB4 := hB3.trans (b4.mono hB3.size)
  have s0 := mle_below b4 _ _ s0
  have s1 := mle_below b4 _ _ s1
  have f4 := mle_below b4 _ _ f3
  have hS4 : ∀ k, ((k == W.heap.size || (k == W.heap.size + 1 || k == W.heap.size + 1 + 1)) || S k) = true → k < w4.heap.size := fun k hk => Nat.lt_of_lt_of_le (hS3 k hk) b4.size
  clear B3 R3 hB3 hk3 b4 f3 hS3
  have hsz4 : W.heap.size + 1 + 1 < w4.heap.size := B4.1.lt
  generalize hnb : W.heap.size = nb at B4 R4 s0 s1 hfb hk4 hS4 hsz4 ⊢
  have B5 := B4.store (.mk k m u g false at_ d []) ⟨a2, c2, none, 0⟩
  have b5 : But (nb + 1 + 1) w4 (stB w4 (nb + 1 + 1) (.mk k m u g false at_ d []) ⟨a2, c2, none, 0⟩) := stB_but
  have R5 := R4.but b5 (by omega)
  have hB5 := hB4.trans (b5.below (B := W.heap.size) (by omega) hB4.size)
  have hk5 := hk4.on (mle_step (w := w4) (w' := stB w4 (nb + 1 + 1) (.mk k m u g false at_ d []) ⟨a2, c2, none, 0⟩) (S' := fun k => (k == nb || (k == nb + 1 || k == nb + 1 + 1)) || S k) fun q hq hs => ⟨hs, b5.block q hq (by simp at hs; exact hs.1.2.2)⟩)
  have hS5 : ∀ q, ((q == nb || (q == nb + 1 || q == nb + 1 + 1)) || S q) = true → q < (stB w4 (nb + 1 + 1) (.mk k m u g false at_ d []) ⟨a2, c2, none, 0⟩).heap.size := fun q hq => Nat.lt_of_lt_of_le (hS4 q hq) b5.size
  have f5 : (stB w4 (nb + 1 + 1) (.mk k m u g false at_ d []) ⟨a2, c2, none, 0⟩).cell? ⟨fb, 0, none⟩ = some fv := (butc b5 ⟨fb, 0, none⟩ (by show fb < _; omega) (by show fb ≠ _; omega)).trans f4
  have s0 : (stB w4 (nb + 1 + 1) (.mk k m u g false at_ d []) ⟨a2, c2, none, 0⟩).cell? ⟨nb, 0, none⟩ = some (.pointer (some ⟨sb, sp, none⟩)) := (butc b5 ⟨nb, 0, none⟩ (by show nb < _; omega) (by show nb ≠ _; omega)).trans s0
  have s1 : (stB w4 (nb + 1 + 1) (.mk k m u g false at_ d []) ⟨a2, c2, none, 0⟩).cell? ⟨nb, 1, none⟩ = some (.int .i64 ly) := (butc b5 ⟨nb, 1, none⟩ (by show nb < _; omega) (by show nb ≠ _; omega)).trans s1
  obtain ⟨⟨y0, y1, y2, y3, y4, y5, y6, y7⟩, y8⟩ := id B4
  obtain ⟨⟨x0, x1, x2, x3, x4, x5, x6, x7⟩, x8⟩ := id B5
  obtain ⟨⟨z0, z1, z2, z3, z4, z5, z6, z7⟩, z8⟩ := id R5
  simp only [List.length_nil] at y7 x7
  generalize hw5 : stB w4 (nb + 1 + 1) (.mk k m u g false at_ d []) ⟨a2, c2, none, 0⟩ = w5 at B5 R5 hB5 hk5 hS5 f5 s0 s1 x0 x1 x2 x3 x4 x5 x6 x7 x8 z0 z1 z2 z3 z4 z5 z6 z7 z8
  have hw5' := hw5
  simp only [stB, List.length_nil] at hw5'
  clear hk4 B4 R4 hB4 f4 hS4 b5 hw5
  have hq1 := eql_nilF
  have hq2 := eql_funF
  rcases hF with ⟨rfl, rfl⟩ | ⟨gf, lb, rfl, heg, hcon⟩
  · have R6 := R5.store (.mk k m u g false at_ d []) ⟨a2, c2, none, 0⟩
    have b6 : But (nb + 1) w5 (stB w5 (nb + 1) (.mk k m u g false at_ d []) ⟨a2, c2, none, 0⟩) := stB_but
    have hB6 := hB5.trans (b6.below (B := W.heap.size) (by omega) hB5.size)
    have hk6 := hk5.on (mle_step (w := w5) (w' := stB w5 (nb + 1) (.mk k m u g false at_ d []) ⟨a2, c2, none, 0⟩) (S' := S) fun q hq hs => ⟨by simp at hs; exact hs.2, b6.block q hq (by simp at hs; exact hs.1.2.1)⟩)
    generalize hw6 : stB w5 (nb + 1) (.mk k m u g false at_ d []) ⟨a2, c2, none, 0⟩ = w6 at R6 hB6 hk6
    have HW6 : Hid (stB w5 (nb + 1) (.mk k m u g false at_ d []) ⟨a2, c2, none, 0⟩ = w6) := hw6
    clear hw6 b6 hk5 R5 B5 hB5 hS5
    go_wp2
    have hw6 := HW6.out
    simp only [stB, List.length_nil] at hw6
    rw [hw6]
    obtain ⟨r0, r1, r2, r3, r4, r5, r6, r7⟩ := R6.1
    simp only [List.length_nil] at r7
    exact bodyPost_ret (v := bv k m u g false at_ d a2 c2) (by simp [results, Tryz.results55, go_sem, r0, r1, r2, r3, r4, r5, r6, r7]) rfl ⟨k, m, u, g, false, at_, d, a2, c2, rfl, rfl, hc1, hc2, hla, hk6, hB6⟩
  · have HC : Hid (Calls Tryz.prog gf (#[bv k m u g false at_ d a2 c2, .int .i64 ly] ++ lb) w5 _) := hcon w5 (fun k => (k == nb || (k == nb + 1 || k == nb + 1 + 1)) || S k) k m u g false at_ d a2 c2 ly HI64.out.1 HI64.out.2 (hW.trans (hB5.mono hWs)) hS5 hc1 hc2 hla hk5
    clear hcon
    go_wp2_with fail
    refine Calls.mono HC.out ?_
    rintro e w6 ⟨k6, m6, u6, g6, o6, at6, d6, a6, c6, hF6, rfl, hd1, hd2, hd3, hk6, b6⟩
    have R6 := R5.below b6
    have hB6 := hB5.trans (b6.mono hB5.size)
    have HO : Hid _ := ownN_any (k := k6) (m := m6) (u := u6) (g := g6) (o := o6) (d := d6) (ca := c6) (fun q hq => Nat.lt_of_lt_of_le (hS5 q hq) b6.size) hk6 hd3
    have hnb6 : nb + 1 < w6.heap.size := R6.1.lt
    clear HC y0 y1 y2 y3 y4 y5 y6 y7 y8 x0 x1 x2 x3 x4 x5 x6 x7 x8 z0 z1 z2 z3 z4 z5 z6 z7 z8 hk5 R5 B5 hB5 hS5 b6 s0 s1 f5 hk6 hw5' hq1 hq2 heg
    have HF6 : Hid _ := hF6
    clear hF6
    go_wp2_with fail
    refine Calls.mono HO.out ?_
    rintro e w7 ⟨a7, c7, rfl, he1, he2, hk7, b7⟩
    have R7 := R6.below b7
    have hB7 := hB6.trans (b7.mono hB6.size)
    have R8 := R7.store (.mk k6 m6 u6 g6 o6 at6 d6 []) ⟨a7, c7, none, 0⟩
    have b8 : But (nb + 1) w7 (stB w7 (nb + 1) (.mk k6 m6 u6 g6 o6 at6 d6 []) ⟨a7, c7, none, 0⟩) := stB_but
    have hB8 := hB7.trans (b8.below (B := W.heap.size) (by omega) hB7.size)
    have hk8 := hk7.on (mle_step (w := w7) (w' := stB w7 (nb + 1) (.mk k6 m6 u6 g6 o6 at6 d6 []) ⟨a7, c7, none, 0⟩) (S' := S) fun q hq hs => ⟨by simp at hs; exact hs.2, b8.block q hq (by simp at hs; exact hs.1.2.1)⟩)
    obtain ⟨⟨z0, z1, z2, z3, z4, z5, z6, z7⟩, z8⟩ := id R7
    generalize hw8 : stB w7 (nb + 1) (.mk k6 m6 u6 g6 o6 at6 d6 []) ⟨a7, c7, none, 0⟩ = w8 at R8 hB8 hk8
    have HW8 : Hid (stB w7 (nb + 1) (.mk k6 m6 u6 g6 o6 at6 d6 []) ⟨a7, c7, none, 0⟩ = w8) := hw8
    clear hw8 b8 hk7 R6 R7 hB6 hB7 b7 HO
    go_wp2
    have hw8 := HW8.out
    simp only [stB, List.length_nil] at hw8
    rw [hw8]
    obtain ⟨r0, r1, r2, r3, r4, r5, r6, r7⟩ := R8.1
    simp only [List.length_nil] at r7
    exact bodyPost_ret (v := bv k6 m6 u6 g6 o6 at6 d6 a7 c7) (by simp [results, Tryz.results55, go_sem, r0, r1, r2, r3, r4, r5, r6, r7]) rfl ⟨k6, m6, u6, g6, o6, at6, d6, a7, c7, HF6.out, rfl, he1, he2, hd3, hk8, hB8⟩
end Go.Proofs.YtlbabnffiibnpaaGreat
