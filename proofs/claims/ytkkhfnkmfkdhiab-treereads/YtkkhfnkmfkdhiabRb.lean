/-
  THE READER: fail, take, number, text: the walks.
-/
import Derived.Test.YtkkhfnkmfkdhiabRa
import Derived.Test.YtkkhfnkmfkdhiabVf
import Derived.Lib.ConvBytes
import Derived.Laws.BitsAllLaws
namespace Go.Proofs.Ytkkhfnkmfkdhiab
open Go.RowKit

theorem ofB_take (l : List UInt8) (n : Nat) : (ofB l).extract 0 n = ofB (l.take n) := by
  apply ByteArray.ext
  simp [ofB, ByteArray.extract, ByteArray.copySlice]
theorem ofB_drop (l : List UInt8) (n : Nat) : (ofB l).extract n l.length = ofB (l.drop n) := by
  apply ByteArray.ext
  simp [ofB, ByteArray.extract, ByteArray.copySlice]
  exact List.take_of_length_le (by simp)
/-- The reader in memory. -/
structure RB (w : World) (rb : Nat) (l : List UInt8) (n : Int) (f : Bool) : Prop where
  c0 : w.cell? ⟨rb, 0, none⟩ = some (.string (ofB l))
  c1 : w.cell? ⟨rb, 1, none⟩ = some (.int .i64 n)
  c2 : w.cell? ⟨rb, 2, none⟩ = some (.bool f)
  f0 : w.frozen? ⟨rb, 0, none⟩ = false
  f1 : w.frozen? ⟨rb, 1, none⟩ = false
  f2 : w.frozen? ⟨rb, 2, none⟩ = false
theorem RB.lt {w : World} {rb : Nat} {l : List UInt8} {n : Int} {f : Bool} (h : RB w rb l n f) : rb < w.heap.size := World.block_lt_of_cell? _ _ h.c0
theorem RB.below {w w' : World} {rb : Nat} {l : List UInt8} {n : Int} {f : Bool} (h : RB w rb l n f) (hb : Below w.heap.size w w') : RB w' rb l n f := by
  have hl := h.lt
  exact ⟨(hb.cell (p := ⟨rb, 0, none⟩) hl).trans h.c0, (hb.cell (p := ⟨rb, 1, none⟩) hl).trans h.c1, (hb.cell (p := ⟨rb, 2, none⟩) hl).trans h.c2, (hb.frozen (p := ⟨rb, 0, none⟩) hl).trans h.f0, (hb.frozen (p := ⟨rb, 1, none⟩) hl).trans h.f1, (hb.frozen (p := ⟨rb, 2, none⟩) hl).trans h.f2⟩
theorem RB.set0 {w : World} {rb : Nat} {l : List UInt8} {n : Int} {f : Bool} (h : RB w rb l n f) (l' : List UInt8) : RB (w.setCell ⟨rb, 0, none⟩ (.string (ofB l'))) rb l' n f :=
  ⟨World.cell?_setCell_same _ _ _ h.c0, (World.cell?_setCell_other _ _ _ _ (by simp)).trans h.c1, (World.cell?_setCell_other _ _ _ _ (by simp)).trans h.c2, by simpa using h.f0, by simpa using h.f1, by simpa using h.f2⟩
theorem RB.set1 {w : World} {rb : Nat} {l : List UInt8} {n : Int} {f : Bool} (h : RB w rb l n f) (n' : Int) : RB (w.setCell ⟨rb, 1, none⟩ (.int .i64 n')) rb l n' f :=
  ⟨(World.cell?_setCell_other _ _ _ _ (by simp)).trans h.c0, World.cell?_setCell_same _ _ _ h.c1, (World.cell?_setCell_other _ _ _ _ (by simp)).trans h.c2, by simpa using h.f0, by simpa using h.f1, by simpa using h.f2⟩
theorem RB.set2 {w : World} {rb : Nat} {l : List UInt8} {n : Int} {f : Bool} (h : RB w rb l n f) (f' : Bool) : RB (w.setCell ⟨rb, 2, none⟩ (.bool f')) rb l n f' :=
  ⟨(World.cell?_setCell_other _ _ _ _ (by simp)).trans h.c0, (World.cell?_setCell_other _ _ _ _ (by simp)).trans h.c1, World.cell?_setCell_same _ _ _ h.c2, by simpa using h.f0, by simpa using h.f1, by simpa using h.f2⟩
theorem ofB_nil : ofB [] = ⟨#[]⟩ := rfl

set_option maxRecDepth 100000 in
set_option maxHeartbeats 1000000 in
theorem dfail_any {W : World} {rb : Nat} {l : List UInt8} {n : Int} {f : Bool} (h : RB W rb l n f) :
    Calls Try.prog 96 #[.pointer (some ⟨rb, 0, none⟩)] W fun e w' => e = .returned (.tuple #[]) ∧ But rb W w' ∧ RB w' rb [] n true := by
  have HR : Hid (RB W rb l n f) := h
  obtain ⟨h0, h1, h2, h3, h4, h5⟩ := h
  go_enter Try.func96, Try.ntmps96
  go_wp2
  go_end0
  exact ⟨rfl, ((But.refl _ _).setCell _ _ _).setCell _ _ _, (HR.out.set2 true).set0 []⟩
/-- What take makes of what is left. -/
def tkR (n : Nat) (l : List UInt8) (f : Bool) : List UInt8 × List UInt8 × Bool := if n ≤ l.length then (l.take n, l.drop n, f) else ([], [], true)

set_option maxRecDepth 100000 in
set_option maxHeartbeats 1000000 in
theorem dtake_any {W : World} {rb : Nat} {l : List UInt8} {n : Int} {f : Bool} (h : RB W rb l n f) (k : Nat) (_hk : k ≤ 1000) (_hl : l.length ≤ 1000000) :
    Calls Try.prog 132 #[.pointer (some ⟨rb, 0, none⟩), .int .i64 k] W fun e w' => e = .returned (.string (ofB (tkR k l f).1)) ∧ But rb W w' ∧ RB w' rb (tkR k l f).2.1 n (tkR k l f).2.2 := by
  have HR : Hid (RB W rb l n f) := h
  have hsz := ofB_size l
  obtain ⟨h0, h1, h2, h3, h4, h5⟩ := h
  by_cases hkl : k ≤ l.length
  · have e : tkR k l f = (l.take k, l.drop k, f) := if_pos hkl
    rw [e]
    have b1 : decide ((l.length : Int) < (k : Int)) = false := decide_eq_false (by omega)
    generalize hs : ofB l = s at *
    go_enter Try.func132, Try.ntmps132
    go_wp2
    go_ret
    have e1 : s.extract 0 k = ofB (l.take k) := by rw [← hs]; exact ofB_take l k
    have e2 : s.extract k l.length = ofB (l.drop k) := by rw [← hs]; exact ofB_drop l k
    rw [e1, e2]
    exact ⟨rfl, (But.refl _ _).setCell _ _ _, HR.out.set0 _⟩
  · have e : tkR k l f = ([], [], true) := if_neg hkl
    rw [e]
    have b1 : decide ((l.length : Int) < (k : Int)) = true := decide_eq_true (by omega)
    generalize hs : ofB l = s at *
    go_enter Try.func132, Try.ntmps132
    go_wp2_with fail
    refine Calls.mono (dfail_any HR.out) ?_
    rintro e w1 ⟨rfl, hb, hr⟩
    go_wp2
    go_ret
    exact ⟨rfl, hb, hr⟩
theorem conv_bytes (w : World) (s : List UInt8) : ∃ (w2 : World) (cap : Nat), (convert 9 94 (.string (ofB s))).run Try.prog w = .ok (.slice (some ⟨w.heap.size, 0, none⟩) s.length cap) w2 ∧ Below w.heap.size w w2 ∧ ∀ j b, s[j]? = some b → w2.cell? ⟨w.heap.size, j, none⟩ = some (.int .u8 b.toNat) := by
  have h := Lib.run_convert_string_bytes (P := Try.prog) w 9 94 5 (ofB s) Try.underlying9 Try.underlying94 Try.underlying5
  rw [ofB_size] at h
  refine ⟨_, _, h, ⟨rfl, rfl, rfl, by rw [Lib.bytesWorld_size]; omega, fun k hk => Lib.bytesWorld_at_old w _ _ k hk⟩, fun j b hj => ?_⟩
  have hjl := (List.getElem?_eq_some_iff.1 hj).1
  rw [Lib.bytesWorld_cell w _ _ j (by rw [ofB_size]; exact hjl)]
  simp [ofB, List.getD, hj]
/-- The number that some bytes are. -/
def nuV (l : List UInt8) : Nat := l.foldl (fun x b => x * 256 + b.toNat) 0
theorem nuV_step {s : List UInt8} {j : Nat} {b : UInt8} (h : s[j]? = some b) (hs : s.length ≤ 2) : nuV (s.take (j + 1)) = nuV (s.take j) * 256 + b.toNat ∧ nuV (s.take j) < 256 := by
  have hj := (List.getElem?_eq_some_iff.1 h).1
  refine ⟨?_, ?_⟩
  · rw [List.take_add_one, h]
    simp [nuV, List.foldl_append]
  · have hj2 : j = 0 ∨ j = 1 := by omega
    rcases hj2 with rfl | rfl
    · simp [nuV]
    · cases s with
      | nil => simp at hj
      | cons a s =>
        have := a.toNat_lt
        simp [nuV]
        omega
theorem ofInt_i64 (a : Nat) (ha : a < 65536) : (BitVec.ofInt 64 (a : Int)).toNat = a := by
  simp; omega
theorem i64_or_nat (a b : Nat) (ha : a < 65536) (hb : b < 65536) : bits .or .i64 (a : Int) (b : Int) = ((a ||| b : Nat) : Int) := by
  have h : a ||| b < 65536 := Nat.or_lt_two_pow (n := 16) ha hb
  show IntKind.i64.wrap (((BitVec.ofInt 64 (a : Int) ||| BitVec.ofInt 64 (b : Int)).toNat : Nat) : Int) = _
  rw [BitVec.toNat_or, ofInt_i64 a ha, ofInt_i64 b hb]
  exact wrap_small (by omega) (by omega)
theorem or_byte (x : Nat) (b : UInt8) (hx : x < 256) : bits BinOp.or IntKind.i64 (wrap64 ((x : Int) * 256)) (wrap64 (b.toNat : Int)) = ((x * 256 + b.toNat : Nat) : Int) := by
  have hb := b.toNat_lt
  have e1 : wrap64 ((x : Int) * 256) = ((x * 256 : Nat) : Int) := by rw [wrap64]; omega
  have e2 : wrap64 (b.toNat : Int) = ((b.toNat : Nat) : Int) := by rw [wrap64]; omega
  rw [e1, e2, i64_or_nat (x * 256) b.toNat (by omega) (by omega)]
  rw [← Nat.shiftLeft_eq x 8, Nat.shiftLeft_add_eq_or_of_lt (by omega)]

set_option maxRecDepth 100000 in
set_option maxHeartbeats 1000000 in
theorem dnumber_any {W : World} {rb : Nat} {l : List UInt8} {n : Int} {f : Bool} (h : RB W rb l n f) (k : Nat) (hk : k ≤ 2) (hl : l.length ≤ 1000000) :
    Calls Try.prog 97 #[.pointer (some ⟨rb, 0, none⟩), .int .i64 k] W fun e w' => e = .returned (.int .i64 (nuV (tkR k l f).1)) ∧ But rb W w' ∧ RB w' rb (tkR k l f).2.1 n (tkR k l f).2.2 := by
  have HC : Hid (Calls Try.prog 132 #[.pointer (some ⟨rb, 0, none⟩), .int .i64 k] W fun e w' => e = .returned (.string (ofB (tkR k l f).1)) ∧ But rb W w' ∧ RB w' rb (tkR k l f).2.1 n (tkR k l f).2.2) := dtake_any h k (by omega) hl
  have hlen : (tkR k l f).1.length ≤ 2 := by
    unfold tkR
    split
    · simp; omega
    · simp
  clear h
  generalize tkR k l f = T at *
  obtain ⟨s, l', f'⟩ := T
  dsimp only at *
  go_enter Try.func97, Try.ntmps97
  go_wp2_with fail
  refine Calls.mono HC.out ?_
  rintro e w1 ⟨rfl, hb, hr⟩
  obtain ⟨w2, cap, hcv, hB2, hcell⟩ := conv_bytes w1 s
  have HCL : Hid (∀ (j : Nat) b, s[j]? = some b → w2.cell? ⟨w1.heap.size, j, none⟩ = some (.int .u8 b.toNat)) := hcell
  have HFin : Hid (But rb W w2 ∧ RB w2 rb l' n f') := ⟨hb.then hB2, hr.below hB2⟩
  clear hcell HC hb hr hB2
  go_wp2
  clear hcv
  generalize w1.heap.size = g1 at HCL ⊢
  go_loopw [13, 5] (fun i x wr => ∃ j : Nat, j ≤ s.length ∧ i = .int .i64 j ∧ x = .int .i64 (nuV (s.take j)) ∧ wr = w2) (fun i _ _ => s.length - (intOf i).toNat)
  case atStart => exact ⟨0, Nat.zero_le _, rfl, by simp [nuV], rfl⟩
  case round =>
    obtain ⟨j, hj, rfl, rfl, rfl⟩ := hrel
    by_cases hjl : j < s.length
    · have hji : (j : Int) < (s.length : Int) := by omega
      obtain ⟨b, hbj⟩ : ∃ b, s[j]? = some b := ⟨s[j], by simp [hjl]⟩
      have q0 := HCL.out j b hbj
      have HX : Hid (nuV (s.take (j + 1)) = nuV (s.take j) * 256 + b.toNat ∧ nuV (s.take j) < 256) := nuV_step hbj hlen
      generalize nuV (s.take j) = x at HX ⊢
      go_wp2
      go_roundw
      case rel => exact ⟨j + 1, by omega, by go_num, by rw [HX.out.1, or_byte x b HX.out.2], trivial⟩
      case measure => simp [intOf]; omega
    · have hji : decide ((j : Int) < (s.length : Int)) = false := decide_eq_false (by omega)
      have e : s.take j = s := List.take_of_length_le (by omega)
      rw [e]
      clear e
      go_wp2
      go_ret
      exact ⟨rfl, HFin.out⟩
end Go.Proofs.Ytkkhfnkmfkdhiab
