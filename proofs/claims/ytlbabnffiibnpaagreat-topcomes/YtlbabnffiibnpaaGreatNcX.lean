/-
  TREES, the facts of no program: what a change leaves, what is found then, what may be.
  MAPS OF IDS: what is wrong with one; the walks of bounded, meet.
  WHAT IS WRONG WITH A MAP: the walk of Check of package idmap.
  WHERE AN ID LEADS: the walks of ToHost and FromHost.
  PUT BELOW WHAT WAS PUT, branches: no program here.
  WHAT Own DOES: the walk.
-/
import Derived.Test.YtlbabnffiibnpaaGreatApX
import Derived.Test.YtlbabnffiibnpaaGreatNpX
import Derived.Deep.RegionHeld3
import Derived.Test.YtlbabnffiibnpaaGreatNnX
import Derived.Deep.LoopGhost
import Derived.WalkSmall
namespace Go.Proofs.YtlbabnffiibnpaaGreat
open Go.RowKit
/-- The first kid of a name. -/
def fk (m : ByteArray) : Kds → Option Nd
  | [] => none
  | (n, x) :: l => if n = m then some x else fk m l
/-- Another node in the place of the first kid of a name. -/
def setk (m : ByteArray) (z : Nd) : Kds → Kds
  | [] => []
  | (n, x) :: l => if n = m then (m, z) :: l else (n, x) :: setk m z l
def insk (m : ByteArray) (z : Nd) : Kds → Kds
  | [] => [(m, z)]
  | (n, x) :: l => if ltB m n = true then (m, z) :: (n, x) :: l else (n, x) :: insk m z l
def delk (m : ByteArray) : Kds → Kds
  | [] => []
  | (n, x) :: l => if n = m then l else (n, x) :: delk m l
theorem kid_parts (m : ByteArray) : ∀ (ks : Kds) (i : Nat), (kidI m ks i = -1 ∧ fk m ks = none) ∨ ∃ j y, kidI m ks i = ((i + j : Nat) : Int) ∧ ks[j]? = some (m, y) ∧ fk m ks = some y ∧ (∀ z, ks.set j (m, z) = setk m z ks) ∧ ks.take j ++ ks.drop (j + 1) = delk m ks ∧ ∀ z, ks.take j ++ (m, z) :: ks.drop (j + 1) = setk m z ks
  | [], i => .inl ⟨by rw [kidI], rfl⟩
  | (n, x) :: l, i => by
    rw [kidI, fk]
    by_cases h : n = m
    · rw [if_pos h, if_pos h]
      refine .inr ⟨0, x, by simp, by simp [h], rfl, fun z => by simp [setk, h], by simp [delk, h], fun z => by simp [setk, h]⟩
    · rw [if_neg h, if_neg h]
      rcases kid_parts m l (i + 1) with ⟨h1, h2⟩ | ⟨j, y, h1, h2, h3, h4, h5, h6⟩
      · exact .inl ⟨h1, h2⟩
      · refine .inr ⟨j + 1, y, by rw [h1]; congr 1; omega, by simpa using h2, h3, fun z => by simp [setk, h, h4 z], by simp [delk, h, ← h5], fun z => by simp [setk, h, ← h6 z]⟩
theorem kid_none {m : ByteArray} {ks : Kds} : kidI m ks 0 < 0 ↔ fk m ks = none := by
  rcases kid_parts m ks 0 with ⟨h1, h2⟩ | ⟨j, y, h1, _, h3, _⟩
  · rw [h1, h2]; simp
  · rw [h1, h3]; simp
theorem abv_ins (m : ByteArray) (x : Nd) : ∀ ks : Kds, ks.take (abvN m ks) ++ (m, x) :: ks.drop (abvN m ks) = insk m x ks
  | [] => rfl
  | (n, y) :: l => by
    have e : abvN m ((n, y) :: l) = if ltB m n = true then 0 else abvN m l + 1 := by
      unfold abvN
      rw [List.findIdx_cons]
      cases ltB m n <;> simp
    rw [e, insk]
    by_cases h : ltB m n = true
    · rw [if_pos h, if_pos h]; rfl
    · rw [if_neg h, if_neg h, ← abv_ins m x l]; simp
theorem put_eq (m : ByteArray) (x : Nd) (ks : Kds) : putK m x ks = if fk m ks = none then insk m x ks else setk m x ks := by
  unfold putK
  rcases kid_parts m ks 0 with ⟨h1, h2⟩ | ⟨j, y, h1, _, h3, _, _, h6⟩
  · rw [if_pos (by rw [h1]; decide), if_pos h2, abv_ins]
  · rw [if_neg (by rw [h1]; omega), if_neg (by rw [h3]; simp), h1]
    have e : ((0 + j : Nat) : Int).toNat = j := by simp
    rw [e, h6]
theorem cut_eq {m : ByteArray} {ks : Kds} (h : fk m ks ≠ none) : cutK m ks = delk m ks := by
  unfold cutK
  rcases kid_parts m ks 0 with ⟨h1, h2⟩ | ⟨j, y, h1, _, h3, _, h5, _⟩
  · exact absurd h2 h
  · rw [h1]
    have e : ((0 + j : Nat) : Int).toNat = j := by simp
    rw [e, h5]
theorem find_fk (m : ByteArray) (l : List ByteArray) (x : Nd) : findF (m :: l) x = if x.kind ≠ 2 then none else match fk m x.kids with
  | none => none
  | some y => findF l y := by
  rw [findF]
  by_cases hk : x.kind ≠ 2
  · rw [if_pos (.inl hk), if_pos hk]
  · rw [if_neg hk]
    rcases kid_parts m x.kids 0 with ⟨h1, h2⟩ | ⟨j, y, h1, h2, h3, _⟩
    · rw [if_pos (.inr (by rw [h1]; decide)), h2]
    · rw [if_neg (fun q => by rcases q with q | q; exact hk q; rw [h1] at q; omega), h3, h1]
      have e : ((0 + j : Nat) : Int).toNat = j := by simp
      have e2 : x.kid j = y := by unfold Nd.kid; rw [h2]
      rw [e, e2]
theorem chg_fk (c : Option Nd) (m m' : ByteArray) (l : List ByteArray) (x : Nd) : chgF c (m :: m' :: l) x = if x.kind ≠ 2 then .error 7 else match fk m x.kids with
  | none => .error 5
  | some y => (chgF c (m' :: l) y).map fun z => x.with (setk m z x.kids) := by
  rw [chgF]
  by_cases hk : x.kind ≠ 2
  · rw [if_pos hk, if_pos hk]
  · rw [if_neg hk, if_neg hk]
    rcases kid_parts m x.kids 0 with ⟨h1, h2⟩ | ⟨j, y, h1, h2, h3, h4, _⟩
    · rw [if_pos (by rw [h1]; decide), h2]
    · rw [if_neg (by rw [h1]; omega), h3, h1]
      have e : ((0 + j : Nat) : Int).toNat = j := by simp
      have e2 : x.kid j = y := by unfold Nd.kid; rw [h2]
      rw [e, e2]
      congr 1
      funext z
      rw [h4]
/-- The last step, by the first kid of a name. -/
def lastG (c : Option Nd) (m : ByteArray) (ks : Kds) : Except Int Kds := match c with
  | some x => if nameB m = false then .error 4 else .ok (if fk m ks = none then insk m x ks else setk m x ks)
  | none => if fk m ks = none then .error 5 else .ok (delk m ks)
theorem last_eq (c : Option Nd) (m : ByteArray) (ks : Kds) : lastF c m ks = lastG c m ks := by
  cases c with
  | some x => simp only [lastF, lastG, put_eq]
  | none =>
    simp only [lastF, lastG]
    by_cases h : fk m ks = none
    · rw [if_pos h, if_pos (kid_none.2 h)]
    · rw [if_neg h, if_neg (fun q => h (kid_none.1 q)), cut_eq h]
theorem chg_one (c : Option Nd) (m : ByteArray) (x : Nd) : chgF c [m] x = if x.kind ≠ 2 then .error 7 else (lastG c m x.kids).map x.with := by rw [chgF, last_eq]
theorem with_kids (x : Nd) (ks : Kds) : (x.with ks).kids = ks := by obtain ⟨k, m, u, g, o, at_, d, ks'⟩ := x; rfl
theorem with_kind (x : Nd) (ks : Kds) : (x.with ks).kind = x.kind := by obtain ⟨k, m, u, g, o, at_, d, ks'⟩ := x; rfl
theorem fk_set {m : ByteArray} {z : Nd} : ∀ {ks : Kds}, fk m ks ≠ none → fk m (setk m z ks) = some z
  | [], h => absurd rfl h
  | (n, x) :: l, h => by
    rw [setk]
    by_cases e : n = m
    · rw [if_pos e, fk, if_pos rfl]
    · rw [if_neg e, fk, if_neg e]; exact fk_set (by rw [fk, if_neg e] at h; exact h)
theorem fk_set_ne {m m2 : ByteArray} {z : Nd} (hne : m2 ≠ m) : ∀ ks : Kds, fk m2 (setk m z ks) = fk m2 ks
  | [] => rfl
  | (n, x) :: l => by
    rw [setk]
    by_cases e : n = m
    · rw [if_pos e, fk, fk, if_neg (fun q => hne q.symm), if_neg (fun q => hne (by rw [← q, e]))]
    · rw [if_neg e, fk, fk, fk_set_ne hne l]
theorem fk_ins {m : ByteArray} {z : Nd} : ∀ {ks : Kds}, fk m ks = none → fk m (insk m z ks) = some z
  | [], _ => by rw [insk, fk, if_pos rfl]
  | (n, x) :: l, h => by
    have hn : n ≠ m := fun e => by rw [fk, if_pos e] at h; cases h
    rw [insk]
    by_cases e : ltB m n = true
    · rw [if_pos e, fk, if_pos rfl]
    · rw [if_neg e, fk, if_neg hn]; exact fk_ins (by rw [fk, if_neg hn] at h; exact h)
theorem fk_ins_ne {m m2 : ByteArray} {z : Nd} (hne : m2 ≠ m) : ∀ ks : Kds, fk m2 (insk m z ks) = fk m2 ks
  | [] => by show (if m = m2 then some z else none) = none; rw [if_neg (fun q => hne q.symm)]
  | (n, x) :: l => by
    rw [insk]
    by_cases e : ltB m n = true
    · rw [if_pos e, fk, if_neg (fun q => hne q.symm)]
    · rw [if_neg e, fk, fk, fk_ins_ne hne l]
end Go.Proofs.YtlbabnffiibnpaaGreat
namespace Go.Proofs.YtlbabnffiibnpaaGreat
open Go.RowKit
/-- A range. -/
structure Rg where
  i : Int
  o : Int
  n : Int
/-- An int. -/
def I64 (x : Int) : Prop := -9223372036854775808 ≤ x ∧ x ≤ 9223372036854775807
/-- A range of ints. -/
def Rg.ok (r : Rg) : Prop := I64 r.i ∧ I64 r.o ∧ I64 r.n
/-- A slice of ranges: nothing is asked of an empty one's address. -/
def Rgs (w : World) (a : Option Addr) (rs : List Rg) : Prop :=
  rs = [] ∨ ∃ b off, a = some ⟨b, off, none⟩ ∧ ∀ k r, rs[k]? = some r → w.cell? ⟨b, off + k * 3, none⟩ = some (.int .i64 r.i) ∧ w.cell? ⟨b, off + k * 3 + 1, none⟩ = some (.int .i64 r.o) ∧ w.cell? ⟨b, off + k * 3 + 2, none⟩ = some (.int .i64 r.n)
theorem Rgs.below {w w' : World} {a : Option Addr} {rs : List Rg} (h : Rgs w a rs) (hb : Below w.heap.size w w') : Rgs w' a rs := by
  rcases h with h | ⟨b, off, ha, hc⟩
  · exact .inl h
  · refine .inr ⟨b, off, ha, fun k r hk => ?_⟩
    obtain ⟨h1, h2, h3⟩ := hc k r hk
    have hlt : b < w.heap.size := World.block_lt_of_cell? _ _ h1
    exact ⟨(hb.cell (p := ⟨b, off + k * 3, none⟩) hlt).trans h1, (hb.cell (p := ⟨b, off + k * 3 + 1, none⟩) hlt).trans h2, (hb.cell (p := ⟨b, off + k * 3 + 2, none⟩) hlt).trans h3⟩
/-- A range in memory: the three cells of block b, which may be written. -/
def RBox (w : World) (b : Nat) (r : Rg) : Prop :=
  w.cell? ⟨b, 0, none⟩ = some (.int .i64 r.i) ∧ w.cell? ⟨b, 1, none⟩ = some (.int .i64 r.o) ∧ w.cell? ⟨b, 2, none⟩ = some (.int .i64 r.n) ∧ ∀ o, w.frozen? ⟨b, o, none⟩ = false
theorem RBox.new (w : World) (i o n : Int) : RBox (w.alloc (.cells #[.int .i64 i, .int .i64 o, .int .i64 n] 125)) w.heap.size ⟨i, o, n⟩ :=
  ⟨World.cell?_alloc_at _ _ _ _ rfl, World.cell?_alloc_at _ _ _ _ rfl, World.cell?_alloc_at _ _ _ _ rfl, fun _ => World.frozen?_alloc_at _ _ _ _ rfl⟩
theorem RBox.lt {w : World} {b : Nat} {r : Rg} (h : RBox w b r) : b < w.heap.size := World.block_lt_of_cell? _ _ h.1
theorem RBox.below {w w' : World} {b : Nat} {r : Rg} (h : RBox w b r) (hb : Below w.heap.size w w') : RBox w' b r := by
  have hl := h.lt
  obtain ⟨h0, h1, h2, h4⟩ := h
  exact ⟨(hb.cell (p := ⟨b, 0, none⟩) hl).trans h0, (hb.cell (p := ⟨b, 1, none⟩) hl).trans h1, (hb.cell (p := ⟨b, 2, none⟩) hl).trans h2, fun o => (hb.frozen (p := ⟨b, o, none⟩) hl).trans (h4 o)⟩
theorem RBox.alloc {w : World} {b : Nat} {r : Rg} (h : RBox w b r) (o : Obj) : RBox (w.alloc o) b r := h.below ((Below.refl _ _).alloc (Nat.le_refl _) _)
def bndB (f n : Int) : Bool := decide (0 ≤ f ∧ 1 ≤ n ∧ n - 1 ≤ 65535 - f)
def meetB (a n b m : Int) : Bool := decide (a < b + m ∧ b < a + n)
def bndR (r : Rg) : Bool := bndB r.i r.n && bndB r.o r.n
def meetR (p r : Rg) : Bool := meetB p.i p.n r.i r.n || meetB p.o p.n r.o r.n
/-- A range of ids: bounds. -/
def Rg.bd (r : Rg) : Prop := 0 ≤ r.i ∧ r.i ≤ 65535 ∧ 0 ≤ r.o ∧ r.o ≤ 65535 ∧ 1 ≤ r.n ∧ r.n ≤ 65536 ∧ r.i + r.n ≤ 65536 ∧ r.o + r.n ≤ 65536
theorem bd_of {r : Rg} (h : bndR r = true) : r.bd := by
  simp [bndR, bndB] at h; unfold Rg.bd; omega
set_option maxHeartbeats 400000 in
theorem bounded_any (f n : Int) (hf : I64 f) (hn : I64 n) (w : World) : Calls Tryz.prog 88 #[.int .i64 f, .int .i64 n] w fun e w' => e = .returned (.bool (bndB f n)) ∧ w = w' := by
  obtain ⟨f1, f2⟩ := hf
  obtain ⟨n1, n2⟩ := hn
  by_cases h0 : 0 ≤ f
  · by_cases h1 : 1 ≤ n
    · have HB : Hid (bndB f n = decide (n - 1 ≤ 65535 - f)) := by show _ = _; simp [bndB, h0, h1]
      go_enter Tryz.func88, Tryz.ntmps88
      go_wp2
      go_ret
      exact ⟨ret_bool HB.out.symm, rfl⟩
    · have d1 : decide (1 ≤ n) = false := by simpa using h1
      have HB : Hid (bndB f n = false) := by show _ = _; simp [bndB]; omega
      go_enter Tryz.func88, Tryz.ntmps88
      go_wp2
      go_ret
      exact ⟨ret_bool HB.out.symm, rfl⟩
  · have d1 : decide (0 ≤ f) = false := by simpa using h0
    have HB : Hid (bndB f n = false) := by show _ = _; simp [bndB]; omega
    go_enter Tryz.func88, Tryz.ntmps88
    go_wp2
    go_ret
    exact ⟨ret_bool HB.out.symm, rfl⟩
set_option maxHeartbeats 400000 in
theorem meet_any (a n b m : Int) (h1 : 0 ≤ a) (h2 : a ≤ 65535) (h3 : 1 ≤ n) (h4 : n ≤ 65536) (h5 : 0 ≤ b) (h6 : b ≤ 65535) (h7 : 1 ≤ m) (h8 : m ≤ 65536) (w : World) :
    Calls Tryz.prog 89 #[.int .i64 a, .int .i64 n, .int .i64 b, .int .i64 m] w fun e w' => e = .returned (.bool (meetB a n b m)) ∧ w = w' := by
  by_cases g1 : a < b + m
  · have HB : Hid (meetB a n b m = decide (b < a + n)) := by show _ = _; simp [meetB, g1]
    go_enter Tryz.func89, Tryz.ntmps89
    go_wp2
    go_ret
    exact ⟨ret_bool HB.out.symm, rfl⟩
  · have d1 : decide (a < b + m) = false := by simpa using g1
    have HB : Hid (meetB a n b m = false) := by show _ = _; simp [meetB]; omega
    go_enter Tryz.func89, Tryz.ntmps89
    go_wp2
    go_ret
    exact ⟨ret_bool HB.out.symm, rfl⟩
end Go.Proofs.YtlbabnffiibnpaaGreat
namespace Go.Proofs.YtlbabnffiibnpaaGreat
open Go.RowKit
/-- Of the range at place k: 1: out of bounds; 3: it meets one ahead of it. -/
def stepM (rs : List Rg) (k : Nat) : Int := match rs[k]? with
  | none => 0
  | some r => if bndR r = false then 1 else if (rs.take k).any (fun p => meetR p r) = true then 3 else 0
/-- The first wrong range from place k on, of so many. -/
def mF (rs : List Rg) : Nat → Nat → Int
  | _, 0 => 0
  | k, n + 1 => if stepM rs k = 0 then mF rs (k + 1) n else stepM rs k
/-- What is wrong with a map (0: nothing). -/
def mapF (rs : List Rg) : Int := if 4 < rs.length then 2 else mF rs 0 rs.length
theorem mF_ok {rs : List Rg} {k n : Nat} (h : stepM rs k = 0) : mF rs k (n + 1) = mF rs (k + 1) n := by simp [mF, h]
theorem mF_bad {rs : List Rg} {k n : Nat} (h : ¬ stepM rs k = 0) : mF rs k (n + 1) = stepM rs k := by simp [mF, h]
theorem stepM_bd {rs : List Rg} {k : Nat} {r : Rg} (hr : rs[k]? = some r) (h : bndR r = false) : stepM rs k = 1 := by simp [stepM, hr, h]
theorem stepM_meet {rs : List Rg} {k : Nat} {r : Rg} (hr : rs[k]? = some r) (h : bndR r = true) (hm : (rs.take k).any (fun p => meetR p r) = true) : stepM rs k = 3 := by
  unfold stepM; rw [hr]; dsimp only; rw [if_neg (by rw [h]; decide), if_pos hm]
theorem stepM_ok {rs : List Rg} {k : Nat} {r : Rg} (hr : rs[k]? = some r) (h : bndR r = true) (hm : (rs.take k).any (fun p => meetR p r) = false) : stepM rs k = 0 := by
  unfold stepM; rw [hr]; dsimp only; rw [if_neg (by rw [h]; decide), if_neg (by rw [hm]; decide)]
theorem bnd_of_step {rs : List Rg} {k : Nat} {r : Rg} (hr : rs[k]? = some r) (h : stepM rs k = 0) : bndR r = true := by
  by_cases hb : bndR r = false
  · rw [stepM_bd hr hb] at h; omega
  · simpa using hb
theorem take_snoc_get {α : Type} {l : List α} {k : Nat} {p : α} (h : l[k]? = some p) : l.take (k + 1) = l.take k ++ [p] := by
  obtain ⟨hk, rfl⟩ := List.getElem?_eq_some_iff.1 h
  exact List.take_succ_eq_append_getElem hk
theorem any_more {rs : List Rg} {f : Rg → Bool} {j k : Nat} (hjk : j < k) (h : (rs.take (j + 1)).any f = true) : (rs.take k).any f = true := by
  rw [List.any_eq_true] at h ⊢
  obtain ⟨x, hx, hf⟩ := h
  refine ⟨x, ?_, hf⟩
  have : rs.take (j + 1) = (rs.take k).take (j + 1) := by rw [List.take_take]; congr 1; omega
  rw [this] at hx
  exact List.mem_of_mem_take hx
set_option maxRecDepth 100000 in
set_option maxHeartbeats 2000000 in
theorem checkM_any (a : Option Addr) (cap : Nat) (rs : List Rg) (w : World) (hl : rs.length ≤ 100) (hcap : rs.length ≤ cap) (hok : ∀ r ∈ rs, r.ok) (h : Rgs w a rs) :
    Calls Tryz.prog 76 #[.slice a rs.length cap] w fun e w' => e = .returned (errV (mapF rs)) ∧ Below w.heap.size w w' := by
  by_cases hn : 4 < rs.length
  · have HM : Hid (mapF rs = 2) := if_pos hn
    go_enter Tryz.func76, Tryz.ntmps76
    go_wp2
    go_ret
    exact ⟨ret_val (errV_of HM.out (by decide)).symm, Below.refl _ _⟩
  have HF : Hid (mapF rs = mF rs 0 rs.length) := if_neg hn
  have hd : decide (4 < (rs.length : Int)) = false := by simp; omega
  go_enter Tryz.func76, Tryz.ntmps76
  go_wp2
  go_loopw [13] (fun i wr => ∃ k : Nat, k ≤ rs.length ∧ i = .int .i64 k ∧ Hid (mF rs 0 rs.length = mF rs k (rs.length - k)) ∧ Hid (∀ j, j < k → stepM rs j = 0) ∧ Below w.heap.size w wr) (fun i _ => rs.length - (intOf i).toNat)
  case atStart => exact ⟨0, Nat.zero_le _, rfl, rfl, fun j hj => absurd hj (Nat.not_lt_zero _), Below.refl _ _⟩
  case round =>
    obtain ⟨k, hk, rfl, HR, HP, hB⟩ := hrel
    by_cases hlt : k < rs.length
    · rcases h with rfl | ⟨b, off, rfl, hc⟩
      · simp at hlt
      · obtain ⟨r, hr⟩ : ∃ r, rs[k]? = some r := ⟨rs[k], by simp [hlt]⟩
        obtain ⟨hc0, hc1, hc2⟩ := hc k r hr
        have hbl : b < w.heap.size := World.block_lt_of_cell? _ _ hc0
        have hblr : b < wr.heap.size := Nat.lt_of_lt_of_le hbl hB.size
        obtain ⟨⟨i1, i2⟩, ⟨o1, o2⟩, ⟨n1, n2⟩⟩ := hok r (List.mem_of_getElem? hr)
        have hki : (k : Int) < (rs.length : Int) := by omega
        have HS : Hid (mF rs k (rs.length - k) = mF rs k ((rs.length - (k + 1)) + 1)) := by show _ = _; congr 1; omega
        obtain ⟨ri, ro, rn⟩ := r
        dsimp only at *
        have q0 : wr.cell? ⟨b, off + k * 3, none⟩ = some (.int .i64 ri) := (hB.cell (p := ⟨b, off + k * 3, none⟩) hbl).trans hc0
        have q1 : wr.cell? ⟨b, off + k * 3 + 1, none⟩ = some (.int .i64 ro) := (hB.cell (p := ⟨b, off + k * 3 + 1, none⟩) hbl).trans hc1
        have q2 : wr.cell? ⟨b, off + k * 3 + 2, none⟩ = some (.int .i64 rn) := (hB.cell (p := ⟨b, off + k * 3 + 2, none⟩) hbl).trans hc2
        have HRr : Hid (rs[k]? = some ⟨ri, ro, rn⟩) := hr
        have HC := hc
        clear hc0 hc1 hc2 hr hc
        obtain ⟨bi, hbi⟩ : ∃ t, bndB ri rn = t := ⟨_, rfl⟩
        obtain ⟨bo, hbo⟩ : ∃ t, bndB ro rn = t := ⟨_, rfl⟩
        have hor : bi = false ∨ bi = true ∧ bo = false ∨ bi = true ∧ bo = true := by cases bi <;> cases bo <;> simp
        rcases hor with rfl | ⟨rfl, rfl⟩ | ⟨rfl, rfl⟩
        · have HN : Hid (mF rs k (rs.length - k) = 1) := HS.out.trans ((mF_bad (by rw [stepM_bd HRr.out (by simp [bndR, hbi])]; decide)).trans (stepM_bd HRr.out (by simp [bndR, hbi])))
          clear HC
          go_wp2_with (go_at_call 88; refine (bounded_any _ _ ⟨by omega, by omega⟩ ⟨by omega, by omega⟩ _).mono ?_; rintro e w' ⟨rfl, rfl⟩)
          go_ret
          exact ⟨ret_val (errV_of (by rw [HF.out, HR.out, HN.out]) (by decide)).symm, hB.alloc hB.size _⟩
        · have HN : Hid (mF rs k (rs.length - k) = 1) := HS.out.trans ((mF_bad (by rw [stepM_bd HRr.out (by simp [bndR, hbo])]; decide)).trans (stepM_bd HRr.out (by simp [bndR, hbo])))
          clear HC
          go_wp2_with (go_at_call 88; refine (bounded_any _ _ ⟨by omega, by omega⟩ ⟨by omega, by omega⟩ _).mono ?_; rintro e w' ⟨rfl, rfl⟩)
          go_ret
          exact ⟨ret_val (errV_of (by rw [HF.out, HR.out, HN.out]) (by decide)).symm, hB.alloc hB.size _⟩
        · have hbd : bndR ⟨ri, ro, rn⟩ = true := by simp [bndR, hbi, hbo]
          obtain ⟨v1, v2, v3, v4, v5, v6, v7, v8⟩ := bd_of hbd
          dsimp only at v1 v2 v3 v4 v5 v6 v7 v8
          have HBD : Hid (bndR ⟨ri, ro, rn⟩ = true) := hbd
          clear hbd
          have hkc : (k : Int) ≤ (cap : Int) := by omega
          go_wp2_with (go_at_call 88; refine (bounded_any _ _ ⟨by omega, by omega⟩ ⟨by omega, by omega⟩ _).mono ?_; rintro e w' ⟨rfl, rfl⟩)
          have RB := RBox.new wr ri ro rn
          have hB1 := hB.alloc hB.size (.cells #[.int .i64 ri, .int .i64 ro, .int .i64 rn] 125)
          clear q0 q1 q2 hB hblr hbi hbo
          generalize wr.alloc (.cells #[.int .i64 ri, .int .i64 ro, .int .i64 rn] 125) = w1 at RB hB1 ⊢
          generalize wr.heap.size = rb at RB ⊢
          go_loopw [37] (fun i wq => ∃ j : Nat, j ≤ k ∧ i = .int .i64 j ∧ Hid ((rs.take j).any (fun p => meetR p ⟨ri, ro, rn⟩) = false) ∧ Below w.heap.size w wq ∧ RBox wq rb ⟨ri, ro, rn⟩) (fun i _ => k - (intOf i).toNat)
          case atStart => exact ⟨0, Nat.zero_le _, rfl, rfl, hB1, RB⟩
          case round =>
            obtain ⟨j, hj, rfl, HJ, hB2, RB2⟩ := hrel
            clear hB1 RB
            obtain ⟨x0, x1, x2, x3⟩ := id RB2
            dsimp only at x0 x1 x2
            have lb := RB2.lt
            by_cases hjk : j < k
            · have hjl : j < rs.length := by omega
              obtain ⟨p, hp⟩ : ∃ p, rs[j]? = some p := ⟨rs[j], by simp [hjl]⟩
              obtain ⟨y0, y1, y2⟩ := HC j p hp
              obtain ⟨t1, t2, t3, t4, t5, t6, t7, t8⟩ := bd_of (bnd_of_step hp (HP.out j hjk))
              have HJ2 : Hid ((rs.take (j + 1)).any (fun p => meetR p ⟨ri, ro, rn⟩) = meetR p ⟨ri, ro, rn⟩) := by
                show _ = _
                rw [take_snoc_get hp, List.any_append, HJ.out]; simp
              obtain ⟨pi, po, pn⟩ := p
              dsimp only at y0 y1 y2 t1 t2 t3 t4 t5 t6 t7 t8
              have z0 : wr.cell? ⟨b, off + j * 3, none⟩ = some (.int .i64 pi) := (hB2.cell (p := ⟨b, off + j * 3, none⟩) hbl).trans y0
              have z1 : wr.cell? ⟨b, off + j * 3 + 1, none⟩ = some (.int .i64 po) := (hB2.cell (p := ⟨b, off + j * 3 + 1, none⟩) hbl).trans y1
              have z2 : wr.cell? ⟨b, off + j * 3 + 2, none⟩ = some (.int .i64 pn) := (hB2.cell (p := ⟨b, off + j * 3 + 2, none⟩) hbl).trans y2
              have hblr : b < wr.heap.size := Nat.lt_of_lt_of_le hbl hB2.size
              have hji : (j : Int) < (k : Int) := by omega
              clear y0 y1 y2 hp
              obtain ⟨mi, hmi⟩ : ∃ t, meetB pi pn ri rn = t := ⟨_, rfl⟩
              obtain ⟨mo, hmo⟩ : ∃ t, meetB po pn ro rn = t := ⟨_, rfl⟩
              have HME : Hid (meetR ⟨pi, po, pn⟩ ⟨ri, ro, rn⟩ = (mi || mo)) := by show _ = _; simp [meetR, hmi, hmo]
              have hor : mi = true ∨ mi = false ∧ mo = true ∨ mi = false ∧ mo = false := by cases mi <;> cases mo <;> simp
              rcases hor with rfl | ⟨rfl, rfl⟩ | ⟨rfl, rfl⟩
              · have HN : Hid (mF rs k (rs.length - k) = 3) := HS.out.trans ((mF_bad (by rw [stepM_meet HRr.out HBD.out (any_more hjk (by rw [HJ2.out, HME.out]; rfl))]; decide)).trans (stepM_meet HRr.out HBD.out (any_more hjk (by rw [HJ2.out, HME.out]; rfl))))
                clear HC HJ2 HME
                go_wp2_with (go_at_call 89; refine (meet_any _ _ _ _ (by omega) (by omega) (by omega) (by omega) (by omega) (by omega) (by omega) (by omega) _).mono ?_; rintro e w' ⟨rfl, rfl⟩)
                go_ret
                exact ⟨ret_val (errV_of (by rw [HF.out, HR.out, HN.out]) (by decide)).symm, hB2.alloc hB2.size _⟩
              · have HN : Hid (mF rs k (rs.length - k) = 3) := HS.out.trans ((mF_bad (by rw [stepM_meet HRr.out HBD.out (any_more hjk (by rw [HJ2.out, HME.out]; rfl))]; decide)).trans (stepM_meet HRr.out HBD.out (any_more hjk (by rw [HJ2.out, HME.out]; rfl))))
                clear HC HJ2 HME
                go_wp2_with (go_at_call 89; refine (meet_any _ _ _ _ (by omega) (by omega) (by omega) (by omega) (by omega) (by omega) (by omega) (by omega) _).mono ?_; rintro e w' ⟨rfl, rfl⟩)
                go_ret
                exact ⟨ret_val (errV_of (by rw [HF.out, HR.out, HN.out]) (by decide)).symm, hB2.alloc hB2.size _⟩
              · have HN : Hid ((rs.take (j + 1)).any (fun p => meetR p ⟨ri, ro, rn⟩) = false) := by show _ = _; rw [HJ2.out, HME.out]; rfl
                clear HC HJ2 HME
                go_wp2_with (go_at_call 89; refine (meet_any _ _ _ _ (by omega) (by omega) (by omega) (by omega) (by omega) (by omega) (by omega) (by omega) _).mono ?_; rintro e w' ⟨rfl, rfl⟩)
                go_roundw
                case rel => exact ⟨j + 1, by omega, by go_num, HN.out, hB2.alloc hB2.size _, RB2.alloc _⟩
                case measure => simp [intOf]; omega
            · have hjk2 : j = k := by omega
              subst hjk2
              have HN : Hid (mF rs j (rs.length - j) = mF rs (j + 1) (rs.length - (j + 1))) := HS.out.trans (mF_ok (stepM_ok HRr.out HBD.out HJ.out))
              have HP2 : Hid (∀ i, i < j + 1 → stepM rs i = 0) := by
                intro i hi
                by_cases e : i = j
                · subst e; exact stepM_ok HRr.out HBD.out HJ.out
                · exact HP.out i (by omega)
              clear HC
              go_wp2
              go_roundw
              case rel => exact ⟨j + 1, by omega, by go_num, HR.out.trans HN.out, HP2.out, hB2⟩
              case measure => simp [intOf]; omega
    · have e0 : rs.length - k = 0 := by omega
      go_wp2
      go_ret
      exact ⟨ret_val (errV_nil (by rw [HF.out, HR.out, e0]; rfl)).symm, hB⟩
end Go.Proofs.YtlbabnffiibnpaaGreat
namespace Go.Proofs.YtlbabnffiibnpaaGreat
open Go.RowKit
set_option maxHeartbeats 400000 in
theorem sidesTo (r : Rg) (w : World) : Calls Tryz.prog 70 #[.agg #[.int .i64 r.i, .int .i64 r.o, .int .i64 r.n]] w fun e w' => e = .returned (.tuple #[.int .i64 r.i, .int .i64 r.o]) ∧ Below w.heap.size w w' := by
  go_enter Tryz.func70, Tryz.ntmps70
  go_wp2
  go_quiet (fail)
  go_wp2
  go_ret2
  exact ⟨rfl, below_drewN ((Below.refl _ _).alloc (Nat.le_refl _) _) _⟩
set_option maxHeartbeats 400000 in
theorem sidesFrom (r : Rg) (w : World) : Calls Tryz.prog 65 #[.agg #[.int .i64 r.i, .int .i64 r.o, .int .i64 r.n]] w fun e w' => e = .returned (.tuple #[.int .i64 r.o, .int .i64 r.i]) ∧ Below w.heap.size w w' := by
  go_enter Tryz.func65, Tryz.ntmps65
  go_wp2
  go_quiet (fail)
  go_wp2
  go_ret2
  exact ⟨rfl, below_drewN ((Below.refl _ _).alloc (Nat.le_refl _) _) _⟩
/-- Where an id leads, by ranges. -/
def walkM (fr tg : Rg → Int) : List Rg → Int → Option Int
  | [], _ => none
  | r :: l, x => if fr r ≤ x ∧ x - fr r < r.n then some (tg r + x - fr r) else walkM fr tg l x
theorem walkM_hit {fr tg : Rg → Int} {r : Rg} {l : List Rg} {x : Int} (h1 : fr r ≤ x) (h2 : x - fr r < r.n) : walkM fr tg (r :: l) x = some (tg r + x - fr r) := by
  unfold walkM; rw [if_pos ⟨h1, h2⟩]
theorem walkM_miss {fr tg : Rg → Int} {r : Rg} {l : List Rg} {x : Int} (h : ¬ (fr r ≤ x ∧ x - fr r < r.n)) : walkM fr tg (r :: l) x = walkM fr tg l x := by
  rw [walkM, if_neg h]
/-- What an id is outside; within. -/
def toM (rs : List Rg) (x : Int) : Option Int := if mapF rs = 0 then walkM (·.i) (·.o) rs x else none
def fromM (rs : List Rg) (x : Int) : Option Int := if mapF rs = 0 then walkM (·.o) (·.i) rs x else none
def optV (o : Option Int) : Value := .tuple #[.int .i64 (o.getD 0), .bool o.isSome]
theorem ret_some {o : Option Int} {v : Int} (h : o = some v) : Ending.returned (.tuple #[.int .i64 v, .bool true]) = .returned (optV o) := by subst h; rfl
theorem ret_none {o : Option Int} (h : o = none) : Ending.returned (.tuple #[.int .i64 0, .bool false]) = .returned (optV o) := by subst h; rfl
theorem ret_opt {o o' : Option Int} (h : o = o') : Ending.returned (.tuple #[.int .i64 (o.getD 0), .bool o.isSome]) = .returned (optV o') := by subst h; rfl
theorem mF_all {rs : List Rg} : ∀ n k, mF rs k n = 0 → ∀ j, k ≤ j → j < k + n → stepM rs j = 0
  | 0, k, _, j, h1, h2 => by omega
  | n + 1, k, h, j, h1, h2 => by
    by_cases e : stepM rs k = 0
    · rw [mF_ok e] at h
      by_cases ej : j = k
      · subst ej; exact e
      · exact mF_all n (k + 1) h j (by omega) (by omega)
    · rw [mF_bad e] at h; exact absurd h e
theorem mapF_zero {rs : List Rg} (h : mapF rs = 0) : rs.length ≤ 4 ∧ ∀ j, j < rs.length → stepM rs j = 0 := by
  unfold mapF at h
  by_cases hl : 4 < rs.length
  · rw [if_pos hl] at h; omega
  · rw [if_neg hl] at h
    exact ⟨by omega, fun j hj => mF_all _ _ h j (Nat.zero_le _) (by omega)⟩
theorem mapF_bd {rs : List Rg} (h : mapF rs = 0) : ∀ r ∈ rs, r.bd := by
  intro r hr
  obtain ⟨k, hk⟩ := List.getElem?_of_mem hr
  have hl := (List.getElem?_eq_some_iff.1 hk).1
  exact bd_of (bnd_of_step hk ((mapF_zero h).2 k hl))
set_option maxRecDepth 100000 in
set_option maxHeartbeats 1000000 in
theorem acrossTo (a : Option Addr) (cap : Nat) (rs : List Rg) (x : Int) (w : World) (hl : rs.length ≤ 100) (hcap : rs.length ≤ cap) (hok : ∀ r ∈ rs, r.ok) (hx : I64 x) (h : Rgs w a rs) (o : Option Int) (HO : Hid ((if mapF rs = 0 then walkM (·.i) (·.o) rs x else none) = o)) :
    Calls Tryz.prog 64 #[.slice a rs.length cap, .int .i64 x, .func (.func 70) #[] #[]] w fun e w' => e = .returned (optV o) ∧ Below w.heap.size w w' := by
  obtain ⟨xa, xb⟩ := hx
  by_cases hf : mapF rs = 0
  · have HV : Hid (o = walkM (·.i) (·.o) rs x) := HO.out.symm.trans (if_pos hf)
    have HF : Hid (mapF rs = 0) := hf
    clear hf HO
    go_enter Tryz.func64, Tryz.ntmps64
    go_wp2_with fail
    refine (checkM_any a cap rs _ hl hcap hok h).mono ?_
    rintro e w1 ⟨rfl, hB1⟩
    rw [errV_nil HF.out]
    go_wp2_with fail
    go_loopw [17] (fun i wr => ∃ k : Nat, k ≤ rs.length ∧ i = .int .i64 k ∧ Hid (walkM (·.i) (·.o) rs x = walkM (·.i) (·.o) (rs.drop k) x) ∧ Below w.heap.size w wr) (fun i _ => rs.length - (intOf i).toNat)
    case atStart => exact ⟨0, Nat.zero_le _, rfl, rfl, hB1⟩
    case round =>
      obtain ⟨k, hk, rfl, HR, hB⟩ := hrel
      clear hB1
      by_cases hlt : k < rs.length
      · rcases h with rfl | ⟨b, off, rfl, hc⟩
        · simp at hlt
        · obtain ⟨r, hr⟩ : ∃ r, rs[k]? = some r := ⟨rs[k], by simp [hlt]⟩
          obtain ⟨hc0, hc1, hc2⟩ := hc k r hr
          have hbl : b < w.heap.size := World.block_lt_of_cell? _ _ hc0
          have hblr : b < wr.heap.size := Nat.lt_of_lt_of_le hbl hB.size
          obtain ⟨t1, t2, t3, t4, t5, t6, t7, t8⟩ := mapF_bd HF.out r (List.mem_of_getElem? hr)
          have HD : Hid (rs.drop k = r :: rs.drop (k + 1)) := by
            obtain ⟨hk', rfl⟩ := List.getElem?_eq_some_iff.1 hr
            exact List.drop_eq_getElem_cons hk'
          have hki : (k : Int) < (rs.length : Int) := by omega
          obtain ⟨ri, ro, rn⟩ := r
          dsimp only at *
          have q0 : wr.cell? ⟨b, off + k * 3, none⟩ = some (.int .i64 ri) := (hB.cell (p := ⟨b, off + k * 3, none⟩) hbl).trans hc0
          have q1 : wr.cell? ⟨b, off + k * 3 + 1, none⟩ = some (.int .i64 ro) := (hB.cell (p := ⟨b, off + k * 3 + 1, none⟩) hbl).trans hc1
          have q2 : wr.cell? ⟨b, off + k * 3 + 2, none⟩ = some (.int .i64 rn) := (hB.cell (p := ⟨b, off + k * 3 + 2, none⟩) hbl).trans hc2
          clear hc0 hc1 hc2 hr hc
          go_wp2_with fail
          refine (sidesTo ⟨ri, ro, rn⟩ _).mono ?_
          rintro e w2 ⟨rfl, hB2⟩
          have RB := (RBox.new wr ri ro rn).below hB2
          have hB3 := (hB.alloc hB.size (.cells #[.int .i64 ri, .int .i64 ro, .int .i64 rn] 125)).trans (hB2.mono (by have := hB.size; simp; omega))
          clear q0 q1 q2 hB2
          obtain ⟨y0, y1, y2, y3⟩ := id RB
          dsimp only at y0 y1 y2
          by_cases g1 : ri ≤ x
          · by_cases g2 : x - ri < rn
            · have HN : Hid (walkM (·.i) (·.o) rs x = some (ro + x - ri)) := HR.out.trans (by rw [HD.out]; exact walkM_hit g1 g2)
              go_wp2
              go_ret2
              exact ⟨ret_some (HV.out.trans HN.out), hB3⟩
            · have HN : Hid (walkM (·.i) (·.o) rs x = walkM (·.i) (·.o) (rs.drop (k + 1)) x) := HR.out.trans (by rw [HD.out]; exact walkM_miss (fun e => g2 e.2))
              have d2 : decide (x - ri < rn) = false := by simpa using g2
              go_wp2
              go_roundw
              case rel => exact ⟨k + 1, by omega, by go_num, HN.out, hB3⟩
              case measure => simp [intOf]; omega
          · have HN : Hid (walkM (·.i) (·.o) rs x = walkM (·.i) (·.o) (rs.drop (k + 1)) x) := HR.out.trans (by rw [HD.out]; exact walkM_miss (fun e => g1 e.1))
            have d1 : decide (ri ≤ x) = false := by simpa using g1
            go_wp2
            go_roundw
            case rel => exact ⟨k + 1, by omega, by go_num, HN.out, hB3⟩
            case measure => simp [intOf]; omega
      · have HN : Hid (walkM (·.i) (·.o) rs x = none) := HR.out.trans (by rw [List.drop_of_length_le (by omega)]; rfl)
        go_wp2
        go_ret2
        exact ⟨ret_none (HV.out.trans HN.out), hB⟩
  · have HV : Hid (o = none) := HO.out.symm.trans (if_neg hf)
    obtain ⟨n, hn⟩ : ∃ n, mapF rs = n := ⟨_, rfl⟩
    have HN : Hid (mapF rs = n) := hn
    have hn0 : n ≠ 0 := hn ▸ hf
    clear hn hf HO
    go_enter Tryz.func64, Tryz.ntmps64
    go_wp2_with fail
    refine (checkM_any a cap rs _ hl hcap hok h).mono ?_
    rintro e w1 ⟨rfl, hB1⟩
    rw [errV_of HN.out hn0]
    go_wp2
    go_ret2
    exact ⟨ret_none HV.out, hB1⟩
set_option maxHeartbeats 400000 in
theorem toHost_any (a : Option Addr) (cap : Nat) (rs : List Rg) (x : Int) (w : World) (hl : rs.length ≤ 100) (hcap : rs.length ≤ cap) (hok : ∀ r ∈ rs, r.ok) (hx : I64 x) (h : Rgs w a rs) :
    Calls Tryz.prog 50 #[.slice a rs.length cap, .int .i64 x] w fun e w' => e = .returned (optV (toM rs x)) ∧ Below w.heap.size w w' := by
  obtain ⟨o, HO⟩ : ∃ o, Hid (toM rs x = o) := ⟨_, rfl⟩
  go_enter Tryz.func50, Tryz.ntmps50
  go_wp2_with fail
  refine (acrossTo a cap rs x _ hl hcap hok hx h o HO).mono ?_
  rintro e w1 ⟨rfl, hB1⟩
  unfold optV
  go_wp2
  go_ret2
  exact ⟨ret_opt HO.out.symm, hB1⟩
set_option maxRecDepth 100000 in
set_option maxHeartbeats 1000000 in
theorem acrossFrom (a : Option Addr) (cap : Nat) (rs : List Rg) (x : Int) (w : World) (hl : rs.length ≤ 100) (hcap : rs.length ≤ cap) (hok : ∀ r ∈ rs, r.ok) (hx : I64 x) (h : Rgs w a rs) (o : Option Int) (HO : Hid ((if mapF rs = 0 then walkM (·.o) (·.i) rs x else none) = o)) :
    Calls Tryz.prog 64 #[.slice a rs.length cap, .int .i64 x, .func (.func 65) #[] #[]] w fun e w' => e = .returned (optV o) ∧ Below w.heap.size w w' := by
  obtain ⟨xa, xb⟩ := hx
  by_cases hf : mapF rs = 0
  · have HV : Hid (o = walkM (·.o) (·.i) rs x) := HO.out.symm.trans (if_pos hf)
    have HF : Hid (mapF rs = 0) := hf
    clear hf HO
    go_enter Tryz.func64, Tryz.ntmps64
    go_wp2_with fail
    refine (checkM_any a cap rs _ hl hcap hok h).mono ?_
    rintro e w1 ⟨rfl, hB1⟩
    rw [errV_nil HF.out]
    go_wp2_with fail
    go_loopw [17] (fun i wr => ∃ k : Nat, k ≤ rs.length ∧ i = .int .i64 k ∧ Hid (walkM (·.o) (·.i) rs x = walkM (·.o) (·.i) (rs.drop k) x) ∧ Below w.heap.size w wr) (fun i _ => rs.length - (intOf i).toNat)
    case atStart => exact ⟨0, Nat.zero_le _, rfl, rfl, hB1⟩
    case round =>
      obtain ⟨k, hk, rfl, HR, hB⟩ := hrel
      clear hB1
      by_cases hlt : k < rs.length
      · rcases h with rfl | ⟨b, off, rfl, hc⟩
        · simp at hlt
        · obtain ⟨r, hr⟩ : ∃ r, rs[k]? = some r := ⟨rs[k], by simp [hlt]⟩
          obtain ⟨hc0, hc1, hc2⟩ := hc k r hr
          have hbl : b < w.heap.size := World.block_lt_of_cell? _ _ hc0
          have hblr : b < wr.heap.size := Nat.lt_of_lt_of_le hbl hB.size
          obtain ⟨t1, t2, t3, t4, t5, t6, t7, t8⟩ := mapF_bd HF.out r (List.mem_of_getElem? hr)
          have HD : Hid (rs.drop k = r :: rs.drop (k + 1)) := by
            obtain ⟨hk', rfl⟩ := List.getElem?_eq_some_iff.1 hr
            exact List.drop_eq_getElem_cons hk'
          have hki : (k : Int) < (rs.length : Int) := by omega
          obtain ⟨ri, ro, rn⟩ := r
          dsimp only at *
          have q0 : wr.cell? ⟨b, off + k * 3, none⟩ = some (.int .i64 ri) := (hB.cell (p := ⟨b, off + k * 3, none⟩) hbl).trans hc0
          have q1 : wr.cell? ⟨b, off + k * 3 + 1, none⟩ = some (.int .i64 ro) := (hB.cell (p := ⟨b, off + k * 3 + 1, none⟩) hbl).trans hc1
          have q2 : wr.cell? ⟨b, off + k * 3 + 2, none⟩ = some (.int .i64 rn) := (hB.cell (p := ⟨b, off + k * 3 + 2, none⟩) hbl).trans hc2
          clear hc0 hc1 hc2 hr hc
          go_wp2_with fail
          refine (sidesFrom ⟨ri, ro, rn⟩ _).mono ?_
          rintro e w2 ⟨rfl, hB2⟩
          have RB := (RBox.new wr ri ro rn).below hB2
          have hB3 := (hB.alloc hB.size (.cells #[.int .i64 ri, .int .i64 ro, .int .i64 rn] 125)).trans (hB2.mono (by have := hB.size; simp; omega))
          clear q0 q1 q2 hB2
          obtain ⟨y0, y1, y2, y3⟩ := id RB
          dsimp only at y0 y1 y2
          by_cases g1 : ro ≤ x
          · by_cases g2 : x - ro < rn
            · have HN : Hid (walkM (·.o) (·.i) rs x = some (ri + x - ro)) := HR.out.trans (by rw [HD.out]; exact walkM_hit g1 g2)
              go_wp2
              go_ret2
              exact ⟨ret_some (HV.out.trans HN.out), hB3⟩
            · have HN : Hid (walkM (·.o) (·.i) rs x = walkM (·.o) (·.i) (rs.drop (k + 1)) x) := HR.out.trans (by rw [HD.out]; exact walkM_miss (fun e => g2 e.2))
              have d2 : decide (x - ro < rn) = false := by simpa using g2
              go_wp2
              go_roundw
              case rel => exact ⟨k + 1, by omega, by go_num, HN.out, hB3⟩
              case measure => simp [intOf]; omega
          · have HN : Hid (walkM (·.o) (·.i) rs x = walkM (·.o) (·.i) (rs.drop (k + 1)) x) := HR.out.trans (by rw [HD.out]; exact walkM_miss (fun e => g1 e.1))
            have d1 : decide (ro ≤ x) = false := by simpa using g1
            go_wp2
            go_roundw
            case rel => exact ⟨k + 1, by omega, by go_num, HN.out, hB3⟩
            case measure => simp [intOf]; omega
      · have HN : Hid (walkM (·.o) (·.i) rs x = none) := HR.out.trans (by rw [List.drop_of_length_le (by omega)]; rfl)
        go_wp2
        go_ret2
        exact ⟨ret_none (HV.out.trans HN.out), hB⟩
  · have HV : Hid (o = none) := HO.out.symm.trans (if_neg hf)
    obtain ⟨n, hn⟩ : ∃ n, mapF rs = n := ⟨_, rfl⟩
    have HN : Hid (mapF rs = n) := hn
    have hn0 : n ≠ 0 := hn ▸ hf
    clear hn hf HO
    go_enter Tryz.func64, Tryz.ntmps64
    go_wp2_with fail
    refine (checkM_any a cap rs _ hl hcap hok h).mono ?_
    rintro e w1 ⟨rfl, hB1⟩
    rw [errV_of HN.out hn0]
    go_wp2
    go_ret2
    exact ⟨ret_none HV.out, hB1⟩
set_option maxHeartbeats 400000 in
theorem fromHost_any (a : Option Addr) (cap : Nat) (rs : List Rg) (x : Int) (w : World) (hl : rs.length ≤ 100) (hcap : rs.length ≤ cap) (hok : ∀ r ∈ rs, r.ok) (hx : I64 x) (h : Rgs w a rs) :
    Calls Tryz.prog 40 #[.slice a rs.length cap, .int .i64 x] w fun e w' => e = .returned (optV (fromM rs x)) ∧ Below w.heap.size w w' := by
  obtain ⟨o, HO⟩ : ∃ o, Hid (fromM rs x = o) := ⟨_, rfl⟩
  go_enter Tryz.func40, Tryz.ntmps40
  go_wp2_with fail
  refine (acrossFrom a cap rs x _ hl hcap hok hx h o HO).mono ?_
  rintro e w1 ⟨rfl, hB1⟩
  unfold optV
  go_wp2
  go_ret2
  exact ⟨ret_opt HO.out.symm, hB1⟩
end Go.Proofs.YtlbabnffiibnpaaGreat
namespace Go.Proofs.YtlbabnffiibnpaaGreat
open Go.RowKit
theorem setk_setk (m : ByteArray) (x y : Nd) : ∀ ks : Kds, setk m y (setk m x ks) = setk m y ks
  | [] => rfl
  | (n, z) :: l => by
    by_cases h : n = m
    · simp [setk, h]
    · simp [setk, h, setk_setk m x y l]
theorem setk_insk {m : ByteArray} {x y : Nd} : ∀ {ks : Kds}, fk m ks = none → setk m y (insk m x ks) = insk m y ks
  | [], _ => by simp [insk, setk]
  | (n, z) :: l, h => by
    rw [fk] at h
    split at h
    · cases h
    · rename_i hn
      by_cases hl : ltB m n = true
      · simp [insk, hl, setk]
      · simp [insk, hl, setk, hn, setk_insk h]
theorem with_with (x : Nd) (a b : Kds) : (x.with a).with b = x.with b := by obtain ⟨k, m, u, g, o, at_, d, ks⟩ := x; rfl
theorem chg_cons (c : Option Nd) (m : ByteArray) {l : List ByteArray} (hl : l ≠ []) (x : Nd) : chgF c (m :: l) x = if x.kind ≠ 2 then .error 7 else match fk m x.kids with
  | none => .error 5
  | some y => (chgF c l y).map fun z => x.with (setk m z x.kids) := by
  cases l with
  | nil => exact absurd rfl hl
  | cons m' l => exact chg_fk c m m' l x
theorem put_below {x : Nd} {c : Option Nd} {l' : List ByteArray} (hl' : l' ≠ []) : ∀ {l : List ByteArray} {n r : Nd}, chgF (some x) l n = .ok r → chgF c (l ++ l') r = (match chgF c l' x with | .error f => .error f | .ok y => chgF (some y) l n)
  | [], n, r, h => by rw [chgF] at h; cases h
  | [m], n, r, h => by
    rw [chg_one] at h
    by_cases hk : n.kind ≠ 2
    · rw [if_pos hk] at h; cases h
    rw [if_neg hk] at h
    simp only [lastG] at h
    by_cases hnm : nameB m = false
    · rw [if_pos hnm] at h; cases h
    rw [if_neg hnm] at h
    have e : r = n.with (if fk m n.kids = none then insk m x n.kids else setk m x n.kids) := by cases h; rfl
    have e2 : fk m (if fk m n.kids = none then insk m x n.kids else setk m x n.kids) = some x := by
      split
      · exact fk_ins ‹_›
      · exact fk_set ‹_›
    rw [List.singleton_append, chg_cons c m hl', e, with_kind, if_neg hk, with_kids, e2]
    dsimp only
    cases chgF c l' x with
    | error f => rfl
    | ok y =>
      dsimp only
      rw [chg_one, if_neg hk]
      simp only [lastG]
      rw [if_neg hnm]
      show Except.ok _ = Except.ok _
      dsimp only
      rw [with_with]
      congr 2
      split
      · exact setk_insk ‹_›
      · exact setk_setk _ _ _ _
  | m :: m2 :: l, n, r, h => by
    rw [chg_fk] at h
    by_cases hk : n.kind ≠ 2
    · rw [if_pos hk] at h; cases h
    rw [if_neg hk] at h
    cases hf : fk m n.kids with
    | none => rw [hf] at h; cases h
    | some y =>
      rw [hf] at h
      dsimp only at h
      cases hc : chgF (some x) (m2 :: l) y with
      | error f => rw [hc] at h; cases h
      | ok z =>
        rw [hc] at h
        have e : r = n.with (setk m z n.kids) := by cases h; rfl
        have ih := put_below (c := c) hl' hc
        show chgF c (m :: ((m2 :: l) ++ l')) r = _
        rw [chg_cons c m (by simp), e, with_kind, if_neg hk, with_kids, fk_set (by rw [hf]; simp)]
        dsimp only
        rw [ih]
        cases chgF c l' x with
        | error f => rfl
        | ok v =>
          dsimp only
          rw [chg_fk, if_neg hk, hf]
          dsimp only
          cases chgF (some v) (m2 :: l) y with
          | error f => rfl
          | ok v => show Except.ok _ = Except.ok _; dsimp only; rw [with_with, setk_setk]
theorem find_snoc (m : ByteArray) : ∀ (l : List ByteArray) (x : Nd), findF (l ++ [m]) x = (findF l x).bind fun y => if y.kind ≠ 2 then none else fk m y.kids
  | [], x => by
    rw [List.nil_append, find_fk, findF]
    simp only [Option.bind_some]
    split
    · rfl
    · cases fk m x.kids <;> simp [findF]
  | n :: l, x => by
    rw [List.cons_append, find_fk, find_fk]
    split
    · rfl
    · cases fk n x.kids with
      | none => rfl
      | some y => exact find_snoc m l y
theorem chg_name {x : Nd} {m : ByteArray} : ∀ {l : List ByteArray} {n d : Nd}, findF l n = some d → d.kind = 2 → (nameB m = false → chgF (some x) (l ++ [m]) n = .error 4) ∧ (¬ nameB m = false → ∃ r, chgF (some x) (l ++ [m]) n = .ok r)
  | [], n, d, h, hd => by
    rw [findF] at h
    cases h
    rw [List.nil_append, chg_one, if_neg (by simp [hd])]
    simp only [lastG]
    exact ⟨fun e => by rw [if_pos e]; rfl, fun e => by rw [if_neg e]; exact ⟨_, rfl⟩⟩
  | a :: l, n, d, h, hd => by
    rw [find_fk] at h
    by_cases hk : n.kind ≠ 2
    · rw [if_pos hk] at h; cases h
    rw [if_neg hk] at h
    cases hf : fk a n.kids with
    | none => rw [hf] at h; cases h
    | some y =>
      rw [hf] at h
      obtain ⟨h1, h2⟩ := chg_name (x := x) (m := m) (l := l) h hd
      rw [List.cons_append, chg_cons _ a (by simp), if_neg hk, hf]
      dsimp only
      refine ⟨fun e => by rw [h1 e]; rfl, fun e => ?_⟩
      obtain ⟨r, hr⟩ := h2 e
      rw [hr]
      exact ⟨_, rfl⟩
/-- Nodes, each of its name in the one ahead of it. -/
def chainF : List (Nd × ByteArray) → Nd
  | [] => zN
  | [p] => p.1
  | p :: q :: r => p.1.with [(q.2, chainF (q :: r))]
theorem chain_put {z : Nd} {m : ByteArray} : ∀ {L : List (Nd × ByteArray)}, L ≠ [] → (∀ p ∈ L, p.1.kind = 2 ∧ p.1.kids = []) → chgF (some z) (L.tail.map Prod.snd ++ [m]) (chainF L) = if nameB m = false then .error 4 else .ok (chainF (L ++ [(z, m)]))
  | [], h, _ => absurd rfl h
  | [p], _, h => by
    obtain ⟨h1, h2⟩ := h p (List.mem_cons_self ..)
    rw [List.tail_cons, List.map_nil, List.nil_append, chainF, chg_one, if_neg (by simp [h1]), h2]
    simp only [lastG]
    split
    · rfl
    · simp [fk, insk, chainF]; rfl
  | p :: q :: r, _, h => by
    obtain ⟨h1, h2⟩ := h p (List.mem_cons_self ..)
    have ih := chain_put (z := z) (m := m) (L := q :: r) (by simp) (fun p hp => h p (List.mem_cons_of_mem _ hp))
    rw [List.tail_cons] at ih
    show chgF (some z) (q.2 :: (r.map Prod.snd ++ [m])) (p.1.with [(q.2, chainF (q :: r))]) = _
    rw [chg_cons _ _ (by simp), with_kind, if_neg (by simp [h1]), with_kids]
    simp only [fk, if_true, ih]
    split
    · rfl
    · show Except.ok _ = Except.ok _
      simp only [setk, if_true, with_with]
      rfl
/-- A node with its ids on the other side. -/
def mvF (out : Bool) (us gs : List Rg) : Nd → Option Nd
  | .mk k m u g o at_ d ks => match (if out = true then toM us u else fromM us u), (if out = true then toM gs g else fromM gs g) with
    | some u', some g' => some (.mk k m u' g' o at_ d ks)
    | _, _ => none
def bareN : Nd → Nd
  | .mk k m u g _ at_ d _ => .mk k m u g false at_ d []
theorem mv_keep {out : Bool} {us gs : List Rg} {x y : Nd} (h : mvF out us gs x = some y) : y.kind = x.kind ∧ y.kids = x.kids := by
  obtain ⟨k, m, u, g, o, at_, d, ks⟩ := x
  rw [mvF] at h
  split at h
  · cases h; exact ⟨rfl, rfl⟩
  · cases h
theorem bare_kind (x : Nd) : (bareN x).kind = x.kind := by obtain ⟨k, m, u, g, o, at_, d, ks⟩ := x; rfl
theorem bare_kids (x : Nd) : (bareN x).kids = [] := by obtain ⟨k, m, u, g, o, at_, d, ks⟩ := x; rfl
/-- What comes up, with its ids as outside; the first that is wrong. -/
def brF (us gs : List Rg) : List (Nd × ByteArray) → Except Int (List (Nd × ByteArray))
  | [] => .ok []
  | (x, m) :: r => match mvF true us gs x with
    | none => .error 11
    | some y => if nameB m = false then .error 4 else match brF us gs r with
      | .error f => .error f
      | .ok L => .ok ((y, m) :: L)
theorem brF_snoc {us gs : List Rg} {x : Nd} {m : ByteArray} : ∀ A : List (Nd × ByteArray), brF us gs (A ++ [(x, m)]) = (match brF us gs A with | .error f => .error f | .ok L => (match mvF true us gs x with | none => .error 11 | some y => if nameB m = false then .error 4 else .ok (L ++ [(y, m)])))
  | [] => by simp [brF]
  | (a, n) :: r => by
    rw [List.cons_append, brF, brF, brF_snoc r]
    cases mvF true us gs a with
    | none => rfl
    | some y =>
      dsimp only
      split
      · rfl
      · cases brF us gs r with
        | error f => rfl
        | ok L =>
          dsimp only
          cases mvF true us gs x with
          | none => rfl
          | some z =>
            dsimp only
            by_cases h2 : nameB m = false
            · rw [if_pos h2, if_pos h2]
            · rw [if_neg h2, if_neg h2]; rfl
theorem brF_ok {us gs : List Rg} : ∀ {A L : List (Nd × ByteArray)}, brF us gs A = .ok L → L.map Prod.snd = A.map Prod.snd ∧ (∀ p ∈ A, nameB p.2 = true) ∧ ((∀ p ∈ A, p.1.kind = 2 ∧ p.1.kids = []) → ∀ p ∈ L, p.1.kind = 2 ∧ p.1.kids = [])
  | [], L, h => by cases h; exact ⟨rfl, fun p hp => (by cases hp), fun _ p hp => by cases hp⟩
  | (x, m) :: r, L, h => by
    rw [brF] at h
    cases hm : mvF true us gs x with
    | none => rw [hm] at h; cases h
    | some y =>
      rw [hm] at h
      dsimp only at h
      by_cases hn : nameB m = false
      · rw [if_pos hn] at h; cases h
      rw [if_neg hn] at h
      cases hb : brF us gs r with
      | error f => rw [hb] at h; cases h
      | ok K =>
        rw [hb] at h
        cases h
        obtain ⟨h1, h2, h3⟩ := brF_ok hb
        refine ⟨by simp [h1], fun p hp => ?_, fun H p hp => ?_⟩
        · rcases List.mem_cons.1 hp with rfl | hp
          · simpa using hn
          · exact h2 p hp
        · rcases List.mem_cons.1 hp with rfl | hp
          · have e := mv_keep hm
            have e2 := H (x, m) (List.mem_cons_self ..)
            exact ⟨e.1.trans e2.1, e.2.trans e2.2⟩
          · exact h3 (fun p hp => H p (List.mem_cons_of_mem _ hp)) p hp
end Go.Proofs.YtlbabnffiibnpaaGreat
namespace Go.Proofs.YtlbabnffiibnpaaGreat
open Go.RowKit
/-- A list that waits. -/
structure Pn where
  a : Option Addr
  c : Nat
  ks : Kds
def pv (P : List Pn) : List Value := P.map fun e => .slice e.a e.ks.length e.c
theorem pv_length (P : List Pn) : (pv P).length = P.length * 1 := by simp [pv]
/-- How much is still to do. -/
def ms : List Kds → Nat
  | [] => 0
  | k :: l => (1 + 2 * cntL k) + ms l
theorem ms_append : ∀ a b : List Kds, ms (a ++ b) = ms a + ms b
  | [], b => by simp [ms]
  | k :: a, b => by simp [ms, ms_append a b]; omega
theorem ms_len : ∀ l : List Kds, l.length ≤ ms l
  | [] => Nat.le_refl _
  | k :: l => by have := ms_len l; simp [ms]; omega
theorem cnt_kids (x : Nd) : cnt x = cntL x.kids + 1 := by obtain ⟨k, m, u, g, o, at_, d, ks⟩ := x; rw [cnt]; rfl
theorem ms_kids : ∀ ks : Kds, ms (ks.map fun p => p.2.kids) + ks.length = 2 * cntL ks
  | [] => rfl
  | (n, x) :: l => by
    have := ms_kids l
    have := cnt_kids x
    simp [ms, cntL]; omega
theorem ms_take (ks : Kds) (j : Nat) : ms ((ks.take j).map fun p => p.2.kids) ≤ ms (ks.map fun p => p.2.kids) := by
  have h : ks.map (fun p => p.2.kids) = (ks.take j).map (fun p => p.2.kids) ++ (ks.drop j).map (fun p => p.2.kids) := by rw [← List.map_append, List.take_append_drop]
  rw [h, ms_append]; omega
/-- What is hidden: the result's box, and the list of what waits. -/
def hsS (nb : Nat) (v : Value) (S : Nat → Bool) : Nat → Bool := fun k => (k == nb + 1 || some k == v.ownBlock) || S k
theorem hsS_no {nb k : Nat} {v : Value} {S : Nat → Bool} : hsS nb v S k = false ↔ k ≠ nb + 1 ∧ some k ≠ v.ownBlock ∧ S k = false := by simp [hsS, and_assoc]
theorem ksV_swap {c c' : Mem} {b p : Nat} {y : Nd} {hy hy' : Hd} (hK : NAt c b p y hy) (hN : NdV c y hy) (hN' : NdV c y hy') (hK' : NAt c' b p y hy')
    (hs : ∀ q, q ≠ ⟨b, p + 5, none⟩ → q ≠ ⟨b, p + 7, none⟩ → c' q = c q) {a : Option Addr} {ks : Kds} (hl : ks.length ≤ 1000) (h : KsV c a ks) : KsV c' a ks :=
  have hx : NdV c (.mk 0 0 0 0 false [] ⟨#[]⟩ ks) ⟨none, 0, a, ks.length⟩ := ndV_iff.2 ⟨.inl rfl, ⟨Nat.le_refl _, by simp⟩, ⟨Nat.le_refl _, by show ks.length ≤ _; omega⟩, h⟩
  (ndV_iff.1 (nd_swap' hK hN hN' hK' hs hx)).2.2.2
/-- A list that waits, in memory. -/
def Pend (base : Nat) (w : World) (S : Nat → Bool) (e : Pn) : Prop := KsV (offS w.cell? S) e.a e.ks ∧ FreshK base w e.a e.ks ∧ LimL e.ks ∧ e.ks.length ≤ 1000
structure OInv (W wr : World) (S : Nat → Bool) (nb : Nat) (x : Nd) (h0 : Hd) (v : Value) (P Q : List Pn) : Prop where
  row : wr.ownsRow (nb + 2) 32 1 v P.length (pv P)
  box : NBox wr nb x h0
  res : NBw wr (nb + 1) zN zH
  tree : NdV (offS wr.cell? (hsS nb v S)) x h0
  pend : ∀ e ∈ Q, Pend (nb + 2) wr (hsS nb v S) e
  low : Below W.heap.size W wr
  sz : W.heap.size = nb
theorem NBw.but {w w' : World} {b b' : Nat} {x : Nd} {h : Hd} (hk : NBw w b x h) (hb : But b' w w') (hne : b ≠ b') : NBw w' b x h :=
  ⟨hk.1.but hb hne, fun j => (hb.frozen (p := ⟨b, j, none⟩) hk.1.lt hne).trans (hk.2 j)⟩
theorem OInv.below {W wr w' : World} {S : Nat → Bool} {nb : Nat} {x : Nd} {h0 : Hd} {v : Value} {P Q : List Pn} (h : OInv W wr S nb x h0 v P Q) (hb : Below wr.heap.size wr w') : OInv W w' S nb x h0 v P Q :=
  ⟨owns_below h.row hb, h.box.below hb, h.res.below hb, h.tree.on (mle_S hb), fun e he => ⟨(h.pend e he).1.on (mle_S hb), (h.pend e he).2.1.below hb, (h.pend e he).2.2⟩, h.low.trans (hb.mono h.low.size), h.sz⟩
theorem OInv.sub {W wr : World} {S : Nat → Bool} {nb : Nat} {x : Nd} {h0 : Hd} {v : Value} {P Q Q' : List Pn} (h : OInv W wr S nb x h0 v P Q) (hq : ∀ e ∈ Q', e ∈ Q) : OInv W wr S nb x h0 v P Q' :=
  ⟨h.row, h.box, h.res, h.tree, fun e he => h.pend e (hq e he), h.low, h.sz⟩
/-- The last one is taken. -/
theorem OInv.pop {W wr : World} {S : Nat → Bool} {nb gw n cap : Nat} {x : Nd} {h0 : Hd} {P : List Pn} {e : Pn} {Q : List Pn} (hn : P.length = n) (h : OInv W wr S nb x h0 (.slice (some ⟨gw, 0, none⟩) (n + 1) cap) (P ++ [e]) Q) : OInv W wr S nb x h0 (.slice (some ⟨gw, 0, none⟩) n cap) P Q := by
  subst hn
  refine ⟨?_, h.box, h.res, h.tree, h.pend, h.low, h.sz⟩
  have := h.row
  rw [show (P ++ [e]).length = P.length + 1 by simp, show pv (P ++ [e]) = pv P ++ pv [e] by simp [pv]] at this
  exact ownsRow_pop (pv_length P) this
/-- A kid's node is put apart. -/
theorem OInv.store {W w : World} {S : Nat → Bool} {nb g p : Nat} {x y : Nd} {h0 hy h' : Hd} {v : Value} {P Q : List Pn} (h : OInv W w S nb x h0 v P Q) (hg : nb + 2 ≤ g)
    (hK : NAt (offS w.cell? (hsS nb v S)) g p y hy) (hN : NdV (offS w.cell? (hsS nb v S)) y hy) (hN' : NdV (offS w.cell? (hsS nb v S)) y h') : OInv W (st8 w g p y h') S nb x h0 v P Q := by
  have hgS : hsS nb v S g = false := by
    obtain ⟨k, m, u, gg, o, at_, d, ks⟩ := y
    exact offS_off hK.1
  have hne := hsS_no.1 hgS
  have hKw : NAt w.cell? g p y hy := hK.on (offS_le _ _)
  have hb : But g w (st8 w g p y h') := st8_but
  have hK' : NAt (offS (st8 w g p y h').cell? (hsS nb v S)) g p y h' := by
    have := st8_at (x := y) (h := h') hKw
    obtain ⟨k, m, u, gg, o, at_, d, ks⟩ := y
    obtain ⟨e0, e1, e2, e3, e4, e5, e6, e7⟩ := this
    exact ⟨(offS_ne hgS).trans e0, (offS_ne hgS).trans e1, (offS_ne hgS).trans e2, (offS_ne hgS).trans e3, (offS_ne hgS).trans e4, (offS_ne hgS).trans e5, (offS_ne hgS).trans e6, (offS_ne hgS).trans e7⟩
  have hs : ∀ q, q ≠ ⟨g, p + 5, none⟩ → q ≠ ⟨g, p + 7, none⟩ → offS (st8 w g p y h').cell? (hsS nb v S) q = offS w.cell? (hsS nb v S) q := by
    intro q h5 h7
    cases hq : hsS nb v S q.block with
    | true => simp [offS, hq]
    | false => rw [offS_ne hq, offS_ne hq]; exact st8_same hKw q h5 h7
  refine ⟨owns_keep h.row fun k hk => hb.block k (h.row.lt k hk).2 (fun e => hne.2.1 (by rw [← e]; exact hk.symm)), h.box.but hb (by omega), h.res.but hb (by omega), nd_swap' hK hN hN' hK' hs h.tree, ?_, ?_, h.sz⟩
  · intro e he
    obtain ⟨q1, q2, q3, q4⟩ := h.pend e he
    refine ⟨ksV_swap hK hN hN' hK' hs q4 q1, ?_, q3, q4⟩
    rcases q2 with q2 | ⟨gg, e1, e2, e3, e4⟩
    · exact .inl q2
    · exact .inr ⟨gg, e1, e2, by have := hb.size; omega, fun j => (st8_frozen _).trans (e4 j)⟩
  · exact h.low.trans (hb.below (B := W.heap.size) (by have := h.sz; omega) h.low.size)
/-- One more waits. -/
theorem OInv.push {W w w' : World} {S : Nat → Bool} {nb : Nat} {x : Nd} {h0 : Hd} {v v' : Value} {P Q : List Pn} {e : Pn} (h : OInv W w S nb x h0 v P Q) (hrow : w'.ownsRow (nb + 2) 32 1 v' (P.length + 1) (pv P ++ pv [e])) (hg : w.grownBy w' v.ownBlock) (hv : v'.ownBlock = v.ownBlock ∨ ∃ s, v'.ownBlock = some s ∧ w.heap.size ≤ s)
    (he : Pend (nb + 2) w (hsS nb v S) e) : OInv W w' S nb x h0 v' (P ++ [e]) (e :: Q) := by
  have step : MLe (offS w.cell? (hsS nb v S)) (offS w'.cell? (hsS nb v' S)) := by
    refine mle_step fun k hk hs => ?_
    obtain ⟨h1, h2, h3⟩ := hsS_no.1 hs
    refine ⟨hsS_no.2 ⟨h1, ?_, h3⟩, hg.block k hk h2⟩
    rcases hv with hv | ⟨s, hv, hle⟩
    · rw [hv]; exact h2
    · rw [hv]; intro e; simp at e; omega
  have blk : ∀ k, k < nb + 2 → w'.heap[k]? = w.heap[k]? := by
    intro k hk
    have hl := h.res.1.lt
    refine hg.block k (by omega) (fun e => ?_)
    have := (h.row.lt k e.symm).1; omega
  have hlow : Below (nb + 2) w w' := ⟨hg.os, hg.tape, hg.output, hg.size, blk⟩
  have cellS : ∀ q : Addr, q.block < nb + 2 → w'.cell? q = w.cell? q := fun q hq => hlow.cell hq
  refine ⟨by rw [show (P ++ [e]).length = P.length + 1 by simp, show pv (P ++ [e]) = pv P ++ pv [e] by simp [pv]]; exact hrow, ?_, ?_, h.tree.on step, ?_, ?_, h.sz⟩
  · have := h.box
    obtain ⟨k, m, u, g, o, at_, d, ks⟩ := x
    obtain ⟨e0, e1, e2, e3, e4, e5, e6, e7⟩ := this
    exact ⟨(cellS _ (by simp)).trans e0, (cellS _ (by simp)).trans e1, (cellS _ (by simp)).trans e2, (cellS _ (by simp)).trans e3, (cellS _ (by simp)).trans e4, (cellS _ (by simp)).trans e5, (cellS _ (by simp)).trans e6, (cellS _ (by simp)).trans e7⟩
  · obtain ⟨⟨e0, e1, e2, e3, e4, e5, e6, e7⟩, ef⟩ := h.res
    exact ⟨⟨(cellS _ (by simp)).trans e0, (cellS _ (by simp)).trans e1, (cellS _ (by simp)).trans e2, (cellS _ (by simp)).trans e3, (cellS _ (by simp)).trans e4, (cellS _ (by simp)).trans e5, (cellS _ (by simp)).trans e6, (cellS _ (by simp)).trans e7⟩, fun j => (hlow.frozen (by simp)).trans (ef j)⟩
  · have one : ∀ e, Pend (nb + 2) w (hsS nb v S) e → Pend (nb + 2) w' (hsS nb v' S) e := by
      rintro e ⟨q1, q2, q3, q4⟩
      refine ⟨q1.on step, ?_, q3, q4⟩
      rcases q2 with q2 | ⟨gg, e1, e2, e3, e4⟩
      · exact .inl q2
      · rcases q1 with q1 | ⟨b, off, ea, f, hf⟩
        · exact .inl q1
        · by_cases h0 : e.ks = []
          · exact .inl h0
          · refine .inr ⟨gg, e1, e2, Nat.lt_of_lt_of_le e3 hg.size, fun j => ?_⟩
            have hne : some gg ≠ v.ownBlock := by
              have hlen : 0 < e.ks.length := List.length_pos_iff.2 h0
              have hx := (hf 0 e.ks[0].1 e.ks[0].2 (List.getElem?_eq_getElem hlen)).1.1
              have := (hsS_no.1 (offS_off hx)).2.1
              rw [ea] at e1
              simp at e1
              rw [← e1.1]; exact this
            exact (World.frozen?_of_block (w := w) (hg.block gg e3 hne)).trans (e4 j)
    intro e' he'
    rcases List.mem_cons.1 he' with e1 | e1
    · rw [e1]; exact one e he
    · exact one e' (h.pend e' e1)
  · exact h.low.trans (hlow.mono (by have := h.sz; omega))
end Go.Proofs.YtlbabnffiibnpaaGreat
