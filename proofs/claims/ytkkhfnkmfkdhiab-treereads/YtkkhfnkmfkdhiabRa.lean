/-
  BYTES READ AS A TREE, the facts of no program: what is read has these bytes; a tree's bytes are read as it.
-/
import Derived.Test.YtkkhfnkmfkdhiabVe
namespace Go.Proofs.Ytkkhfnkmfkdhiab
open Go.RowKit

def rN1 : List UInt8 → Option (Nat × List UInt8)
  | [] => none
  | b :: l => some (b.toNat, l)
def rN2 : List UInt8 → Option (Nat × List UInt8)
  | a :: b :: l => some (a.toNat * 256 + b.toNat, l)
  | _ => none
def rTk (n : Nat) (l : List UInt8) : Option (ByteArray × List UInt8) := if n ≤ l.length then some (⟨(l.take n).toArray⟩, l.drop n) else none
def rTx (l : List UInt8) : Option (ByteArray × List UInt8) := (rN1 l).bind fun p => rTk p.1 p.2
def rAt : Nat → List UInt8 → Option (List Kv × List UInt8)
  | 0, l => some ([], l)
  | c + 1, l => (rTx l).bind fun n => (rTx n.2).bind fun v => (rAt c v.2).bind fun r => some (⟨n.1, v.1⟩ :: r.1, r.2)
def rKs (g : List UInt8 → Option (Nd × List UInt8)) : Nat → List UInt8 → Option (Kds × List UInt8)
  | 0, l => some ([], l)
  | c + 1, l => (rTx l).bind fun n => (g n.2).bind fun x => (rKs g c x.2).bind fun r => some ((n.1, x.1) :: r.1, r.2)
def rNd (dec : Nat → Int × Bool) : Nat → List UInt8 → Option (Nd × List UInt8)
  | 0, _ => none
  | f + 1, l => (rN1 l).bind fun k => (rN2 k.2).bind fun m => (rN2 m.2).bind fun u => (rN2 u.2).bind fun g => (rN1 g.2).bind fun c => (rAt c.1 c.2).bind fun a => (rTx a.2).bind fun d => (rN1 d.2).bind fun e => (rKs (rNd dec f) e.1 e.2).bind fun r => some (.mk (dec k.1).1 m.1 u.1 g.1 (dec k.1).2 a.1 d.1 r.1, r.2)
theorem b8_nat (b : UInt8) : b8 (b.toNat : Int) = b := by
  apply UInt8.toNat_inj.1
  have h1 := b8_val (b.toNat : Int)
  have h2 := b.toNat_lt
  omega
theorem b8_hi (a b : UInt8) : b8 (((a.toNat * 256 + b.toNat : Nat) : Int) / 256) = a := by
  have h2 := b.toNat_lt
  rw [show ((a.toNat * 256 + b.toNat : Nat) : Int) / 256 = (a.toNat : Int) by omega]
  exact b8_nat a
theorem b8_lo (a b : UInt8) : b8 ((a.toNat * 256 + b.toNat : Nat) : Int) = b := by
  apply UInt8.toNat_inj.1
  have h1 := b8_val ((a.toNat * 256 + b.toNat : Nat) : Int)
  have h2 := b.toNat_lt
  omega
theorem rN1_some {l q : List UInt8} {n : Nat} (h : rN1 l = some (n, q)) : l = b8 (n : Int) :: q ∧ n ≤ 255 := by
  cases l with
  | nil => cases h
  | cons b l =>
    simp only [rN1, Option.some.injEq, Prod.mk.injEq] at h
    obtain ⟨rfl, rfl⟩ := h
    have := b.toNat_lt
    exact ⟨by rw [b8_nat], by omega⟩
theorem rN1_mk {n : Nat} (h : n ≤ 255) (q : List UInt8) : rN1 (b8 (n : Int) :: q) = some (n, q) := by
  have h1 := b8_val (n : Int)
  rw [rN1]
  simp only [Option.some.injEq, Prod.mk.injEq, and_true]
  omega
theorem rN2_some {l q : List UInt8} {n : Nat} (h : rN2 l = some (n, q)) : l = num2 (n : Int) ++ q ∧ n ≤ 65535 := by
  match l, h with
  | a :: b :: l, h =>
    simp only [rN2, Option.some.injEq, Prod.mk.injEq] at h
    obtain ⟨rfl, rfl⟩ := h
    have h1 := a.toNat_lt
    have h2 := b.toNat_lt
    exact ⟨by rw [num2, b8_hi, b8_lo]; rfl, by omega⟩
theorem rN2_mk {n : Int} (h0 : 0 ≤ n) (h : n ≤ 65535) (q : List UInt8) : rN2 (num2 n ++ q) = some (n.toNat, q) := by
  have h1 := b8_val (n / 256)
  have h2 := b8_val n
  show rN2 (b8 (n / 256) :: b8 n :: q) = _
  rw [rN2]
  simp only [Option.some.injEq, Prod.mk.injEq, and_true]
  omega
theorem rTk_some {n : Nat} {l q : List UInt8} {s : ByteArray} (h : rTk n l = some (s, q)) : l = s.data.toList ++ q ∧ s.size = n := by
  unfold rTk at h
  split at h
  · rename_i hn
    simp only [Option.some.injEq, Prod.mk.injEq] at h
    obtain ⟨rfl, rfl⟩ := h
    exact ⟨by simp, by show (l.take n).toArray.size = n; rw [List.size_toArray, List.length_take]; omega⟩
  · cases h
theorem rTk_mk (s : ByteArray) (q : List UInt8) : rTk s.size (s.data.toList ++ q) = some (s, q) := by
  have e : s.size = s.data.toList.length := by rw [Array.length_toList]; rfl
  unfold rTk
  rw [if_pos (by rw [List.length_append]; omega), e]
  simp
theorem rTx_some {l q : List UInt8} {s : ByteArray} (h : rTx l = some (s, q)) : l = txt s ++ q ∧ s.size ≤ 255 := by
  unfold rTx at h
  cases e : rN1 l with
  | none => rw [e] at h; cases h
  | some p =>
    rw [e] at h
    obtain ⟨h1, h2⟩ := rN1_some e
    obtain ⟨h3, h4⟩ := rTk_some h
    rw [h1, h3, ← h4]
    exact ⟨rfl, by omega⟩
theorem rTx_mk {s : ByteArray} (h : s.size ≤ 255) (q : List UInt8) : rTx (txt s ++ q) = some (s, q) := by
  unfold rTx
  show (rN1 (b8 (s.size : Int) :: (s.data.toList ++ q))).bind _ = _
  rw [rN1_mk h]
  exact rTk_mk s q
theorem rAt_some : ∀ {c : Nat} {l q : List UInt8} {a : List Kv}, rAt c l = some (a, q) → l = atB a ++ q ∧ a.length = c ∧ ∀ r ∈ a, r.n.size ≤ 255 ∧ r.v.size ≤ 255
  | 0, l, q, a, h => by
    simp only [rAt, Option.some.injEq, Prod.mk.injEq] at h
    obtain ⟨rfl, rfl⟩ := h
    exact ⟨rfl, rfl, fun r hr => by cases hr⟩
  | c + 1, l, q, a, h => by
    rw [rAt] at h
    obtain ⟨n, h1, h⟩ := Option.bind_eq_some_iff.1 h
    obtain ⟨v, h2, h⟩ := Option.bind_eq_some_iff.1 h
    obtain ⟨r, h3, h⟩ := Option.bind_eq_some_iff.1 h
    simp only [Option.some.injEq, Prod.mk.injEq] at h
    obtain ⟨rfl, rfl⟩ := h
    obtain ⟨e1, s1⟩ := rTx_some h1
    obtain ⟨e2, s2⟩ := rTx_some h2
    obtain ⟨e3, s3, s4⟩ := rAt_some h3
    refine ⟨by rw [e1, e2, e3]; simp [atB], by simp [s3], fun x hx => ?_⟩
    rcases List.mem_cons.1 hx with e | e
    · subst e; exact ⟨s1, s2⟩
    · exact s4 x e
theorem rAt_mk : ∀ {a : List Kv} (q : List UInt8), (∀ r ∈ a, r.n.size ≤ 255 ∧ r.v.size ≤ 255) → rAt a.length (atB a ++ q) = some (a, q)
  | [], q, _ => rfl
  | r :: a, q, h => by
    have h1 := h r (List.mem_cons_self ..)
    have h2 := rAt_mk (a := a) q fun x hx => h x (List.mem_cons_of_mem _ hx)
    rw [List.length_cons, rAt, atB, List.append_assoc, List.append_assoc, rTx_mk h1.1]
    simp only [Option.bind_some]
    rw [rTx_mk h1.2]
    simp only [Option.bind_some]
    rw [h2]
    rfl
mutual
/-- Numbers and texts that go into the bytes. -/
def Fits : Nd → Prop
  | .mk k m u g _ at_ d ks => (0 ≤ k ∧ k ≤ 7) ∧ (0 ≤ m ∧ m ≤ 65535) ∧ (0 ≤ u ∧ u ≤ 65535) ∧ (0 ≤ g ∧ g ≤ 65535) ∧ (at_.length ≤ 255 ∧ ∀ r ∈ at_, r.n.size ≤ 255 ∧ r.v.size ≤ 255) ∧ d.size ≤ 255 ∧ ks.length ≤ 255 ∧ FitsL ks
def FitsL : Kds → Prop
  | [] => True
  | p :: l => p.1.size ≤ 255 ∧ Fits p.2 ∧ FitsL l
end
theorem rKs_some {g : List UInt8 → Option (Nd × List UInt8)} (hg : ∀ l x q, g l = some (x, q) → l = byN x ++ q) : ∀ {c : Nat} {l q : List UInt8} {a : Kds}, rKs g c l = some (a, q) → l = byL a ++ q ∧ a.length = c
  | 0, l, q, a, h => by
    simp only [rKs, Option.some.injEq, Prod.mk.injEq] at h
    obtain ⟨rfl, rfl⟩ := h
    exact ⟨by simp [byL], rfl⟩
  | c + 1, l, q, a, h => by
    rw [rKs] at h
    obtain ⟨n, h1, h⟩ := Option.bind_eq_some_iff.1 h
    obtain ⟨v, h2, h⟩ := Option.bind_eq_some_iff.1 h
    obtain ⟨r, h3, h⟩ := Option.bind_eq_some_iff.1 h
    simp only [Option.some.injEq, Prod.mk.injEq] at h
    obtain ⟨rfl, rfl⟩ := h
    obtain ⟨e1, s1⟩ := rTx_some h1
    have e2 := hg _ _ _ h2
    obtain ⟨e3, s3⟩ := rKs_some hg h3
    exact ⟨by rw [e1, e2, e3, byL]; simp, by simp [s3]⟩
theorem rNd_some {dec : Nat → Int × Bool} (hd : ∀ n : Nat, n ≤ 255 → (if (dec n).2 = true then (dec n).1 + 8 else (dec n).1) = n) : ∀ {f : Nat} {l q : List UInt8} {x : Nd}, rNd dec f l = some (x, q) → l = byN x ++ q
  | 0, l, q, x, h => by cases h
  | f + 1, l, q, x, h => by
    rw [rNd] at h
    obtain ⟨k, h1, h⟩ := Option.bind_eq_some_iff.1 h
    obtain ⟨m, h2, h⟩ := Option.bind_eq_some_iff.1 h
    obtain ⟨u, h3, h⟩ := Option.bind_eq_some_iff.1 h
    obtain ⟨g, h4, h⟩ := Option.bind_eq_some_iff.1 h
    obtain ⟨c, h5, h⟩ := Option.bind_eq_some_iff.1 h
    obtain ⟨a, h6, h⟩ := Option.bind_eq_some_iff.1 h
    obtain ⟨d, h7, h⟩ := Option.bind_eq_some_iff.1 h
    obtain ⟨e, h8, h⟩ := Option.bind_eq_some_iff.1 h
    obtain ⟨r, h9, h⟩ := Option.bind_eq_some_iff.1 h
    simp only [Option.some.injEq, Prod.mk.injEq] at h
    obtain ⟨rfl, rfl⟩ := h
    obtain ⟨e1, s1⟩ := rN1_some h1
    obtain ⟨e2, s2⟩ := rN2_some h2
    obtain ⟨e3, s3⟩ := rN2_some h3
    obtain ⟨e4, s4⟩ := rN2_some h4
    obtain ⟨e5, s5⟩ := rN1_some h5
    obtain ⟨e6, s6, _⟩ := rAt_some h6
    obtain ⟨e7, s7⟩ := rTx_some h7
    obtain ⟨e8, s8⟩ := rN1_some h8
    obtain ⟨e9, s9⟩ := rKs_some (fun l x q hx => rNd_some hd hx) h9
    rw [byN, hd _ s1, s6, s9, e1, e2, e3, e4, e5, e6, e7, e8, e9]
    simp
theorem rKs_mk {g : List UInt8 → Option (Nd × List UInt8)} : ∀ {a : Kds} (q : List UInt8), (∀ p ∈ a, p.1.size ≤ 255 ∧ ∀ q, g (byN p.2 ++ q) = some (p.2, q)) → rKs g a.length (byL a ++ q) = some (a, q)
  | [], q, _ => by simp [rKs, byL]
  | p :: a, q, h => by
    have h1 := h p (List.mem_cons_self ..)
    have h2 := rKs_mk (a := a) q fun x hx => h x (List.mem_cons_of_mem _ hx)
    rw [List.length_cons, rKs, byL, List.append_assoc, List.append_assoc, rTx_mk h1.1]
    simp only [Option.bind_some]
    rw [h1.2]
    simp only [Option.bind_some]
    rw [h2]
    rfl
theorem fitsL_mem : ∀ {a : Kds}, FitsL a → ∀ p ∈ a, p.1.size ≤ 255 ∧ Fits p.2
  | [], _, p, hp => by cases hp
  | q :: a, h, p, hp => by
    rw [FitsL] at h
    rcases List.mem_cons.1 hp with e | e
    · subst e; exact ⟨h.1, h.2.1⟩
    · exact fitsL_mem h.2.2 p e
theorem depL_mem : ∀ {a : Kds} {p : ByteArray × Nd}, p ∈ a → dep p.2 ≤ dep.depL a
  | [], p, hp => by cases hp
  | (m, y) :: a, p, hp => by
    rw [dep.depL]
    rcases List.mem_cons.1 hp with e | e
    · subst e; exact Nat.le_max_left ..
    · exact Nat.le_trans (depL_mem e) (Nat.le_max_right ..)
theorem rNd_mk {dec : Nat → Int × Bool} (hd : ∀ (k : Int) (o : Bool), 0 ≤ k → k ≤ 7 → dec (if o = true then k + 8 else k).toNat = (k, o)) : ∀ (f : Nat) (x : Nd) (q : List UInt8), Fits x → dep x ≤ f → rNd dec f (byN x ++ q) = some (x, q)
  | 0, .mk k m u g o at_ d ks, q, _, h => by rw [dep] at h; omega
  | f + 1, .mk k m u g o at_ d ks, q, hx, h => by
    rw [Fits] at hx
    rw [dep] at h
    obtain ⟨⟨k0, k1⟩, ⟨m0, m1⟩, ⟨u0, u1⟩, ⟨g0, g1⟩, ⟨a0, a1⟩, d1, n1, hl⟩ := hx
    have hk : b8 (if o = true then k + 8 else k) = b8 ((if o = true then k + 8 else k).toNat : Nat) := by congr 1; split <;> omega
    have hk1 : (if o = true then k + 8 else k).toNat ≤ 255 := by split <;> omega
    have hK := rKs_mk (g := rNd dec f) (a := ks) q fun p hp => ⟨(fitsL_mem hl p hp).1, fun q => rNd_mk hd f p.2 q (fitsL_mem hl p hp).2 (by have := depL_mem hp; omega)⟩
    rw [rNd, byN, hk]
    simp only [List.cons_append, List.append_assoc]
    rw [rN1_mk hk1]
    simp only [Option.bind_some]
    rw [rN2_mk m0 m1]
    simp only [Option.bind_some]
    rw [rN2_mk u0 u1]
    simp only [Option.bind_some]
    rw [rN2_mk g0 g1]
    simp only [Option.bind_some]
    rw [rN1_mk a0]
    simp only [Option.bind_some]
    rw [rAt_mk _ a1]
    simp only [Option.bind_some]
    rw [rTx_mk d1]
    simp only [Option.bind_some]
    rw [rN1_mk n1]
    simp only [Option.bind_some]
    rw [hK]
    simp only [Option.bind_some]
    rw [hd k o k0 k1, Int.toNat_of_nonneg m0, Int.toNat_of_nonneg u0, Int.toNat_of_nonneg g0]
mutual
theorem wlkN_cnt (up : Bool) : ∀ (x : Nd) (deep seen : Nat), (wlkN up x deep seen).1 = 0 → (wlkN up x deep seen).2 = seen + cnt x
  | .mk k m u g o at_ d ks, deep, seen, h => by
    rw [wlkN] at h ⊢
    split at h
    · simp at h
    rename_i h1
    rw [if_neg h1]
    split at h
    · rename_i h2; exact absurd h h2
    rename_i h2
    rw [if_neg h2, wlkL_cnt up none ks (deep + 1) (seen + 1) h, cnt]
    omega
theorem wlkL_cnt (up : Bool) : ∀ (p : Option ByteArray) (l : Kds) (deep seen : Nat), (wlkL up p l deep seen).1 = 0 → (wlkL up p l deep seen).2 = seen + cntL l
  | p, [], deep, seen, h => by rw [wlkL, cntL]; rfl
  | p, (n, x) :: l, deep, seen, h => by
    rw [wlkL] at h ⊢
    split at h
    · simp at h
    rename_i h1
    rw [if_neg h1]
    split at h
    · simp at h
    rename_i h2
    rw [if_neg h2]
    split at h
    · rename_i h3; exact absurd h h3
    rename_i h3
    have e := wlkN_cnt up x deep seen (Decidable.not_not.1 h3)
    rw [if_neg h3, wlkL_cnt up (some n) l deep _ h, e, cntL]
    omega
end
theorem nfF_data {up root : Bool} {k m u g : Int} {o : Bool} {at_ : List Kv} {d : ByteArray} {ks : Kds} (h : nfF up root (.mk k m u g o at_ d ks) = 0) : d.size ≤ 200 := by
  rw [nfF] at h
  split at h
  · omega
  split at h
  · omega
  split at h
  · rename_i h3; exact absurd h h3
  unfold nfR at h
  split at h
  · omega
  · omega
mutual
theorem fits_wlk (up : Bool) : ∀ (x : Nd) (deep seen : Nat), (wlkN up x deep seen).1 = 0 → Lil x → cnt x ≤ 60 → Fits x
  | .mk k m u g o at_ d ks, deep, seen, h, hl, hc => by
    rw [wlkN] at h
    split at h
    · simp at h
    split at h
    · rename_i h2; exact absurd h h2
    rename_i h1 h2
    obtain ⟨a, b, c, e⟩ := nfF_num (Decidable.not_not.1 h2)
    have hd := nfF_data (Decidable.not_not.1 h2)
    rw [Lil] at hl
    rw [cnt] at hc
    have hlen := cntL_len ks
    obtain ⟨l1, l2⟩ := hl.1
    rw [Fits]
    exact ⟨by omega, by omega, c, e, ⟨by omega, fun r hr => by have := l2 r hr; omega⟩, by omega, by omega, fitsL_wlk up none ks (deep + 1) (seen + 1) h hl.2.2 (by omega)⟩
theorem fitsL_wlk (up : Bool) : ∀ (p : Option ByteArray) (l : Kds) (deep seen : Nat), (wlkL up p l deep seen).1 = 0 → LilL l → cntL l ≤ 60 → FitsL l
  | p, [], deep, seen, h, hl, hc => by rw [FitsL]; trivial
  | p, (n, x) :: l, deep, seen, h, hl, hc => by
    rw [wlkL] at h
    split at h
    · simp at h
    split at h
    · simp at h
    split at h
    · rename_i h2; exact absurd h h2
    rename_i h1 h2 h3
    rw [LilL] at hl
    rw [cntL] at hc
    rw [FitsL]
    exact ⟨by show n.size ≤ 255; omega, fits_wlk up x deep seen (Decidable.not_not.1 h3) hl.2.1 (by omega), fitsL_wlk up (some n) l deep _ h hl.2.2 (by omega)⟩
end
theorem fits_of {up : Bool} {x : Nd} (h : tfF up x = 0) (hl : Lil x) : Fits x ∧ cnt x ≤ 60 := by
  obtain ⟨k, m, u, g, o, at_, d, ks⟩ := x
  rw [tfF] at h
  split at h
  · omega
  · have h1 := wlkN_cnt up _ 0 0 h
    have h2 := (wlkN_range up (.mk k m u g o at_ d ks) 0 0 (by omega)).2
    have h3 : cnt (.mk k m u g o at_ d ks) ≤ 60 := by omega
    exact ⟨fits_wlk up _ 0 0 h hl h3, h3⟩
mutual
theorem dep_cnt : ∀ x : Nd, dep x ≤ cnt x
  | .mk k m u g o at_ d ks => by rw [dep, cnt]; have := depL_cnt ks; omega
theorem depL_cnt : ∀ l : Kds, dep.depL l ≤ cntL l
  | [] => Nat.le_refl _
  | (n, x) :: l => by
    rw [dep.depL, cntL]
    have h1 := dep_cnt x
    have h2 := depL_cnt l
    omega
end
mutual
theorem cnt_bytes : ∀ x : Nd, cnt x ≤ (byN x).length
  | .mk k m u g o at_ d ks => by
    rw [cnt, byN]
    have := cntL_bytes ks
    simp only [List.length_append, List.length_cons, num2_length, txt_length]
    omega
theorem cntL_bytes : ∀ l : Kds, cntL l ≤ (byL l).length
  | [] => Nat.le_refl _
  | (n, x) :: l => by
    rw [cntL, byL]
    have h1 := cnt_bytes x
    have h2 := cntL_bytes l
    simp only [List.length_append]
    omega
end
end Go.Proofs.Ytkkhfnkmfkdhiab
