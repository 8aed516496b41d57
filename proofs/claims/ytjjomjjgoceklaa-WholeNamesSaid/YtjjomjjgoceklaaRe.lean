import Derived.Test.YtjjomjjgoceklaaRd
namespace Go.Proofs.Ytjjomjjgoceklaa
open Go.RowKit

/-- block T is the box of a number of the reference -/
def Bz (T : Nat) (s : Int) (p : Option Addr) (l c : Nat) (w : World) : Prop := w.heap[T]? = some (.cells #[.int .i64 s, .slice p l c] 32 (0, 0))
theorem Bz.keep {T : Nat} {s : Int} {p : Option Addr} {l c B : Nat} {w w' : World} (h : Bz T s p l c w) (hb : Below B w w') (hT : T < B) : Bz T s p l c w' := (hb.block T hT).trans h
theorem Bz.cells {T : Nat} {s : Int} {p : Option Addr} {l c : Nat} {w : World} (h : Bz T s p l c w) : w.cell? ⟨T, 0, none⟩ = some (.int .i64 s) ∧ w.cell? ⟨T, 1, none⟩ = some (.slice p l c) ∧ w.frozen? ⟨T, 0, none⟩ = false ∧ w.frozen? ⟨T, 1, none⟩ = false := by
  have h' : w.heap[T]? = _ := h
  exact ⟨by simp [World.cell?, h'], by simp [World.cell?, h'], by simp [World.frozen?, h'], by simp [World.frozen?, h']⟩
theorem Bz.noI {T : Nat} {s : Int} {p : Option Addr} {l c : Nat} {w : World} (h : Bz T s p l c w) : NoI w T := ⟨_, _, _, h, by decide⟩
theorem Bz.set {T : Nat} {s : Int} {p : Option Addr} {l c : Nat} {w : World} (h : Bz T s p l c w) (s' : Int) (p' : Option Addr) (l' c' : Nat) :
    Bz T s' p' l' c' ((w.setCell ⟨T, 0, none⟩ (.int .i64 s')).setCell ⟨T, 1, none⟩ (.slice p' l' c')) := by
  have h' : w.heap[T]? = _ := h
  unfold Bz
  simp [World.setCell, Array.getElem?_modify, h']
theorem Bz.other {T U : Nat} {s : Int} {p : Option Addr} {l c : Nat} {w w' : World} (h : Bz T s p l c w) (hg : w.grownBy w' (some U)) (hne : T ≠ U) : Bz T s p l c w' :=
  (hg.block T (Array.getElem?_eq_some_iff.1 (show w.heap[T]? = _ from h)).1 (by intro e; cases e; exact hne rfl)).trans h
theorem Bz.grown {T : Nat} {s : Int} {p : Option Addr} {l c : Nat} {w w' : World} (h : Bz T s p l c w) (hg : w.grownBy w' none) : Bz T s p l c w' :=
  (hg.block T (Array.getElem?_eq_some_iff.1 (show w.heap[T]? = _ from h)).1 (by intro e; cases e)).trans h
theorem bz_new (w : World) (s : Int) (p : Option Addr) (l c : Nat) {T : Nat} (hT : T = w.heap.size) : Bz T s p l c (w.alloc (.cells #[.int .i64 s, .slice p l c] 32)) := by
  subst hT; exact Go.Deep.blk_alloc_new _ _
theorem Bz.alloc {T : Nat} {s : Int} {p : Option Addr} {l c : Nat} {w : World} (h : Bz T s p l c w) (o : Obj) : Bz T s p l c (w.alloc o) := h.grown (World.grownBy_alloc w o none)
/-- integers as values -/
def vi (l : List Int) : List Value := l.map (Value.int .i64)
theorem dv_vi (l : List Nat) : dv l = vi (l.map fun (x : Nat) => (x : Int)) := by simp [dv, vi]
theorem SlI.of_ownI {w : World} {base cnt : Nat} {v : Value} {l : List Int} (h : w.ownsRow base 3 1 v cnt (vi l)) (hl : l.length ≤ 4096) : SlI w v l := by
  have hn : l.length = cnt := by have := h.1; simpa [vi] using this
  subst hn
  obtain ⟨_, ⟨rfl, h0⟩ | ⟨g, cap, cur, rfl, _, hg, hc, hm, hs, ht⟩⟩ := h
  · have : l = [] := List.length_eq_zero_iff.1 h0
    subst this
    exact ⟨by simp, .inl ⟨rfl, rfl⟩⟩
  · refine ⟨hl, .inr ⟨g, 0, cap, rfl, hc, hm, ⟨cur, hg⟩, fun i hi => ?_⟩⟩
    have h1 : cur.toList[i]? = some (.int .i64 (l.getD i 0)) := by
      have h2 : (cur.toList.take (l.length * 1))[i]? = (vi l)[i]? := by rw [ht]
      rw [List.getElem?_take_of_lt (by omega)] at h2
      rw [h2]
      simp [vi, hi, List.getD_eq_getElem?_getD]
    unfold World.cell?
    dsimp only
    rw [hg, Nat.zero_add]
    simpa using h1
theorem iv_set (l : List Int) (k : Nat) (v : Int) (h : k < l.length) : iv (l.set k v) = iv l + 10000 ^ k * (v - l.getD k 0) := by
  induction l generalizing k with
  | nil => simp at h
  | cons x r ih =>
    cases k with
    | zero => simp [iv]; omega
    | succ k =>
      simp only [List.set_cons_succ, iv, List.getD_cons_succ]
      rw [ih k (by simpa using h), Int.pow_succ, Int.mul_add, Int.mul_comm (10000 ^ k) 10000, Int.mul_assoc]
      omega
theorem getD_set (l : List Int) (k i : Nat) (v : Int) (h : k < l.length) : (l.set k v).getD i 0 = if i = k then v else l.getD i 0 := by
  rw [List.getD_eq_getElem?_getD, List.getElem?_set]
  by_cases e : k = i
  · subst e; simp [h]
  · rw [if_neg e, if_neg (fun h => e h.symm), List.getD_eq_getElem?_getD]
/-- a number of the reference of not too many groups -/
def Sr (z : Int) : Prop := ∃ k, k ≤ 900 ∧ z.natAbs < 10000 ^ k
theorem Sr.len {z : Int} {gs : List Nat} (h : Sr z) (hn : Nrm gs) (hv : rv gs = z.natAbs) : gs.length ≤ 900 := by
  obtain ⟨k, hk, h1⟩ := h
  by_cases he : gs = []
  · subst he; simp
  · have h2 := rv_ge gs hn he
    rcases Nat.lt_or_ge k gs.length with h3 | h3
    · have h4 : 10000 ^ k ≤ 10000 ^ (gs.length - 1) := Nat.pow_le_pow_right (by decide) (by omega)
      omega
    · omega
/-- a of absolute value at least that of b: their sum, from absolute values -/
theorem sum_abs (y z : Int) (h : z.natAbs ≤ y.natAbs) : (y + z).natAbs = ((y.natAbs : Int) + y.sign * z.sign * z.natAbs).toNat ∧ 0 ≤ (y.natAbs : Int) + y.sign * z.sign * z.natAbs ∧ (y + z ≠ 0 → y.sign = (y + z).sign) := by
  rcases Int.lt_trichotomy y 0 with hy | hy | hy <;> rcases Int.lt_trichotomy z 0 with hz | hz | hz
  all_goals
    (try subst hy) <;> (try subst hz)
    simp only [Int.sign_eq_neg_one_of_neg, Int.sign_eq_one_of_pos, Int.sign_zero, *]
    refine ⟨by omega, by omega, fun hne => ?_⟩
    first
      | (exfalso; omega)
      | (rw [Int.sign_eq_neg_one_of_neg (by omega)])
      | (rw [Int.sign_eq_one_of_pos (by omega)])
      | omega
end Go.Proofs.Ytjjomjjgoceklaa
