import Derived.Test.YtjjomjjgoceklaaGreatWe
namespace Go.Proofs.YtjjomjjgoceklaaGreat
set_option maxRecDepth 100000
open Go.RowKit

/-! the rationals of the core library as what ratios stand for -/
def PRq (r : Rat) (w : World) (e : Ending) (w' : World) : Prop := PR r.num r.den w e w'
theorem rat_of_div {a b : Int} {N : Int} {D : Nat} (hb : b ≠ 0) (h0 : 0 < D) (hg : Nat.gcd N.natAbs D = 1) (h : N * b = a * (D : Int)) : N = (Rat.divInt a b).num ∧ D = (Rat.divInt a b).den := by
  have hr : (⟨N, D, by omega, hg⟩ : Rat) = Rat.divInt a b := by
    rw [Rat.mk_eq_divInt, Rat.divInt_eq_divInt_iff (by omega) hb]
    exact h
  rw [← hr]
  exact ⟨rfl, rfl⟩
theorem rat_add (a b : Rat) : a + b = Rat.divInt (a.num * (b.den : Int) + b.num * (a.den : Int)) ((a.den : Int) * (b.den : Int)) := by
  have h1 := a.den_pos
  have h2 := b.den_pos
  conv => lhs; rw [← Rat.num_divInt_den a, ← Rat.num_divInt_den b]
  rw [Rat.divInt_add_divInt _ _ (by omega) (by omega)]
theorem rat_mul (a b : Rat) : a * b = Rat.divInt (a.num * b.num) ((a.den : Int) * (b.den : Int)) := by
  conv => lhs; rw [← Rat.num_divInt_den a, ← Rat.num_divInt_den b]
  rw [Rat.divInt_mul_divInt]
theorem den_ne (a b : Rat) : (a.den : Int) * (b.den : Int) ≠ 0 := by
  have h1 := a.den_pos
  have h2 := b.den_pos
  exact Int.mul_ne_zero (by omega) (by omega)
/-- below WB^k -/
def Bd9 (k : Nat) (r : Rat) : Prop := r.num.natAbs < WB ^ k ∧ r.den < WB ^ k
theorem Bd9.mono {k l : Nat} {r : Rat} (h : Bd9 k r) (hkl : k ≤ l) : Bd9 l r := by
  have : WB ^ k ≤ WB ^ l := Nat.pow_le_pow_right (by unfold WB; omega) hkl
  exact ⟨by have := h.1; omega, by have := h.2; omega⟩
theorem wb_sz {n k : Nat} (h : n < WB ^ k) (hk : k ≤ 1000) : Sz n := ⟨k, hk, h⟩
theorem wb_mul {m n k l : Nat} (h1 : m < WB ^ k) (h2 : n < WB ^ l) : m * n < WB ^ (k + l) := by
  rw [Nat.pow_add]
  rcases Nat.eq_zero_or_pos m with h | h
  · subst h; rw [Nat.zero_mul]; exact Nat.mul_pos (Nat.pow_pos (by unfold WB; omega)) (Nat.pow_pos (by unfold WB; omega))
  · exact Nat.lt_of_le_of_lt (Nat.mul_le_mul_left m (Nat.le_of_lt h2)) (Nat.mul_lt_mul_of_pos_right h1 (Nat.pow_pos (by unfold WB; omega)))
theorem wb_add {m n k : Nat} (h1 : m < WB ^ k) (h2 : n < WB ^ k) : m + n < WB ^ (k + 1) := by
  have : 0 < WB ^ k := Nat.pow_pos (by unfold WB; omega)
  rw [Nat.pow_succ]
  have h3 : WB ^ k * 2 ≤ WB ^ k * WB := Nat.mul_le_mul_left _ (by unfold WB; omega)
  omega
theorem bd9_div {a b : Int} {k : Nat} (hb : b ≠ 0) (h1 : a.natAbs < WB ^ k) (h2 : b.natAbs < WB ^ k) : Bd9 k (Rat.divInt a b) := by
  constructor
  · rw [Rat.num_divInt]
    refine Nat.lt_of_le_of_lt ?_ h1
    rw [Int.natAbs_ediv_of_dvd]
    · rw [Int.natAbs_mul, Int.natAbs_sign_of_ne_zero hb, Nat.one_mul]
      exact Nat.div_le_self _ _
    · rw [Int.gcd_comm]
      exact Int.dvd_trans (Int.gcd_dvd_left ..) (Int.dvd_mul_left ..)
  · rw [Rat.den_divInt, if_neg hb]
    exact Nat.lt_of_le_of_lt (Nat.div_le_self _ _) h2
theorem Bd9.add {k l : Nat} {a b : Rat} (ha : Bd9 k a) (hb : Bd9 l b) : Bd9 (k + l + 1) (a + b) := by
  rw [rat_add]
  refine bd9_div (den_ne a b) ?_ ?_
  · refine Nat.lt_of_le_of_lt (Int.natAbs_add_le _ _) (wb_add ?_ ?_)
    · rw [Int.natAbs_mul, Int.natAbs_natCast]; exact wb_mul ha.1 hb.2
    · rw [Int.natAbs_mul, Int.natAbs_natCast, Nat.add_comm k l]; exact wb_mul hb.1 ha.2
  · rw [Int.natAbs_mul, Int.natAbs_natCast, Int.natAbs_natCast]
    exact Nat.lt_of_lt_of_le (wb_mul ha.2 hb.2) (Nat.pow_le_pow_right (by unfold WB; omega) (by omega))
theorem Bd9.mul {k l : Nat} {a b : Rat} (ha : Bd9 k a) (hb : Bd9 l b) : Bd9 (k + l) (a * b) := by
  rw [rat_mul]
  refine bd9_div (den_ne a b) ?_ ?_
  · rw [Int.natAbs_mul]; exact wb_mul ha.1 hb.1
  · rw [Int.natAbs_mul, Int.natAbs_natCast, Int.natAbs_natCast]; exact wb_mul ha.2 hb.2
theorem Bd9.neg {k : Nat} {a : Rat} (ha : Bd9 k a) : Bd9 k (-a) := by
  refine ⟨?_, ?_⟩
  · rw [Rat.neg_num, Int.natAbs_neg]; exact ha.1
  · rw [Rat.neg_den]; exact ha.2
/-- how two rationals compare -/
def cmpQ (a b : Rat) : Int := if a < b then -1 else if a = b then 0 else 1
end Go.Proofs.YtjjomjjgoceklaaGreat
