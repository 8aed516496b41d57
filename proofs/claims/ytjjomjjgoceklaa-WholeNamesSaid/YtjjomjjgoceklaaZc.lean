import Derived.WalkKit
namespace Go.Proofs.Ytjjomjjgoceklaa
open Go.RowKit

/-! plain: decimal digits -/
def digAt (n k : Nat) : Fin 10 := ⟨n / 10 ^ k % 10, Nat.mod_lt _ (by decide)⟩
/-- the k lowest decimal digits of n, the highest first -/
def padL : Nat → Nat → List (Fin 10)
  | 0, _ => []
  | k + 1, n => digAt n k :: padL k n
theorem padL_length (k n : Nat) : (padL k n).length = k := by
  induction k with
  | zero => rfl
  | succ k ih => simp [padL, ih]
theorem padL_take (D n m : Nat) (h : m < D) : (padL D n).take (m + 1) = (padL D n).take m ++ [digAt n (D - 1 - m)] := by
  induction D generalizing m with
  | zero => omega
  | succ D ih =>
    cases m with
    | zero => simp [padL]
    | succ m =>
      simp only [padL, List.take_succ_cons, List.cons_append]
      rw [ih m (by omega), show D + 1 - 1 - (m + 1) = D - 1 - m by omega]
theorem digAt_mod (n j k : Nat) (h : k < j) : digAt (n % 10 ^ j) k = digAt n k := by
  unfold digAt
  congr 1
  have e : 10 ^ j = 10 ^ k * 10 ^ (j - k) := by rw [← Nat.pow_add]; congr 1; omega
  rw [e, Nat.mod_mul_right_div_self, Nat.mod_mod_of_dvd]
  exact ⟨10 ^ (j - k - 1), by rw [← Nat.pow_succ']; congr 1; omega⟩
theorem digAt_div (n j k : Nat) : digAt (n / 10 ^ j) k = digAt n (j + k) := by
  unfold digAt
  congr 1
  rw [Nat.div_div_eq_div_mul, Nat.pow_add]
/-- the number of decimal digits -/
def nd (n : Nat) : Nat := if n < 10 then 1 else nd (n / 10) + 1
termination_by n
decreasing_by omega
theorem nd_small {n : Nat} (h : n < 10) : nd n = 1 := by rw [nd, if_pos h]
theorem nd_big {n : Nat} (h : ¬ n < 10) : nd n = nd (n / 10) + 1 := by rw [nd, if_neg h]
theorem nd_pos (n : Nat) : 1 ≤ nd n := by
  by_cases h : n < 10
  · rw [nd_small h]; exact Nat.le_refl _
  · rw [nd_big h]; omega
theorem nd_unique {k n : Nat} (h1 : 1 ≤ k) (h2 : n < 10 ^ k) (h3 : k = 1 ∨ 10 ^ (k - 1) ≤ n) : k = nd n := by
  induction k generalizing n with
  | zero => omega
  | succ k ih =>
    by_cases hk : k = 0
    · subst hk
      rw [nd_small (by simpa using h2)]
    · have h3 : 10 ^ k ≤ n := by
        rcases h3 with h3 | h3
        · omega
        · simpa using h3
      have e : 10 ^ k = 10 * 10 ^ (k - 1) := by rw [← Nat.pow_succ']; congr 1; omega
      have p : 0 < 10 ^ (k - 1) := Nat.pow_pos (by decide)
      have hn : ¬ n < 10 := by omega
      rw [nd_big hn]
      rw [← ih (n := n / 10) (by omega) (by rw [Nat.pow_succ] at h2; omega) (by right; omega)]
theorem nd_spec (n : Nat) : n < 10 ^ nd n ∧ (nd n = 1 ∨ 10 ^ (nd n - 1) ≤ n) := by
  induction n using Nat.strongRecOn with
  | ind n ih =>
    by_cases h : n < 10
    · rw [nd_small h]; exact ⟨by simpa using h, .inl rfl⟩
    · obtain ⟨a, b⟩ := ih (n / 10) (by omega)
      rw [nd_big h]
      have hp := nd_pos (n / 10)
      have e : 10 ^ nd (n / 10) = 10 * 10 ^ (nd (n / 10) - 1) := by rw [← Nat.pow_succ']; congr 1; omega
      refine ⟨by rw [Nat.pow_succ]; omega, .inr ?_⟩
      rw [Nat.add_sub_cancel]
      rcases b with b | b
      · rw [b]; omega
      · omega
/-- the decimal digits of n, the highest first -/
def decL (n : Nat) : List (Fin 10) := padL (nd n) n
theorem decL_length (n : Nat) : (decL n).length = nd n := padL_length _ _
/-- the bytes of digits -/
def digB (l : List (Fin 10)) : List UInt8 := l.map fun d => UInt8.ofNat (48 + d.val)
/-- the text of an integer -/
def txtL (z : Int) : List UInt8 := (if z < 0 then [45] else []) ++ digB (decL z.natAbs)
def txt (z : Int) : ByteArray := ⟨(txtL z).toArray⟩

/-- gs are the digits of n to the base 10^19, the lowest first, at least one -/
def Gs (n : Nat) (gs : List Nat) : Prop := 1 ≤ gs.length ∧ (∀ i, i < gs.length → gs.getD i 0 = n / 10 ^ (19 * i) % 10 ^ 19) ∧ n < 10 ^ (19 * gs.length) ∧ (gs.length = 1 ∨ 10 ^ (19 * (gs.length - 1)) ≤ n)
theorem Gs.lt {n : Nat} {gs : List Nat} (h : Gs n gs) {i : Nat} (hi : i < gs.length) : gs.getD i 0 < 10 ^ 19 := by
  rw [h.2.1 i hi]; exact Nat.mod_lt _ (by decide)
theorem Gs.last {n : Nat} {gs : List Nat} (h : Gs n gs) : gs.getD (gs.length - 1) 0 = n / 10 ^ (19 * (gs.length - 1)) := by
  rw [h.2.1 _ (by have := h.1; omega)]
  refine Nat.mod_eq_of_lt (Nat.div_lt_of_lt_mul ?_)
  rw [← Nat.pow_add]
  have := h.1
  rw [show 19 * (gs.length - 1) + 19 = 19 * gs.length by omega]
  exact h.2.2.1
theorem Gs.nd {n K : Nat} {gs : List Nat} (h : Gs n gs) (h1 : 1 ≤ K) (h2 : gs.getD (gs.length - 1) 0 < 10 ^ K) (h3 : K = 1 ∨ 10 ^ (K - 1) ≤ gs.getD (gs.length - 1) 0) : K + 19 * (gs.length - 1) = nd n := by
  rw [h.last] at h2 h3
  have hp : 0 < 10 ^ (19 * (gs.length - 1)) := Nat.pow_pos (by decide)
  refine nd_unique (by omega) ?_ ?_
  · rw [Nat.pow_add]
    exact (Nat.div_lt_iff_lt_mul hp).1 h2
  · rcases h3 with h3 | h3
    · subst h3
      rcases h.2.2.2 with h4 | h4
      · left; rw [h4]
      · right; rw [show 1 + 19 * (gs.length - 1) - 1 = 19 * (gs.length - 1) by omega]; exact h4
    · right
      rw [show K + 19 * (gs.length - 1) - 1 = (K - 1) + 19 * (gs.length - 1) by omega, Nat.pow_add]
      exact (Nat.le_div_iff_mul_le hp).1 h3
theorem Gs.dig {n i k : Nat} {gs : List Nat} (h : Gs n gs) (hi : i < gs.length) (hk : k < 19) : digAt (gs.getD i 0) k = digAt n (19 * i + k) := by
  rw [h.2.1 i hi, digAt_mod _ _ _ hk, digAt_div]
theorem Gs.one {n : Nat} (h : n < 10 ^ 19) : Gs n [n] := by
  refine ⟨Nat.le_refl _, fun i hi => ?_, by simpa using h, .inl rfl⟩
  have : i = 0 := by simpa using hi
  subst this
  simp [Nat.mod_eq_of_lt h]
end Go.Proofs.Ytjjomjjgoceklaa
