import Derived.Test.YtjjomjjgoceklaaGreatWb
import Derived.Test.YtjjomjjgoceklaaGreatKbg
import Derived.Lib.IndexLaws
namespace Go.Proofs.YtjjomjjgoceklaaGreat
set_option maxRecDepth 100000
open Go.RowKit

/-! plain: texts give the numbers again -/
theorem byteAt_mk (l : List UInt8) (i : Nat) : byteAt ⟨l.toArray⟩ i = (l.getD i 0).toNat := by unfold byteAt; simp
theorem padL_get (k n j : Nat) (h : j < k) : (padL k n)[j]? = some (digAt n (k - 1 - j)) := by
  induction k generalizing j with
  | zero => omega
  | succ k ih =>
    cases j with
    | zero => simp [padL]
    | succ j => simp only [padL, List.getElem?_cons_succ]; rw [ih j (by omega), show k + 1 - 1 - (j + 1) = k - 1 - j by omega]
theorem dig_get (k n j : Nat) (h : j < k) : ((digB (padL k n)).getD j 0).toNat = 48 + n / 10 ^ (k - 1 - j) % 10 := by
  unfold digB
  rw [List.getD_eq_getElem?_getD, List.getElem?_map, padL_get k n j h]
  simp only [Option.map_some, Option.getD_some]
  have : (digAt n (k - 1 - j)).val = n / 10 ^ (k - 1 - j) % 10 := rfl
  have h2 := (digAt n (k - 1 - j)).isLt
  simp [this]
  omega
theorem digB_length (l : List (Fin 10)) : (digB l).length = l.length := by simp [digB]
/-- the text of a natural number -/
def ntx (n : Nat) : ByteArray := ⟨(digB (decL n)).toArray⟩
theorem ntx_size (n : Nat) : (ntx n).size = nd n := by
  show (digB (decL n)).toArray.size = _
  rw [List.size_toArray, digB_length, decL_length]
theorem ntx_at (n j : Nat) (h : j < nd n) : byteAt (ntx n) j = 48 + n / 10 ^ (nd n - 1 - j) % 10 := by
  unfold ntx decL
  rw [byteAt_mk, dig_get _ _ _ h]
theorem ntx_dec (n m : Nat) (h : m ≤ nd n) : dec (ntx n) m = n / 10 ^ (nd n - m) := by
  induction m with
  | zero => rw [Nat.sub_zero, Nat.div_eq_of_lt (nd_spec n).1]; rfl
  | succ m ih =>
    simp only [dec]
    rw [ih (by omega), ntx_at n m (by omega), show nd n - m = (nd n - (m + 1)) + 1 by omega, show nd n - 1 - m = nd n - (m + 1) by omega, Nat.pow_succ, ← Nat.div_div_eq_div_mul]
    omega
theorem ntx_all (n : Nat) : dec (ntx n) (ntx n).size = n := by rw [ntx_size, ntx_dec n _ (Nat.le_refl _), Nat.sub_self]; simp
theorem ntx_nat (n : Nat) : NatP (ntx n) := by
  constructor
  · intro j hj
    rw [ntx_size] at hj
    rw [ntx_at n j hj]
    omega
  · by_cases h : nd n = 1 ∧ n = 0
    · left
      obtain ⟨_, rfl⟩ := h
      rw [ByteArray.toList_eq]
      unfold ntx
      rw [decL_small (by decide)]
      rfl
    · right
      have hp := nd_pos n
      refine ⟨by rw [ntx_size]; omega, ?_⟩
      rw [ntx_at n 0 (by omega)]
      rcases (nd_spec n).2 with h1 | h1
      · have h2 := (nd_spec n).1
        rw [h1] at h2 ⊢
        simp
        omega
      · have h2 : 1 ≤ n / 10 ^ (nd n - 1) := (Nat.le_div_iff_mul_le (Nat.pow_pos (by decide))).2 (by omega)
        have h3 : n / 10 ^ (nd n - 1) < 10 := by
          rw [Nat.div_lt_iff_lt_mul (Nat.pow_pos (by decide)), ← Nat.pow_succ', show (nd n - 1).succ = nd n by omega]
          exact (nd_spec n).1
        rw [Nat.sub_zero]
        omega
theorem ntx_pos (n : Nat) : 0 < (ntx n).size := by rw [ntx_size]; exact nd_pos n
theorem txt_nat (n : Nat) : txt (n : Int) = ntx n := by
  unfold txt txtL ntx
  rw [if_neg (by omega), Int.natAbs_natCast]
  rfl
theorem extract_mk (l : List UInt8) (a b : Nat) : (⟨l.toArray⟩ : ByteArray).extract a b = ⟨((l.drop a).take (b - a)).toArray⟩ := by
  apply ByteArray.ext
  rw [ByteArray.data_extract]
  apply Array.ext'
  simp [List.take_drop]
theorem txt_minus {z : Int} (h : z < 0) : txt z = ⟨(45 :: digB (decL z.natAbs)).toArray⟩ := by unfold txt txtL; rw [if_pos h]; rfl
theorem txt_neg_tail {z : Int} (h : z < 0) : (txt z).extract 1 (txt z).size = ntx z.natAbs := by
  rw [txt_minus h, extract_mk]
  unfold ntx
  congr 1
  have : (⟨(45 :: digB (decL z.natAbs)).toArray⟩ : ByteArray).size = (digB (decL z.natAbs)).length + 1 := by
    show (45 :: digB (decL z.natAbs)).toArray.size = _
    simp
  rw [this]
  simp
/-- equal texts, equal numbers -/
theorem txt_inj {y z : Int} (h : txt y = txt z) : y = z := by
  have key : ∀ z : Int, z < 0 → byteAt (txt z) 0 = 45 := fun z h => by rw [txt_minus h, byteAt_mk]; rfl
  have key2 : ∀ z : Int, ¬ z < 0 → byteAt (txt z) 0 ≠ 45 := fun z h => by
    obtain ⟨n, rfl⟩ := Int.eq_ofNat_of_zero_le (Int.not_lt.1 h)
    rw [txt_nat]
    have := (ntx_nat n).1 0 (ntx_pos n)
    omega
  by_cases hy : y < 0
  · by_cases hz : z < 0
    · have e : ntx y.natAbs = ntx z.natAbs := by rw [← txt_neg_tail hy, ← txt_neg_tail hz, h]
      have := congrArg (fun s => dec s s.size) e
      simp only [ntx_all] at this
      omega
    · exact absurd (h ▸ key y hy) (key2 z hz)
  · by_cases hz : z < 0
    · exact absurd (h.symm ▸ key z hz) (key2 y hy)
    · obtain ⟨m, rfl⟩ := Int.eq_ofNat_of_zero_le (Int.not_lt.1 hy)
      obtain ⟨n, rfl⟩ := Int.eq_ofNat_of_zero_le (Int.not_lt.1 hz)
      rw [txt_nat, txt_nat] at h
      have := congrArg (fun s => dec s s.size) h
      simp only [ntx_all] at this
      rw [this]
end Go.Proofs.YtjjomjjgoceklaaGreat
