/- plain mathematics: convex shapes -/
namespace Go.Proofs.YtljmhejljpfaiaaGreat
set_option maxRecDepth 100000
/-- twice the area of a triangle, with its sign -/
def D3 (p q r : Int × Int) : Int := (q.1 - p.1) * (r.2 - p.2) - (r.1 - p.1) * (q.2 - p.2)
theorem D3_rot (p q r : Int × Int) : D3 p q r = D3 q r p := by
  unfold D3; simp only [Int.sub_mul, Int.mul_sub]
  rw [Int.mul_comm q.1 r.2, Int.mul_comm p.1 r.2, Int.mul_comm q.1 p.2, Int.mul_comm r.1 q.2, Int.mul_comm r.1 p.2, Int.mul_comm p.1 q.2, Int.mul_comm p.1 p.2, Int.mul_comm q.1 q.2]
  omega
theorem D3_swap (p q r : Int × Int) : D3 p r q = -D3 p q r := by unfold D3; omega
theorem D3_same (p q : Int × Int) : D3 p q q = 0 := by unfold D3; omega
theorem D3_same0 (p q : Int × Int) : D3 p p q = 0 := by unfold D3; simp
theorem D3_same1 (p q : Int × Int) : D3 p q p = 0 := by unfold D3; simp
/-- a relation among the products of two vectors of four -/
theorem plucker (a b c d e f g h : Int) : (a * d - b * c) * (e * h - f * g) - (a * f - b * e) * (c * h - d * g) + (a * h - b * g) * (c * f - d * e) = 0 := by
  simp only [Int.sub_mul, Int.mul_sub]
  have e1 : a * d * (e * h) = a * h * (d * e) := by simp only [Int.mul_left_comm, Int.mul_comm]
  have e2 : a * d * (f * g) = a * f * (d * g) := by simp only [Int.mul_left_comm, Int.mul_comm]
  have e3 : b * c * (e * h) = b * e * (c * h) := by simp only [Int.mul_left_comm, Int.mul_comm]
  have e4 : b * c * (f * g) = b * g * (c * f) := by simp only [Int.mul_left_comm, Int.mul_comm]
  have e5 : a * f * (c * h) = a * h * (c * f) := by simp only [Int.mul_left_comm, Int.mul_comm]
  have e6 : b * e * (d * g) = b * g * (d * e) := by simp only [Int.mul_left_comm, Int.mul_comm]
  omega
/-- the relation of five points: four of them seen from the first one -/
theorem D3_four (p x y z t : Int × Int) : D3 p x y * D3 p z t - D3 p x z * D3 p y t + D3 p x t * D3 p y z = 0 := by
  have h := plucker (x.1 - p.1) (x.2 - p.2) (y.1 - p.1) (y.2 - p.2) (z.1 - p.1) (z.2 - p.2) (t.1 - p.1) (t.2 - p.2)
  have e : ∀ u v : Int × Int, D3 p u v = (u.1 - p.1) * (v.2 - p.2) - (u.2 - p.2) * (v.1 - p.1) := fun u v => by unfold D3; rw [Int.mul_comm (v.1 - p.1)]
  rw [e x y, e z t, e x z, e y t, e x t, e y z]
  exact h
theorem neg_of_prods {p q r s t u : Int} (h : p * q - r * s + t * u = 0) (hp : 0 < p) (hq : 0 < q) (hr : r < 0) (ht : t < 0) (hu : u < 0) : s < 0 := by
  have h1 := Int.mul_pos hp hq
  have h2 := Int.mul_pos (show 0 < -t by omega) (show 0 < -u by omega)
  rw [Int.neg_mul_neg] at h2
  rcases Int.lt_or_le s 0 with k | k
  · exact k
  · exfalso
    have h3 := Int.mul_nonneg (show 0 ≤ -r by omega) k
    rw [Int.neg_mul] at h3
    omega
/-- o sees a, b, c, d in this order; a b c and b c d turn left: so do a b d .. -/
theorem D3_abd {o a b c d : Int × Int} (hab : 0 < D3 o a b) (hbc : 0 < D3 o b c) (hbd : 0 < D3 o b d) (h1 : 0 < D3 a b c) (h2 : 0 < D3 b c d) : 0 < D3 a b d := by
  have h := D3_four b o a c d
  have e1 : D3 b o a = D3 o a b := (D3_rot b o a)
  have e2 : D3 b o c = -D3 o b c := by rw [← D3_swap, D3_rot o c b, D3_rot c b o]
  have e3 : D3 b o d = -D3 o b d := by rw [← D3_swap, D3_rot o d b, D3_rot d b o]
  have e4 : D3 b a c = -D3 a b c := by rw [← D3_swap, D3_rot a c b, D3_rot c b a]
  have e5 : D3 b a d = -D3 a b d := by rw [← D3_swap, D3_rot a d b, D3_rot d b a]
  have := neg_of_prods h (by rw [e1]; exact hab) h2 (by rw [e2]; omega) (by rw [e3]; omega) (by rw [e4]; omega)
  rw [e5] at this
  omega
/-- .. and a c d -/
theorem D3_acd {o a b c d : Int × Int} (hac : 0 < D3 o a c) (hbc : 0 < D3 o b c) (hcd : 0 < D3 o c d) (h1 : 0 < D3 a b c) (h2 : 0 < D3 b c d) : 0 < D3 a c d := by
  have h := D3_four c d o a b
  -- seen from c: d, o, a, b
  have e1 : D3 c d o = D3 o c d := by rw [← D3_rot]
  have e2 : D3 c a b = D3 a b c := by rw [D3_rot]
  have e3 : D3 c d a = D3 a c d := by rw [← D3_rot]
  have e4 : D3 c o b = D3 o b c := by rw [D3_rot]
  have e5 : D3 c d b = D3 b c d := by rw [← D3_rot]
  have e6 : D3 c o a = D3 o a c := by rw [D3_rot]
  rw [e1, e2, e3, e4, e5, e6] at h
  have p1 := Int.mul_pos hcd h1
  have p2 := Int.mul_pos h2 hac
  rcases Int.lt_or_le 0 (D3 a c d) with k | k
  · exact k
  · exfalso
    have p3 := Int.mul_nonneg (show 0 ≤ -D3 a c d by omega) (show 0 ≤ D3 o b c by omega)
    rw [Int.neg_mul] at p3
    omega
/-- what follows one behind the other in an upper half, is in order -/
theorem cross_trans {ux uz vx vz wx wz : Int} (hu : 0 ≤ uz) (hv : 0 ≤ vz) (hw : 0 < wz) (h1 : 0 < ux * vz - vx * uz) (h2 : 0 < vx * wz - wx * vz) : 0 < ux * wz - wx * uz := by
  have e : vz * (ux * wz - wx * uz) = wz * (ux * vz - vx * uz) + uz * (vx * wz - wx * vz) := by
    simp only [Int.mul_sub]
    have e1 : vz * (ux * wz) = wz * (ux * vz) := by simp only [Int.mul_left_comm, Int.mul_comm]
    have e2 : vz * (wx * uz) = uz * (wx * vz) := by simp only [Int.mul_left_comm, Int.mul_comm]
    have e3 : wz * (vx * uz) = uz * (vx * wz) := by simp only [Int.mul_left_comm, Int.mul_comm]
    omega
  rcases Int.lt_or_le 0 vz with k | k
  · have p1 := Int.mul_pos hw h1
    have p2 := Int.mul_nonneg hu (show 0 ≤ vx * wz - wx * vz by omega)
    rcases Int.lt_or_le 0 (ux * wz - wx * uz) with q | q
    · exact q
    · exfalso
      have p3 := Int.mul_nonneg (show 0 ≤ vz by omega) (show 0 ≤ -(ux * wz - wx * uz) by omega)
      rw [Int.mul_neg] at p3
      omega
  · exfalso
    obtain rfl : vz = 0 := by omega
    simp only [Int.mul_zero, Int.zero_sub, Int.sub_zero] at h1 h2
    have hvx : 0 < vx := by
      rcases Int.lt_or_le 0 vx with q | q
      · exact q
      · have := Int.mul_nonneg (show 0 ≤ -vx by omega) (show 0 ≤ wz by omega)
        rw [Int.neg_mul] at this
        omega
    have := Int.mul_nonneg (show 0 ≤ vx by omega) hu
    omega

/-- the point with an index -/
def pt (l : List (Int × Int)) (i : Nat) : Int × Int := l.getD i (0, 0)
/-- the program's test of a shape that is not below its first corner -/
def Cv (l : List (Int × Int)) : Prop := ∀ i, i < l.length → 0 < D3 (pt l i) (pt l ((i + 1) % l.length)) (pt l (((i + 1) % l.length + 1) % l.length)) ∧
  (0 < i → i < l.length - 1 → 0 < D3 (pt l 0) (pt l i) (pt l ((i + 1) % l.length)))
/-- the reference's -/
def Cr (l : List (Int × Int)) : Prop := ∀ i k, i < l.length → k < l.length → k ≠ i → k ≠ (i + 1) % l.length → 0 < D3 (pt l i) (pt l ((i + 1) % l.length)) (pt l k)
/-- all triples turn left -/
def Tr (l : List (Int × Int)) : Prop := ∀ i j k, i < j → j < k → k < l.length → 0 < D3 (pt l i) (pt l j) (pt l k)
/-- no corner lies below the first one, and the last one lies above it -/
def Up (l : List (Int × Int)) : Prop := (∀ i, i < l.length → (pt l 0).2 ≤ (pt l i).2) ∧ (pt l 0).2 < (pt l (l.length - 1)).2

theorem Cv.up {l : List (Int × Int)} (h : Cv l) (hu : Up l) {k : Nat} (hk : 2 ≤ k) (hn : k < l.length) : (pt l 0).2 < (pt l k).2 := by
  by_cases he : k = l.length - 1
  · rw [he]; exact hu.2
  · have h0 := hu.1 k hn
    have h1 := (h (k - 1) (by omega)).2 (by omega) (by omega)
    have h2 := (h k hn).2 (by omega) (by omega)
    rw [Nat.mod_eq_of_lt (by omega), show k - 1 + 1 = k by omega] at h1
    rw [Nat.mod_eq_of_lt (by omega)] at h2
    have h3 := hu.1 (k - 1) (by omega)
    have h4 := hu.1 (k + 1) (by omega)
    rcases Int.lt_or_le (pt l 0).2 (pt l k).2 with q | q
    · exact q
    · exfalso
      have e : (pt l k).2 - (pt l 0).2 = 0 := by omega
      unfold D3 at h1 h2
      rw [e] at h1 h2
      simp only [Int.mul_zero, Int.zero_sub, Int.sub_zero] at h1 h2
      rcases Int.lt_or_le ((pt l k).1 - (pt l 0).1) 0 with r | r
      · have := Int.mul_nonneg (show 0 ≤ -((pt l k).1 - (pt l 0).1) by omega) (show 0 ≤ (pt l (k + 1)).2 - (pt l 0).2 by omega)
        rw [Int.neg_mul] at this
        omega
      · have := Int.mul_nonneg r (show 0 ≤ (pt l (k - 1)).2 - (pt l 0).2 by omega)
        omega
theorem Cv.fan {l : List (Int × Int)} (h : Cv l) (hu : Up l) {j : Nat} (hj : 0 < j) : ∀ k, j < k → k < l.length → 0 < D3 (pt l 0) (pt l j) (pt l k) := by
  intro k
  induction k with
  | zero => intro h; omega
  | succ k ih =>
    intro h1 h2
    have h3 := (h k (by omega)).2
    by_cases e : k = j
    · subst e
      have := h3 hj (by omega)
      rwa [Nat.mod_eq_of_lt h2] at this
    · have h4 := h3 (by omega) (by omega)
      rw [Nat.mod_eq_of_lt h2] at h4
      exact cross_trans (by have := hu.1 j (by omega); omega) (by have := hu.1 k (by omega); omega) (by have := h.up hu (k := k + 1) (by omega) h2; omega) (ih (by omega) (by omega)) h4
theorem Cv.tr {l : List (Int × Int)} (h : Cv l) (hu : Up l) : Tr l := by
  have key : ∀ m a b d, d - a ≤ m → 0 < a → a < b → b < d → d < l.length → 0 < D3 (pt l a) (pt l b) (pt l d) := by
    intro m
    induction m with
    | zero => intro a b d h1 h2 h3 h4; omega
    | succ m ih =>
      intro a b d hm h1 h2 h3 h4
      by_cases e : b = a + 1
      · subst e
        by_cases e2 : d = a + 2
        · subst e2
          have := (h a (by omega)).1
          rwa [Nat.mod_eq_of_lt (a := a + 1) (by omega), Nat.mod_eq_of_lt (a := a + 1 + 1) (by omega)] at this
        · exact D3_abd (o := pt l 0) (c := pt l (d - 1)) (h.fan hu h1 _ (by omega) (by omega)) (h.fan hu (by omega) _ (by omega) (by omega)) (h.fan hu (by omega) _ (by omega) h4)
            (ih a (a + 1) (d - 1) (by omega) h1 (by omega) (by omega) (by omega)) (ih (a + 1) (d - 1) d (by omega) (by omega) (by omega) (by omega) h4)
      · exact D3_acd (o := pt l 0) (b := pt l (a + 1)) (h.fan hu h1 _ (by omega) (by omega)) (h.fan hu (by omega) _ (by omega) (by omega)) (h.fan hu (by omega) _ h3 h4)
          (ih a (a + 1) b (by omega) h1 (by omega) (by omega) (by omega)) (ih (a + 1) b d (by omega) (by omega) (by omega) h3 h4)
  intro i j k h1 h2 h3
  by_cases e : i = 0
  · subst e; exact h.fan hu h1 k h2 h3
  · exact key _ i j k (Nat.le_refl _) (by omega) h1 h2 h3
theorem Tr.cr {l : List (Int × Int)} (h : Tr l) (h3 : 3 ≤ l.length) : Cr l := by
  intro i k hi hk h1 h2
  by_cases e : i = l.length - 1
  · have e0 : (i + 1) % l.length = 0 := by rw [e, show l.length - 1 + 1 = l.length by omega, Nat.mod_self]
    rw [e0] at h2 ⊢
    rw [D3_rot]
    exact h 0 k i (by omega) (by omega) hi
  · have e0 : (i + 1) % l.length = i + 1 := Nat.mod_eq_of_lt (by omega)
    rw [e0] at h2 ⊢
    rcases Nat.lt_or_ge k i with q | q
    · rw [D3_rot, D3_rot]
      exact h k i (i + 1) q (by omega) (by omega)
    · exact h i (i + 1) k (by omega) (by omega) hk
theorem Cr.cv {l : List (Int × Int)} (h : Cr l) (h3 : 3 ≤ l.length) : Cv l := by
  intro i hi
  have m : ∀ x, x < l.length → ((x + 1) % l.length = x + 1 ∧ x + 1 < l.length) ∨ (x = l.length - 1 ∧ (x + 1) % l.length = 0) := by
    intro x hx
    by_cases e : x = l.length - 1
    · right; exact ⟨e, by rw [e, show l.length - 1 + 1 = l.length by omega, Nat.mod_self]⟩
    · left; exact ⟨Nat.mod_eq_of_lt (by omega), by omega⟩
  have hi1 : (i + 1) % l.length < l.length := Nat.mod_lt _ (by omega)
  constructor
  · refine h i _ hi (Nat.mod_lt _ (by omega)) ?_ ?_
    · rcases m i hi with ⟨a, b⟩ | ⟨a, b⟩ <;> rcases m _ hi1 with ⟨c, d⟩ | ⟨c, d⟩ <;> omega
    · rcases m _ hi1 with ⟨c, d⟩ | ⟨c, d⟩ <;> omega
  · intro h0 h1
    rw [D3_rot]
    exact h i 0 hi (by omega) (by omega) (by rw [Nat.mod_eq_of_lt (by omega)]; omega)
end Go.Proofs.YtljmhejljpfaiaaGreat
