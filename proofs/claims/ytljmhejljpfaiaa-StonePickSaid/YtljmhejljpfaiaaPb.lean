import Derived.Test.YtljmhejljpfaiaaPa
namespace Go.Proofs.Ytljmhejljpfaiaa
open Go.RowKit Go.Shelf

/-! plain mathematics: Pick's theorem for a convex shape with corners (x k, z k), k < n -/
structure Cx (x z : Nat → Int) (n : Nat) : Prop where
  n3 : 3 ≤ n
  xn : x n = x 0
  zn : z n = z 0
  nn : ∀ k m, k < n → m ≤ n → 0 ≤ Dk x z k (x m) (z m)
  ps : ∀ k m, k < n → m < n → m ≠ k → m ≠ k + 1 → ¬ (k + 1 = n ∧ m = 0) → 0 < Dk x z k (x m) (z m)
  z0 : z 0 = 0
  zl : 0 < z (n - 1)
  zp : ∀ k, 2 ≤ k → k < n → 0 < z k
  z1 : 0 ≤ z 1
  bx : ∀ k, 0 ≤ x k ∧ x k ≤ 60
  bz : ∀ k, 0 ≤ z k ∧ z k ≤ 60
/-- the top corner -/
structure Tp (z : Nat → Int) (n t : Nat) : Prop where
  t1 : 1 ≤ t
  tn : t < n
  up : ∀ k, k < t → z k ≤ z (k + 1)
  us : ∀ k, 1 ≤ k → k < t → z k < z (k + 1)
  dn : ∀ k, t ≤ k → k < n → z (k + 1) ≤ z k
  ds : ∀ k, t < k → k < n → z (k + 1) < z k
  tp : 0 < z t
theorem kpos_of {h X : Int} (hh : 0 < h) (hX : 0 < h * X) : 0 < X := by
  rcases Int.lt_or_le 0 X with q | q
  · exact q
  · have := Int.mul_nonneg (show 0 ≤ h by omega) (show 0 ≤ -X by omega)
    rw [Int.mul_neg] at this
    omega
theorem Cx.step {x z : Nat → Int} {n : Nat} (h : Cx x z n) {i : Nat} (h1 : 1 ≤ i) (hi : i + 1 < n) (hz : z (i + 1) ≤ z i) : z (i + 2) < z (i + 1) := by
  have a1 := h.ps i 0 (by omega) (by omega) (by omega) (by omega) (by omega)
  have a2 := h.nn (i + 1) 0 hi (by omega)
  have a3 : 0 < Dk x z i (x (i + 2)) (z (i + 2)) := by
    rcases Nat.lt_or_ge (i + 2) n with q | q
    · exact h.ps i (i + 2) (by omega) q (by omega) (by omega) (by omega)
    · obtain rfl : n = i + 2 := by omega
      rw [h.xn, h.zn]; exact a1
  have z0 := h.z0
  have z1 := h.zp (i + 1) (by omega) hi
  rcases Int.lt_or_le (z (i + 2)) (z (i + 1)) with q | q
  · exact q
  · exfalso
    have p1 := Int.mul_nonneg (show 0 ≤ z (i + 2) - z (i + 1) by omega) (show 0 ≤ Dk x z i (x 0) (z 0) by omega)
    have p2 := Int.mul_pos (show 0 < z (i + 1) - z 0 by omega) a3
    have p3 := Int.mul_nonneg (show 0 ≤ z i - z (i + 1) by omega) a2
    have id : (z (i + 2) - z (i + 1)) * Dk x z i (x 0) (z 0) + (z (i + 1) - z 0) * Dk x z i (x (i + 2)) (z (i + 2)) + (z i - z (i + 1)) * Dk x z (i + 1) (x 0) (z 0) = 0 := by
      unfold Dk; grind
    omega
theorem Cx.first {x z : Nat → Int} {n : Nat} (h : Cx x z n) : ∀ m, (∀ k, 1 ≤ k → k < m → z k < z (k + 1)) ∨ ∃ t, 1 ≤ t ∧ t < m ∧ (∀ k, 1 ≤ k → k < t → z k < z (k + 1)) ∧ z (t + 1) ≤ z t
  | 0 => .inl fun k _ h => by omega
  | m + 1 => by
    rcases h.first m with q | ⟨t, h1, h2, h3, h4⟩
    · rcases Int.lt_or_le (z m) (z (m + 1)) with r | r
      · refine .inl fun k h1 h2 => ?_
        rcases Nat.lt_or_ge k m with e | e
        · exact q k h1 e
        · obtain rfl : k = m := by omega
          exact r
      · rcases Nat.eq_zero_or_pos m with e | e
        · subst e; exact .inl fun k h1 h2 => by omega
        · exact .inr ⟨m, e, by omega, q, r⟩
    · exact .inr ⟨t, h1, by omega, h3, h4⟩
theorem Cx.top {x z : Nat → Int} {n : Nat} (h : Cx x z n) : ∃ t, Tp z n t := by
  have n3 := h.n3
  rcases h.first n with q | ⟨t, h1, h2, h3, h4⟩
  · have := q (n - 1) (by omega) (by omega)
    rw [show n - 1 + 1 = n by omega, h.zn, h.z0] at this
    have := h.zl
    omega
  · have hd : ∀ j, t + j + 1 < n → z (t + j + 2) < z (t + j + 1) := fun j => by
      induction j with
      | zero => exact fun hj => h.step h1 hj h4
      | succ j ih => exact fun hj => h.step (i := t + j + 1) (by omega) hj (by have := ih (by omega); show z (t + j + 2) ≤ _; omega)
    have ds : ∀ k, t < k → k < n → z (k + 1) < z k := fun k hk hn => by
      have := hd (k - t - 1) (by omega)
      rw [show t + (k - t - 1) + 2 = k + 1 by omega, show t + (k - t - 1) + 1 = k by omega] at this
      exact this
    refine ⟨t, h1, h2, fun k hk => ?_, h3, fun k hk hn => ?_, ds, ?_⟩
    · rcases Nat.eq_zero_or_pos k with e | e
      · subst e; rw [h.z0]; exact h.z1
      · have := h3 k e hk; omega
    · rcases Nat.eq_or_lt_of_le hk with e | e
      · subst e; exact h4
      · have := ds k e hn; omega
    · rcases Nat.lt_or_ge t 2 with e | e
      · obtain rfl : t = 1 := by omega
        have : 0 < z (1 + 1) := h.zp 2 (by omega) (by omega)
        omega
      · exact h.zp t e h2
theorem rise_iff {x z : Nat → Int} {k : Nat} {a b : Int} (hz : z k < z (k + 1)) : 0 < Dk x z k a b ↔ a < -fl x z k b := by
  have e : ((z (k + 1) - z k).natAbs : Int) = z (k + 1) - z k := by omega
  rw [Dk_nu]; unfold fl
  rw [e]
  have := Int.ediv_lt_iff_lt_mul (a := -nu x z k b) (b := -a) (c := z (k + 1) - z k) (by omega)
  rw [Int.neg_mul] at this
  constructor
  · intro h
    have := this.2 (by omega); omega
  · intro h
    have := this.1 (by omega); omega
theorem fall_iff {x z : Nat → Int} {k : Nat} {a b : Int} (hz : z (k + 1) < z k) : 0 < Dk x z k a b ↔ fl x z k b < a := by
  have e : ((z (k + 1) - z k).natAbs : Int) = z k - z (k + 1) := by omega
  rw [Dk_nu]; unfold fl
  rw [e]
  have := Int.ediv_lt_iff_lt_mul (a := -nu x z k b) (b := a) (c := z k - z (k + 1)) (by omega)
  have e2 : a * (z (k + 1) - z k) = -(a * (z k - z (k + 1))) := by rw [← Int.mul_neg]; congr 1; omega
  rw [e2]
  constructor
  · intro h
    exact this.2 (by omega)
  · intro h
    have := this.1 h; omega
/-- a row strictly between bottom and top: the rising and the falling edge in it tell what lies inside -/
theorem Cx.row {x z : Nat → Int} {n t : Nat} (h : Cx x z n) (T : Tp z n t) {b : Int} (hb : 0 < b) (hbt : b < z t) {i j : Nat} (hi : i < t) (i1 : z i ≤ b) (i2 : b < z (i + 1)) (hj : t ≤ j) (hjn : j < n) (j1 : z (j + 1) ≤ b) (j2 : b < z j) :
    (∀ a, (∀ k, k < n → 0 < Dk x z k a b) ↔ (fl x z j b < a ∧ a < -fl x z i b)) ∧ 0 ≤ fl x z j b ∧ -fl x z i b ≤ 60 ∧ fl x z j b < -fl x z i b := by
  have n3 := h.n3
  have htn := T.tn
  have hz0 := h.z0
  refine ⟨fun a => ⟨fun hall => ⟨(fall_iff (by omega)).1 (hall j hjn), (rise_iff (by omega)).1 (hall i (by omega))⟩, fun ⟨ha, hc⟩ k hk => ?_⟩, ?_, ?_, ?_⟩
  · have dj : 0 < Dk x z j a b := (fall_iff (by omega)).2 ha
    have di : 0 < Dk x z i a b := (rise_iff (by omega)).2 hc
    rcases Int.lt_trichotomy (z k) (z (k + 1)) with q | q | q
    · refine kpos_of (h := z (i + 1) - z i) (by omega) ?_
      have p1 := Int.mul_nonneg (show 0 ≤ z (i + 1) - b by omega) (h.nn k i hk (by omega))
      have p2 := Int.mul_nonneg (show 0 ≤ b - z i by omega) (h.nn k (i + 1) hk (by omega))
      have p3 := Int.mul_pos (show 0 < z (k + 1) - z k by omega) di
      have id : (z (i + 1) - z i) * Dk x z k a b = (z (i + 1) - b) * Dk x z k (x i) (z i) + (b - z i) * Dk x z k (x (i + 1)) (z (i + 1)) + (z (k + 1) - z k) * Dk x z i a b := by unfold Dk; grind
      omega
    · have e : Dk x z k a b = (x (k + 1) - x k) * (b - z k) := by unfold Dk; rw [q, Int.sub_self, Int.mul_zero]; omega
      have et : Dk x z k (x t) (z t) = (x (k + 1) - x k) * (z t - z k) := by unfold Dk; rw [q, Int.sub_self, Int.mul_zero]; omega
      have e0 : Dk x z k (x 0) (z 0) = (x (k + 1) - x k) * (z 0 - z k) := by unfold Dk; rw [q, Int.sub_self, Int.mul_zero]; omega
      have ht := h.nn k t hk (by omega)
      rw [et] at ht
      rw [e]
      rcases Nat.eq_zero_or_pos k with k0 | k0
      · subst k0
        refine Int.mul_pos ?_ (by omega)
        have hp := h.ps 0 2 hk (by omega) (by omega) (by omega) (by omega)
        have e2 : Dk x z 0 (x 2) (z 2) = (x (0 + 1) - x 0) * (z 2 - z 0) := by unfold Dk; rw [q, Int.sub_self, Int.mul_zero]; omega
        rw [e2, Int.mul_comm] at hp
        exact kpos_of (by have := h.zp 2 (by omega) (by omega); omega) hp
      · have hkn : k + 1 ≠ n := fun en => by
          have hl := h.zl
          rw [en, h.zn, show k = n - 1 by omega] at q
          omega
        have h0 := h.ps k 0 hk (by omega) (by omega) (by omega) (by omega)
        rw [e0] at h0
        have hk0 : 0 < z k := by
          rcases Int.lt_or_le 0 (z k) with r | r
          · exact r
          · have hzk := (h.bz k).1
            have : z k = 0 := by omega
            rw [this, hz0] at h0; simp at h0
        have hd : x (k + 1) - x k < 0 := by
          rcases Int.lt_or_le (x (k + 1) - x k) 0 with r | r
          · exact r
          · have := Int.mul_nonneg r (show 0 ≤ z k - z 0 by omega)
            have e3 : (x (k + 1) - x k) * (z 0 - z k) = -((x (k + 1) - x k) * (z k - z 0)) := by rw [← Int.mul_neg]; congr 1; omega
            omega
        have hzt : z t ≤ z k := by
          rcases Int.lt_or_le (z k) (z t) with r | r
          · have := Int.mul_pos (show 0 < -(x (k + 1) - x k) by omega) (show 0 < z t - z k by omega)
            rw [Int.neg_mul] at this
            omega
          · exact r
        have := Int.mul_pos (show 0 < -(x (k + 1) - x k) by omega) (show 0 < z k - b by omega)
        have e3 : (x (k + 1) - x k) * (b - z k) = -(x (k + 1) - x k) * (z k - b) := by rw [Int.neg_mul, ← Int.mul_neg]; congr 1; omega
        omega
    · refine kpos_of (h := z j - z (j + 1)) (by omega) ?_
      have p1 := Int.mul_nonneg (show 0 ≤ b - z (j + 1) by omega) (h.nn k j hk (by omega))
      have p2 := Int.mul_nonneg (show 0 ≤ z j - b by omega) (h.nn k (j + 1) hk (by omega))
      have p3 := Int.mul_pos (show 0 < z k - z (k + 1) by omega) dj
      have id : (z j - z (j + 1)) * Dk x z k a b = (b - z (j + 1)) * Dk x z k (x j) (z j) + (z j - b) * Dk x z k (x (j + 1)) (z (j + 1)) + (z k - z (k + 1)) * Dk x z j a b := by unfold Dk; grind
      omega
  · unfold fl
    refine Int.ediv_nonneg ?_ (by omega)
    have p1 := Int.mul_nonneg (h.bx j).1 (show 0 ≤ b - z (j + 1) by omega)
    have p2 := Int.mul_nonneg (h.bx (j + 1)).1 (show 0 ≤ z j - b by omega)
    have id : -nu x z j b = x j * (b - z (j + 1)) + x (j + 1) * (z j - b) := by unfold nu; grind
    omega
  · have e : ((z (i + 1) - z i).natAbs : Int) = z (i + 1) - z i := by omega
    have : -60 ≤ fl x z i b := by
      unfold fl
      rw [e]
      refine (Int.le_ediv_iff_mul_le (by omega)).2 ?_
      have p1 := Int.mul_nonneg (show 0 ≤ 60 - x i by have := (h.bx i).2; omega) (show 0 ≤ z (i + 1) - b by omega)
      have p2 := Int.mul_nonneg (show 0 ≤ 60 - x (i + 1) by have := (h.bx (i + 1)).2; omega) (show 0 ≤ b - z i by omega)
      have id : -nu x z i b - -60 * (z (i + 1) - z i) = (60 - x i) * (z (i + 1) - b) + (60 - x (i + 1)) * (b - z i) := by unfold nu; grind
      omega
    omega
  · have e : ((z (i + 1) - z i).natAbs : Int) = z (i + 1) - z i := by omega
    have e' : ((z (j + 1) - z j).natAbs : Int) = z j - z (j + 1) := by omega
    have hQ : 0 < (z (i + 1) - z i) * nu x z j b + (z j - z (j + 1)) * nu x z i b := by
      have id : (z (i + 1) - z i) * nu x z j b + (z j - z (j + 1)) * nu x z i b = (z (i + 1) - b) * Dk x z j (x i) (z i) + (b - z i) * Dk x z j (x (i + 1)) (z (i + 1)) := by unfold Dk nu; grind
      rw [id]
      have n1 := h.nn j i hjn (by omega)
      have n2 := h.nn j (i + 1) hjn (by omega)
      have p1 := Int.mul_nonneg (show 0 ≤ z (i + 1) - b by omega) n1
      have p2 := Int.mul_nonneg (show 0 ≤ b - z i by omega) n2
      by_cases hc : j + 1 = n ∧ i = 0
      · obtain ⟨hc1, rfl⟩ := hc
        have q1 : 0 < Dk x z j (x (0 + 1)) (z (0 + 1)) := h.ps j 1 hjn (by omega) (by omega) (by omega) (by omega)
        have p3 := Int.mul_pos (show 0 < b - z 0 by omega) q1
        omega
      · have := h.ps j i hjn (by omega) (by omega) (by omega) hc
        have p3 := Int.mul_pos (show 0 < z (i + 1) - b by omega) this
        omega
    have q1 := Int.ediv_mul_le (-nu x z j b) (show z j - z (j + 1) ≠ 0 by omega)
    have q2 := Int.ediv_mul_le (-nu x z i b) (show z (i + 1) - z i ≠ 0 by omega)
    have f1 : fl x z j b = (-nu x z j b) / (z j - z (j + 1)) := by unfold fl; rw [e']
    have f2 : fl x z i b = (-nu x z i b) / (z (i + 1) - z i) := by unfold fl; rw [e]
    rw [← f1] at q1
    rw [← f2] at q2
    have r1 := Int.mul_le_mul_of_nonneg_left q1 (show 0 ≤ z (i + 1) - z i by omega)
    have r2 := Int.mul_le_mul_of_nonneg_left q2 (show 0 ≤ z j - z (j + 1) by omega)
    rcases Int.lt_or_le (fl x z j b + fl x z i b) 0 with r | r
    · omega
    · exfalso
      have r3 := Int.mul_nonneg r (Int.mul_nonneg (show 0 ≤ z (i + 1) - z i by omega) (show 0 ≤ z j - z (j + 1) by omega))
      have id : (fl x z j b + fl x z i b) * ((z (i + 1) - z i) * (z j - z (j + 1))) = (z (i + 1) - z i) * (fl x z j b * (z j - z (j + 1))) + (z j - z (j + 1)) * (fl x z i b * (z (i + 1) - z i)) := by grind
      rw [Int.mul_neg] at r1 r2
      omega
theorem Cx.no_low {x z : Nat → Int} {n : Nat} (h : Cx x z n) {a b : Int} (hb : b ≤ 0) (hall : ∀ k, k < n → 0 < Dk x z k a b) : False := by
  have n3 := h.n3
  obtain ⟨m, rfl⟩ : ∃ m, n = m + 1 := ⟨n - 1, by omega⟩
  have a1 := hall m (by omega)
  have a2 := hall 0 (by omega)
  have a3 := h.ps m 1 (by omega) (by omega) (by omega) (by omega) (by omega)
  have xn := h.xn
  have zn := h.zn
  have z0 := h.z0
  have z1 := h.z1
  have zl := h.zl
  rw [show m + 1 - 1 = m by omega] at zl
  have p1 := Int.mul_nonneg z1 (show 0 ≤ Dk x z m a b by omega)
  have p2 := Int.mul_pos zl a2
  have p3 := Int.mul_nonneg (show 0 ≤ -b by omega) (show 0 ≤ Dk x z m (x 1) (z 1) by omega)
  have id : z 1 * Dk x z m a b + z m * Dk x z 0 a b = b * Dk x z m (x 1) (z 1) := by
    unfold Dk
    rw [xn, zn, z0, show 0 + 1 = 1 from rfl]; grind
  rw [Int.neg_mul] at p3
  omega
theorem Cx.no_high {x z : Nat → Int} {n t : Nat} (h : Cx x z n) (T : Tp z n t) {a b : Int} (hb : z t ≤ b) (hall : ∀ k, k < n → 0 < Dk x z k a b) : False := by
  have n3 := h.n3
  have t1 := T.t1
  have tn := T.tn
  have tp := T.tp
  obtain ⟨s, rfl⟩ : ∃ s, t = s + 1 := ⟨t - 1, by omega⟩
  have a1 := hall s (by omega)
  have a2 := hall (s + 1) tn
  have a3 : 0 < Dk x z s (x (s + 2)) (z (s + 2)) := by
    rcases Nat.lt_or_ge (s + 2) n with q | q
    · exact h.ps s (s + 2) (by omega) q (by omega) (by omega) (by omega)
    · obtain rfl : n = s + 2 := by omega
      rw [h.xn, h.zn]
      exact h.ps s 0 (by omega) (by omega) (by omega) (by omega) (by omega)
  have d1 : z s < z (s + 1) := by
    rcases Nat.eq_zero_or_pos s with e | e
    · subst e; rw [h.z0]; exact tp
    · exact T.us s e (by omega)
  have d2 : z (s + 2) ≤ z (s + 1) := T.dn (s + 1) (Nat.le_refl _) tn
  have p1 := Int.mul_nonneg (show 0 ≤ z (s + 1) - z (s + 2) by omega) (show 0 ≤ Dk x z s a b by omega)
  have p2 := Int.mul_pos (show 0 < z (s + 1) - z s by omega) a2
  have p3 := Int.mul_nonneg (show 0 ≤ b - z (s + 1) by omega) (show 0 ≤ Dk x z s (x (s + 2)) (z (s + 2)) by omega)
  have id : (z (s + 1) - z (s + 2)) * Dk x z s a b + (z (s + 1) - z s) * Dk x z (s + 1) a b = -((b - z (s + 1)) * Dk x z s (x (s + 2)) (z (s + 2))) := by
    unfold Dk
    rw [show s + 1 + 1 = s + 2 from rfl]; grind
  omega
/-- whether a point lies inside -/
def insd (x z : Nat → Int) (n : Nat) (a b : Int) : Bool := (List.range n).all fun k => decide (0 < Dk x z k a b)
theorem insd_iff {x z : Nat → Int} {n : Nat} {a b : Int} : insd x z n a b = true ↔ ∀ k, k < n → 0 < Dk x z k a b := by simp [insd]
def inI (x z : Nat → Int) (n : Nat) (a b : Int) : Int := if insd x z n a b then 1 else 0
theorem Cx.row_sum {x z : Nat → Int} {n t : Nat} (h : Cx x z n) (T : Tp z n t) {b : Int} (hb : 0 < b) (hbt : b < z t) :
    rsm (fun a => inI x z n a b) 61 = -1 - rsm (acF z b fun k => fl x z k b) n := by
  have tn := T.tn
  obtain ⟨i, hi, i1, i2, e1⟩ := up_one (b := b) (fun k => fl x z k b) t T.up (by rw [h.z0]; omega) hbt
  obtain ⟨j, hj, j1, j2, e2⟩ := down_one (b := b) (fun k => fl x z k b) t (n - t) (fun k hk => T.dn (t + k) (by omega) (by omega)) hbt (by rw [show t + (n - t) = n by omega, h.zn, h.z0]; omega)
  have hs := rsm_add (acF z b fun k => fl x z k b) t (n - t)
  rw [show t + (n - t) = n by omega] at hs
  rw [hs, e1, e2]
  obtain ⟨r1, r2, r3, r4⟩ := h.row T hb hbt hi i1 i2 (show t ≤ t + j by omega) (by omega) j1 j2
  rw [rsm_congr 61 (g := fun a => if fl x z (t + j) b < (a : Int) ∧ (a : Int) < -fl x z i b then 1 else 0) fun a _ => by
    unfold inI
    have := r1 a
    by_cases hc : insd x z n a b = true
    · rw [if_pos hc, if_pos (this.1 (insd_iff.1 hc))]
    · rw [if_neg hc, if_neg (fun hq => hc (insd_iff.2 (this.2 hq)))]]
  rw [btw_cnt r2]
  omega
end Go.Proofs.Ytljmhejljpfaiaa
