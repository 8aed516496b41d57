import Derived.Test.YtljmhejljpfaiaaPb
namespace Go.Proofs.Ytljmhejljpfaiaa
open Go.RowKit Go.Shelf

/-! Pick's theorem: sums over edges -/
theorem seg_sum (G : Nat → Int) {m M H : Nat} (h1 : m ≤ M) (h2 : M ≤ H) : rsm (fun b => if m ≤ b ∧ b < M then G b else 0) H = rsm (fun j => G (m + j)) (M - m) := by
  have e1 := rsm_add (fun b => if m ≤ b ∧ b < M then G b else 0) M (H - M)
  have e2 := rsm_add (fun b => if m ≤ b ∧ b < M then G b else 0) m (M - m)
  rw [show M + (H - M) = H by omega] at e1
  rw [show m + (M - m) = M by omega] at e2
  rw [e1, e2, ks_zero m (fun i hi => if_neg (by omega)), ks_zero (H - M) (fun i _ => if_neg (by omega)), rsm_congr (M - m) (g := fun j => G (m + j)) (fun i hi => if_pos (by omega))]
  omega
/-- twice the sum of the floors of an edge -/
def Te (x z : Nat → Int) (k : Nat) : Int := -((z (k + 1) - z k) * (x k + x (k + 1))) - ((z (k + 1) - z k).natAbs : Int) + (x (k + 1) - x k) + (Nat.gcd (x (k + 1) - x k).natAbs (z (k + 1) - z k).natAbs : Int)
theorem edge_rows (x z : Nat → Int) {k H : Nat} (h0 : 0 ≤ z k ∧ z k ≤ H) (h1 : 0 ≤ z (k + 1) ∧ z (k + 1) ≤ H) :
    2 * rsm (fun b => acF z b (fun k => fl x z k b) k) H = if z k = z (k + 1) then 0 else Te x z k := by
  rcases Int.lt_trichotomy (z k) (z (k + 1)) with q | q | q
  · obtain ⟨m, hm⟩ := Int.eq_ofNat_of_zero_le h0.1
    obtain ⟨M, hM⟩ := Int.eq_ofNat_of_zero_le h1.1
    have hh : 0 < M - m := by omega
    rw [rsm_congr H (g := fun b => if m ≤ b ∧ b < M then fl x z k b else 0) (fun b _ => by
      unfold acF
      by_cases hc : m ≤ b ∧ b < M
      · rw [if_pos hc, if_pos (by omega)]
      · rw [if_neg hc, if_neg (by omega)]), seg_sum _ (by omega) (by omega), if_neg (by omega)]
    have ed : ((M - m : Nat) : Int) = z (k + 1) - z k := by omega
    have en : (z (k + 1) - z k).natAbs = M - m := by omega
    rw [rsm_congr (M - m) (g := fun j => -x k + ((x k - x (k + 1)) * (j : Int)) / ((M - m : Nat) : Int)) (fun j _ => by
      unfold fl
      rw [en]
      have e : -nu x z k ((m + j : Nat) : Int) = (x k - x (k + 1)) * (j : Int) + (-x k) * ((M - m : Nat) : Int) := by
        have : ((m + j : Nat) : Int) - z k = (j : Int) := by omega
        unfold nu
        rw [this, ed]; grind
      rw [e, Int.add_mul_ediv_right _ _ (by omega)]
      omega)]
    rw [ks_plus, ks_const, Int.mul_add, floor_sum hh]
    unfold Te
    have eg : (x k - x (k + 1)).natAbs = (x (k + 1) - x k).natAbs := by omega
    rw [en, eg, ed]; grind
  · rw [if_pos q, ks_zero H]; rfl
    intro i _
    unfold acF
    rw [if_neg (by omega)]
  · obtain ⟨M, hM⟩ := Int.eq_ofNat_of_zero_le h0.1
    obtain ⟨m, hm⟩ := Int.eq_ofNat_of_zero_le h1.1
    have hh : 0 < M - m := by omega
    rw [rsm_congr H (g := fun b => if m ≤ b ∧ b < M then fl x z k b else 0) (fun b _ => by
      unfold acF
      by_cases hc : m ≤ b ∧ b < M
      · rw [if_pos hc, if_pos (by omega)]
      · rw [if_neg hc, if_neg (by omega)]), seg_sum _ (by omega) (by omega), if_neg (by omega)]
    have ed : ((M - m : Nat) : Int) = z k - z (k + 1) := by omega
    have en : (z (k + 1) - z k).natAbs = M - m := by omega
    rw [rsm_congr (M - m) (g := fun j => x (k + 1) + ((x k - x (k + 1)) * (j : Int)) / ((M - m : Nat) : Int)) (fun j _ => by
      unfold fl
      rw [en]
      have e : -nu x z k ((m + j : Nat) : Int) = (x k - x (k + 1)) * (j : Int) + x (k + 1) * ((M - m : Nat) : Int) := by
        have e1 : ((m + j : Nat) : Int) - z k = (j : Int) - (z k - z (k + 1)) := by omega
        have e2 : z (k + 1) - z k = -(z k - z (k + 1)) := by omega
        unfold nu
        rw [e1, ed, e2]; grind
      rw [e, Int.add_mul_ediv_right _ _ (by omega)]
      omega)]
    rw [ks_plus, ks_const, Int.mul_add, floor_sum hh]
    unfold Te
    have eg : (x k - x (k + 1)).natAbs = (x (k + 1) - x k).natAbs := by omega
    have e2 : z (k + 1) - z k = -(z k - z (k + 1)) := by omega
    rw [en, eg, ed, e2]; grind
/-- what horizontal edges have too much -/
def Ze (x z : Nat → Int) (k : Nat) : Int := if z k = z (k + 1) then (x (k + 1) - x k) + (Nat.gcd (x (k + 1) - x k).natAbs (z (k + 1) - z k).natAbs : Int) else 0
theorem Ze_split (x z : Nat → Int) (k : Nat) : (if z k = z (k + 1) then 0 else Te x z k) + Ze x z k = Te x z k := by
  unfold Ze
  split
  · unfold Te
    have : z (k + 1) - z k = 0 := by omega
    rw [this]; simp
  · omega
theorem Cx.flat {x z : Nat → Int} {n : Nat} (h : Cx x z n) {k : Nat} (k0 : 1 ≤ k) (hk : k < n) (q : z k = z (k + 1)) : Ze x z k = 0 := by
  have n3 := h.n3
  have hz0 := h.z0
  have hkn : k + 1 ≠ n := fun en => by
    have hl := h.zl
    rw [en, h.zn, show k = n - 1 by omega] at q
    omega
  have e0 : Dk x z k (x 0) (z 0) = (x (k + 1) - x k) * (z 0 - z k) := by unfold Dk; rw [q, Int.sub_self, Int.mul_zero]; omega
  have h0 := h.ps k 0 hk (by omega) (by omega) (by omega) (by omega)
  rw [e0] at h0
  have hzk := (h.bz k).1
  have hd : x (k + 1) - x k < 0 := by
    rcases Int.lt_or_le (x (k + 1) - x k) 0 with r | r
    · exact r
    · have := Int.mul_nonneg r (show 0 ≤ z k - z 0 by omega)
      have e3 : (x (k + 1) - x k) * (z 0 - z k) = -((x (k + 1) - x k) * (z k - z 0)) := by rw [← Int.mul_neg]; congr 1; omega
      omega
  unfold Ze
  rw [if_pos q]
  have : (z (k + 1) - z k).natAbs = 0 := by omega
  rw [this, Nat.gcd_zero_right]
  omega
theorem fl_low {x z : Nat → Int} {k : Nat} (hz : z k < z (k + 1)) : fl x z k (z k) = -x k := by
  unfold fl
  have e : ((z (k + 1) - z k).natAbs : Int) = z (k + 1) - z k := by omega
  have e2 : -nu x z k (z k) = (-x k) * (z (k + 1) - z k) := by unfold nu; grind
  rw [e, e2, Int.mul_ediv_cancel _ (by omega)]
theorem fl_low' {x z : Nat → Int} {k : Nat} (hz : z (k + 1) < z k) : fl x z k (z (k + 1)) = x (k + 1) := by
  unfold fl
  have e : ((z (k + 1) - z k).natAbs : Int) = z k - z (k + 1) := by omega
  have e2 : -nu x z k (z (k + 1)) = x (k + 1) * (z k - z (k + 1)) := by unfold nu; grind
  rw [e, e2, Int.mul_ediv_cancel _ (by omega)]
/-- the first, the second and the last one of a sum -/
theorem three_sum (F : Nat → Int) (m : Nat) : rsm F (m + 3) = F 0 + F 1 + rsm (fun i => F (i + 2)) m + F (m + 2) := by
  rw [show m + 3 = m + 2 + 1 from rfl]
  show rsm F (m + 2) + F (m + 2) = _
  rw [rsm_shift, rsm_shift]
  show F 0 + (F 1 + rsm (fun i => F (i + 2)) m) + F (m + 2) = _
  omega
theorem Cx.bottom {x z : Nat → Int} {n : Nat} (h : Cx x z n) : rsm (Ze x z) n = -2 * rsm (acF z 0 fun k => fl x z k 0) n := by
  have n3 := h.n3
  obtain ⟨m, rfl⟩ : ∃ m, n = m + 3 := ⟨n - 3, by omega⟩
  have z0 := h.z0
  have z1 := h.z1
  have z2 := h.zp 2 (by omega) (by omega)
  have zl : 0 < z (m + 2) := h.zl
  have zn : z (m + 3) = 0 := by rw [h.zn, z0]
  have xn := h.xn
  have hm : rsm (fun i => acF z 0 (fun k => fl x z k 0) (i + 2)) m = 0 := ks_zero m fun i hi => by
    unfold acF
    have := h.zp (i + 2) (by omega) (by omega)
    have := h.zp (i + 2 + 1) (by omega) (by omega)
    rw [if_neg (by omega)]
  have hl : acF z 0 (fun k => fl x z k 0) (m + 2) = x 0 := by
    unfold acF
    rw [if_pos (.inr ⟨by show z (m + 3) ≤ 0; omega, zl⟩), ← xn]
    have := fl_low' (x := x) (z := z) (k := m + 2) (by show z (m + 3) < _; omega)
    rw [show m + 2 + 1 = m + 3 from rfl, zn] at this
    exact this
  rw [three_sum (acF z 0 _), hm, hl]
  have hz : ∀ k, 1 ≤ k → k < m + 3 → Ze x z k = 0 := fun k h1 h2 => by
    by_cases q : z k = z (k + 1)
    · exact h.flat h1 h2 q
    · unfold Ze; rw [if_neg q]
  have hs : rsm (Ze x z) (m + 3) = Ze x z 0 := by
    rw [show m + 3 = m + 2 + 1 from rfl, rsm_shift, ks_zero (m + 2) (fun i hi => hz (i + 1) (by omega) (by omega))]; omega
  rw [hs]
  rcases Int.lt_or_le 0 (z 1) with q | q
  · have a0 : acF z 0 (fun k => fl x z k 0) 0 = -x 0 := by
      unfold acF
      rw [if_pos (.inl ⟨by omega, q⟩)]
      have := fl_low (x := x) (z := z) (k := 0) (by show z 0 < z 1; omega)
      rw [z0] at this
      exact this
    have a1 : acF z 0 (fun k => fl x z k 0) 1 = 0 := by
      unfold acF
      rw [if_neg (by show ¬ ((_ ∧ _) ∨ (z 2 ≤ 0 ∧ _)); omega)]
    have a2 : Ze x z 0 = 0 := by
      unfold Ze; rw [if_neg (by show ¬ z 0 = z 1; omega)]
    rw [a0, a1, a2]; omega
  · have q1 : z 1 = 0 := by omega
    have a0 : acF z 0 (fun k => fl x z k 0) 0 = 0 := by
      unfold acF
      rw [if_neg (by show ¬ ((z 0 ≤ 0 ∧ 0 < z 1) ∨ (z 1 ≤ 0 ∧ 0 < z 0)); omega)]
    have a1 : acF z 0 (fun k => fl x z k 0) 1 = -x 1 := by
      unfold acF
      rw [if_pos (.inl ⟨by omega, z2⟩)]
      have := fl_low (x := x) (z := z) (k := 1) (by show z 1 < z 2; omega)
      rw [q1] at this
      exact this
    have hp := h.ps 0 2 (by omega) (by omega) (by omega) (by omega) (by omega)
    have e2 : Dk x z 0 (x 2) (z 2) = z 2 * (x 1 - x 0) := by unfold Dk; rw [show 0 + 1 = 1 from rfl, q1, z0]; grind
    rw [e2] at hp
    have hd := kpos_of z2 hp
    have a2 : Ze x z 0 = 2 * (x 1 - x 0) := by
      unfold Ze
      rw [if_pos (by show z 0 = z 1; omega)]
      have : (z (0 + 1) - z 0).natAbs = 0 := by show (z 1 - z 0).natAbs = 0; omega
      rw [this, Nat.gcd_zero_right]
      show x 1 - x 0 + ((x 1 - x 0).natAbs : Int) = _
      omega
    rw [a0, a1, a2]; omega
/-- the doubled area and the border's points, as sums over edges -/
def twS (x z : Nat → Int) (n : Nat) : Int := rsm (fun k => x k * z (k + 1) - x (k + 1) * z k) n
def bpS (x z : Nat → Int) (n : Nat) : Int := rsm (fun k => (Nat.gcd (x (k + 1) - x k).natAbs (z (k + 1) - z k).natAbs : Int)) n
theorem Cx.edges {x z : Nat → Int} {n t : Nat} (h : Cx x z n) (T : Tp z n t) : rsm (Te x z) n = -twS x z n - 2 * z t + bpS x z n := by
  have e : rsm (Te x z) n = rsm (fun k => (-1 * (x k * z (k + 1) - x (k + 1) * z k) + (-1) * (x (k + 1) * z (k + 1) - x k * z k)) + ((-1) * ((z (k + 1) - z k).natAbs : Int) + ((x (k + 1) - x k) + (Nat.gcd (x (k + 1) - x k).natAbs (z (k + 1) - z k).natAbs : Int)))) n := rsm_congr n fun k _ => by
    unfold Te; grind
  rw [e, ks_plus, ks_plus, ks_plus, ks_plus, ks_times, ks_times, ks_times, ks_tele x, ks_tele (fun k => x k * z k)]
  have hn : rsm (fun k => ((z (k + 1) - z k).natAbs : Int)) n = 2 * z t := by
    have tn := T.tn
    have hs := rsm_add (fun k => ((z (k + 1) - z k).natAbs : Int)) t (n - t)
    rw [show t + (n - t) = n by omega] at hs
    rw [hs]
    have e1 : rsm (fun k => ((z (k + 1) - z k).natAbs : Int)) t = z t - z 0 := by
      rw [← ks_tele z]
      exact rsm_congr t fun k hk => by have := T.up k hk; omega
    have e2 : rsm (fun k => ((z (t + k + 1) - z (t + k)).natAbs : Int)) (n - t) = z t - z n := by
      have := ks_tele (fun k => -z (t + k)) (n - t)
      rw [show t + (n - t) = n by omega, Nat.add_zero] at this
      rw [rsm_congr (n - t) (g := fun k => -z (t + (k + 1)) - -z (t + k)) (fun k hk => by
        have := T.dn (t + k) (by omega) (by omega)
        show ((z (t + k + 1) - z (t + k)).natAbs : Int) = -z (t + k + 1) - -z (t + k)
        omega), this]
      omega
    rw [e1, e2, h.zn, h.z0]; omega
  rw [hn, h.xn, h.zn]
  show -1 * twS x z n + -1 * (x 0 * z 0 - x 0 * z 0) + (-1 * (2 * z t) + (x 0 - x 0 + bpS x z n)) = _
  omega
/-- PICK'S THEOREM -/
theorem Cx.pick {x z : Nat → Int} {n : Nat} (h : Cx x z n) : 2 * rsm (fun b => rsm (fun a => inI x z n a b) 61) 61 + bpS x z n - 2 = twS x z n := by
  obtain ⟨t, T⟩ := h.top
  have tp := T.tp
  obtain ⟨H, hH⟩ := Int.eq_ofNat_of_zero_le (show 0 ≤ z t by omega)
  have hb := (h.bz t).2
  obtain ⟨H', rfl⟩ : ∃ H', H = H' + 1 := ⟨H - 1, by omega⟩
  have tn := T.tn
  have hmax : ∀ k, k ≤ n → z k ≤ z t := fun k hk => by
    rcases Nat.le_total k t with q | q
    · have : ∀ j, j ≤ t → z (t - j) ≤ z t := fun j => by
        induction j with
        | zero => intro _; rw [Nat.sub_zero]; omega
        | succ j ih =>
          intro hj
          have h1 := ih (by omega)
          have h2 := T.up (t - (j + 1)) (by omega)
          rw [show t - (j + 1) + 1 = t - j by omega] at h2
          omega
      have := this (t - k) (by omega)
      rw [show t - (t - k) = k by omega] at this
      exact this
    · have : ∀ j, t + j ≤ n → z (t + j) ≤ z t := fun j => by
        induction j with
        | zero => intro _; rw [Nat.add_zero]; omega
        | succ j ih =>
          intro hj
          have h1 := ih (by omega)
          have h2 := T.dn (t + j) (by omega) (by omega)
          rw [← Nat.add_assoc]; omega
      have := this (k - t) (by omega)
      rw [show t + (k - t) = k by omega] at this
      exact this
  have none : ∀ b : Int, (b ≤ 0 ∨ z t ≤ b) → rsm (fun a => inI x z n a b) 61 = 0 := fun b hb => ks_zero 61 fun a _ => by
    unfold inI
    rw [if_neg]
    intro hc
    rcases hb with q | q
    · exact h.no_low q (insd_iff.1 hc)
    · exact h.no_high T q (insd_iff.1 hc)
  have hs := rsm_add (fun b => rsm (fun a => inI x z n a b) 61) (H' + 1) (61 - (H' + 1))
  rw [show H' + 1 + (61 - (H' + 1)) = 61 by omega, ks_zero (61 - (H' + 1)) (fun i _ => none _ (.inr (by omega)))] at hs
  have hsh := rsm_shift (fun b => rsm (fun a => inI x z n a b) 61) H'
  rw [none ((0 : Nat) : Int) (.inl (by omega))] at hsh
  have hr : rsm (fun i => rsm (fun a => inI x z n a ((i + 1 : Nat) : Int)) 61) H' = rsm (fun i => -1 + -1 * rsm (acF z ((i + 1 : Nat) : Int) fun k => fl x z k ((i + 1 : Nat) : Int)) n) H' := rsm_congr H' fun i hi => by
    rw [h.row_sum T (by omega) (by omega)]; omega
  rw [ks_plus, ks_const, ks_times] at hr
  have hf := rsm_shift (fun b => rsm (acF z (b : Int) fun k => fl x z k (b : Int)) n) H'
  have hsw := ks_swap (fun (b k : Nat) => acF z (b : Int) (fun k => fl x z k (b : Int)) k) n (H' + 1)
  have he : rsm (fun k => 2 * rsm (fun b : Nat => acF z (b : Int) (fun k => fl x z k (b : Int)) k) (H' + 1)) n = rsm (fun k => if z k = z (k + 1) then 0 else Te x z k) n := rsm_congr n fun k hk => by
    exact edge_rows x z ⟨(h.bz k).1, by have := hmax k (by omega); omega⟩ ⟨(h.bz (k + 1)).1, by have := hmax (k + 1) (by omega); omega⟩
  rw [ks_times] at he
  have hz := ks_plus (fun k => if z k = z (k + 1) then 0 else Te x z k) (Ze x z) n
  rw [rsm_congr n (g := Te x z) (fun k _ => Ze_split x z k)] at hz
  have h1 := h.edges T
  have h2 := h.bottom
  have hsw' : rsm (fun b : Nat => rsm (acF z (b : Int) fun k => fl x z k (b : Int)) n) (H' + 1) = rsm (fun k => rsm (fun b : Nat => acF z (b : Int) (fun k => fl x z k (b : Int)) k) (H' + 1)) n := hsw
  rw [hsw'] at hf
  have h3 : rsm (acF z ((0 : Nat) : Int) fun k => fl x z k ((0 : Nat) : Int)) n = rsm (acF z 0 fun k => fl x z k 0) n := rfl
  rw [h3] at hf
  have h4 : ((H' + 1 : Nat) : Int) = (H' : Int) + 1 := by omega
  omega
end Go.Proofs.Ytljmhejljpfaiaa
