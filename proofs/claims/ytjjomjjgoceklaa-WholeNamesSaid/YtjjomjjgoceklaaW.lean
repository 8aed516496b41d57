import Derived.Test.YtjjomjjgoceklaaV
namespace Go.Proofs.Ytjjomjjgoceklaa
open Go.RowKit

/-! plain: the sum of two ratios in lowest terms -/
theorem cop_sum {an bn : Int} {p q : Nat} (hp : 0 < p) (ha : Nat.gcd an.natAbs p = 1) :
    Nat.Coprime (an * (q / Nat.gcd p q : Nat) + bn * (p / Nat.gcd p q : Nat)).natAbs (p / Nat.gcd p q) := by
  have hg : 0 < Nat.gcd p q := Nat.gcd_pos_of_pos_left _ hp
  have hpq : Nat.Coprime (q / Nat.gcd p q) (p / Nat.gcd p q) := by
    rw [Nat.coprime_comm]
    exact Nat.coprime_div_gcd_div_gcd hg
  have hap : Nat.Coprime an.natAbs (p / Nat.gcd p q) := Nat.Coprime.coprime_dvd_right (Nat.div_dvd_of_dvd (Nat.gcd_dvd_left p q)) ha
  have h1 : Nat.Coprime (an * (q / Nat.gcd p q : Nat)).natAbs (p / Nat.gcd p q) := by
    rw [Int.natAbs_mul, Int.natAbs_natCast]
    exact Nat.Coprime.mul_left hap hpq
  have h2 : Int.gcd (an * (q / Nat.gcd p q : Nat) + bn * (p / Nat.gcd p q : Nat)) (p / Nat.gcd p q : Nat) = Int.gcd (an * (q / Nat.gcd p q : Nat)) (p / Nat.gcd p q : Nat) := by
    rw [Int.gcd_add_mul_right_left]
  unfold Int.gcd at h2
  rw [Int.natAbs_natCast] at h2
  unfold Nat.Coprime at h1 ⊢
  rw [h2]; exact h1
theorem cop_all {an bn : Int} {p q : Nat} (hp : 0 < p) (hq : 0 < q) (ha : Nat.gcd an.natAbs p = 1) (hb : Nat.gcd bn.natAbs q = 1) (n : Int) (hn : n = an * (q / Nat.gcd p q : Nat) + bn * (p / Nat.gcd p q : Nat)) :
    Nat.gcd (Int.tdiv n (Nat.gcd n.natAbs (Nat.gcd p q) : Nat)).natAbs ((p / Nat.gcd p q) * (q / Nat.gcd n.natAbs (Nat.gcd p q))) = 1 := by
  have hg : 0 < Nat.gcd p q := Nat.gcd_pos_of_pos_left _ hp
  have c1 := cop_sum (bn := bn) (q := q) hp ha
  have c2 := cop_sum (an := bn) (bn := an) (p := q) (q := p) hq hb
  rw [← hn] at c1
  rw [Nat.gcd_comm q p, Int.add_comm, ← hn] at c2
  generalize hgg : Nat.gcd p q = g at *
  have hgq : g ∣ q := by rw [← hgg]; exact Nat.gcd_dvd_right _ _
  have hh : 0 < Nat.gcd n.natAbs g := Nat.gcd_pos_of_pos_right _ hg
  have c3 := Nat.coprime_div_gcd_div_gcd hh
  have hd1 : Nat.gcd n.natAbs g ∣ n.natAbs := Nat.gcd_dvd_left _ _
  have hd2 : Nat.gcd n.natAbs g ∣ g := Nat.gcd_dvd_right _ _
  rw [Int.natAbs_tdiv, Int.natAbs_natCast]
  show Nat.Coprime (n.natAbs / _) _
  generalize Nat.gcd n.natAbs g = h at *
  have hdd : n.natAbs / h ∣ n.natAbs := Nat.div_dvd_of_dvd hd1
  have eq : q / h = (q / g) * (g / h) := by
    obtain ⟨u, rfl⟩ := hd2
    obtain ⟨v, rfl⟩ := hgq
    have hu : 0 < u := by
      rcases Nat.eq_zero_or_pos u with h0 | h0
      · subst h0; simp at hg
      · exact h0
    rw [Nat.mul_div_cancel_left _ hg, Nat.mul_div_cancel_left _ hh, Nat.mul_assoc, Nat.mul_div_cancel_left _ hh, Nat.mul_comm]
  rw [eq]
  exact Nat.Coprime.mul_right (Nat.Coprime.coprime_dvd_left hdd c1) (Nat.Coprime.mul_right (Nat.Coprime.coprime_dvd_left hdd c2) c3)
theorem sum_cross {an bn : Int} {p q : Nat} (hp : 0 < p) (n : Int) (hn : n = an * (q / Nat.gcd p q : Nat) + bn * (p / Nat.gcd p q : Nat)) :
    Int.tdiv n (Nat.gcd n.natAbs (Nat.gcd p q) : Nat) * ((p : Int) * q) = (an * q + bn * p) * (((p / Nat.gcd p q) * (q / Nat.gcd n.natAbs (Nat.gcd p q)) : Nat) : Int) := by
  have hg : 0 < Nat.gcd p q := Nat.gcd_pos_of_pos_left _ hp
  have hgp : Nat.gcd p q ∣ p := Nat.gcd_dvd_left _ _
  have hgq : Nat.gcd p q ∣ q := Nat.gcd_dvd_right _ _
  generalize Nat.gcd p q = g at *
  have hh : 0 < Nat.gcd n.natAbs g := Nat.gcd_pos_of_pos_right _ hg
  have hd1 : ((Nat.gcd n.natAbs g : Nat) : Int) ∣ n := Int.ofNat_dvd_left.2 (Nat.gcd_dvd_left _ _)
  have hd2 : Nat.gcd n.natAbs g ∣ g := Nat.gcd_dvd_right _ _
  generalize Nat.gcd n.natAbs g = h at *
  obtain ⟨m, hm⟩ := hd1
  obtain ⟨u, rfl⟩ := hd2
  obtain ⟨a, rfl⟩ := hgp
  obtain ⟨b, rfl⟩ := hgq
  rw [Nat.mul_div_cancel_left _ hg, Nat.mul_div_cancel_left _ hg] at hn
  rw [Nat.mul_div_cancel_left _ hg, Nat.mul_assoc h u b, Nat.mul_div_cancel_left _ hh]
  have e : Int.tdiv n (h : Int) = m := by rw [hm]; exact Int.mul_tdiv_cancel_left _ (by omega)
  rw [e]
  have e2 : an * (h * (u * b) : Nat) + bn * (h * u * a : Nat) = (h : Int) * u * n := by
    rw [hn]
    simp only [Int.natCast_mul, Int.mul_add]
    ac_rfl
  rw [e2, hm]
  simp only [Int.natCast_mul]
  ac_rfl
end Go.Proofs.Ytjjomjjgoceklaa
