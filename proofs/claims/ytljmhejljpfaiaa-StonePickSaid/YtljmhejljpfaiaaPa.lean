import Derived.Test.YtljmhejljpfaiaaIa
namespace Go.Proofs.Ytljmhejljpfaiaa
open Go.RowKit Go.Shelf

/-! plain mathematics: the points inside of a convex shape -/
theorem ks_plus (f h : Nat → Int) : ∀ k, rsm (fun i => f i + h i) k = rsm f k + rsm h k
  | 0 => rfl
  | k + 1 => by
    have := ks_plus f h k
    show rsm (fun i => f i + h i) k + (f k + h k) = (rsm f k + f k) + (rsm h k + h k)
    omega
theorem ks_times (c : Int) (f : Nat → Int) : ∀ k, rsm (fun i => c * f i) k = c * rsm f k
  | 0 => by show 0 = c * 0; omega
  | k + 1 => by
    have := ks_times c f k
    show rsm (fun i => c * f i) k + c * f k = c * (rsm f k + f k)
    rw [this, Int.mul_add]
theorem ks_tele (f : Nat → Int) : ∀ k, rsm (fun i => f (i + 1) - f i) k = f k - f 0
  | 0 => by show 0 = f 0 - f 0; omega
  | k + 1 => by
    have := ks_tele f k
    show rsm (fun i => f (i + 1) - f i) k + (f (k + 1) - f k) = f (k + 1) - f 0
    omega
theorem ks_zero {f : Nat → Int} : ∀ k, (∀ i, i < k → f i = 0) → rsm f k = 0
  | 0, _ => rfl
  | k + 1, h => by
    show rsm f k + f k = 0
    rw [ks_zero k (fun i hi => h i (by omega)), h k (by omega)]; rfl
theorem ks_const (c : Int) : ∀ k, rsm (fun _ => c) k = k * c
  | 0 => by show 0 = ((0 : Nat) : Int) * c; simp
  | k + 1 => by
    have := ks_const c k
    show rsm (fun _ => c) k + c = ((k + 1 : Nat) : Int) * c
    rw [this]; grind
theorem ks_swap (f : Nat → Nat → Int) (m : Nat) : ∀ n, rsm (fun i => rsm (fun j => f i j) m) n = rsm (fun j => rsm (fun i => f i j) n) m
  | 0 => (ks_zero m fun _ _ => rfl).symm
  | n + 1 => by
    show rsm (fun i => rsm (fun j => f i j) m) n + rsm (fun j => f n j) m = rsm (fun j => rsm (fun i => f i j) n + f n j) m
    rw [ks_plus, ks_swap f m n]
theorem ks_rev (f : Nat → Int) : ∀ n, rsm f n = rsm (fun i => f (n - 1 - i)) n
  | 0 => rfl
  | n + 1 => by
    rw [rsm_shift (fun i => f (n + 1 - 1 - i))]
    show rsm f n + f n = f n + rsm (fun i => f (n - (i + 1))) n
    rw [ks_rev f n]
    have : rsm (fun i => f (n - 1 - i)) n = rsm (fun i => f (n - (i + 1))) n := rsm_congr n fun i _ => by rw [Nat.sub_sub, Nat.add_comm 1 i]
    omega
theorem div_is {y h q : Int} (hh : 0 < h) (h1 : q * h ≤ y) (h2 : y < (q + 1) * h) : y / h = q := by
  have a := (Int.le_ediv_iff_mul_le hh).2 h1
  have b := (Int.ediv_lt_iff_lt_mul hh).2 h2
  omega
/-! how many multiples there are -/
theorem per_one {h : Nat} (hh : 0 < h) (c : Nat) : rsm (fun k => if h ∣ c * h + k then 1 else 0) h = 1 := by
  obtain ⟨m, rfl⟩ : ∃ m, h = m + 1 := ⟨h - 1, by omega⟩
  rw [rsm_shift, ks_zero m]
  · rw [if_pos ⟨c, by rw [Nat.add_zero, Nat.mul_comm]⟩]; rfl
  · intro i hi
    rw [if_neg]
    intro hd
    have := Nat.le_of_dvd (by omega) ((Nat.dvd_add_right ⟨c, Nat.mul_comm _ _⟩).1 hd)
    omega
theorem cnt_mul {h : Nat} (hh : 0 < h) : ∀ g : Nat, rsm (fun k => if h ∣ k then 1 else 0) (g * h) = g
  | 0 => by rw [Nat.zero_mul]; rfl
  | g + 1 => by
    rw [Nat.succ_mul, rsm_add, cnt_mul hh g, per_one hh g]; rfl
theorem cnt_dvd {h : Nat} (hh : 0 < h) (u : Int) : rsm (fun k => if (h : Int) ∣ u * (k : Int) then 1 else 0) h = (Nat.gcd u.natAbs h : Int) := by
  obtain ⟨g, hg⟩ : ∃ g, g = Nat.gcd u.natAbs h := ⟨_, rfl⟩
  have hg0 : 0 < g := by rw [hg]; exact Nat.gcd_pos_of_pos_right _ hh
  obtain ⟨a, ha⟩ : g ∣ u.natAbs := by rw [hg]; exact Nat.gcd_dvd_left _ _
  obtain ⟨b, hb⟩ : g ∣ h := by rw [hg]; exact Nat.gcd_dvd_right _ _
  have hb0 : 0 < b := by rcases Nat.eq_zero_or_pos b with e | e; (rw [e] at hb; simp at hb; omega); exact e
  have hco : Nat.Coprime b a := by
    have h1 : Nat.gcd (g * a) (g * b) = g := by rw [← ha, ← hb]; exact hg.symm
    rw [Nat.gcd_mul_left] at h1
    have h2 : g * Nat.gcd a b = g * 1 := by omega
    have h3 := Nat.eq_of_mul_eq_mul_left hg0 h2
    show Nat.gcd b a = 1
    rw [Nat.gcd_comm]; exact h3
  have key : ∀ k : Nat, ((h : Int) ∣ u * (k : Int)) ↔ b ∣ k := fun k => by
    rw [Int.ofNat_dvd_left, Int.natAbs_mul, ha, hb, Int.natAbs_natCast, Nat.mul_assoc]
    constructor
    · intro hd
      exact hco.dvd_of_dvd_mul_left (Nat.dvd_of_mul_dvd_mul_left hg0 hd)
    · intro hd
      exact Nat.mul_dvd_mul_left g (Nat.dvd_trans hd ⟨a, Nat.mul_comm _ _⟩)
  rw [rsm_congr h (g := fun k => if b ∣ k then 1 else 0) (fun k _ => by simp only [key k])]
  rw [← hg]
  have := cnt_mul hb0 g
  rw [← hb] at this
  exact this
theorem div_neg {h : Int} (hh : 0 < h) (X : Int) : X / h + (-X) / h = if h ∣ X then 0 else -1 := by
  have e := Int.mul_ediv_add_emod X h
  have r0 := Int.emod_nonneg X (show h ≠ 0 by omega)
  have r1 := Int.emod_lt_of_pos X hh
  by_cases hd : h ∣ X
  · rw [if_pos hd]
    have hr := Int.emod_eq_zero_of_dvd hd
    have : (-X) / h = -(X / h) := div_is hh (by grind) (by grind)
    omega
  · rw [if_neg hd]
    have hr : X % h ≠ 0 := fun hr => hd (Int.dvd_of_emod_eq_zero hr)
    have : (-X) / h = -(X / h) - 1 := div_is hh (by grind) (by grind)
    omega
/-- the sum of the floors along an edge -/
theorem floor_sum {h : Nat} (hh : 0 < h) (u : Int) : 2 * rsm (fun k => (u * (k : Int)) / (h : Int)) h = h * u - h - u + (Nat.gcd u.natAbs h : Int) := by
  obtain ⟨m, rfl⟩ : ∃ m, h = m + 1 := ⟨h - 1, by omega⟩
  have hc := cnt_dvd hh u
  rw [rsm_shift] at hc ⊢
  rw [if_pos (by simp)] at hc
  have e0 : u * ((0 : Nat) : Int) / ((m + 1 : Nat) : Int) = 0 := by simp
  rw [e0]
  obtain ⟨G, hG⟩ : ∃ G : Nat → Int, G = fun i => u * ((i + 1 : Nat) : Int) / ((m + 1 : Nat) : Int) := ⟨_, rfl⟩
  rw [← hG]
  have hr := ks_rev G m
  have hp := ks_plus G (fun i => G (m - 1 - i)) m
  have hs : rsm (fun i => G i + G (m - 1 - i)) m = rsm (fun i => (u - 1) + (if ((m + 1 : Nat) : Int) ∣ u * ((i + 1 : Nat) : Int) then 1 else 0)) m := rsm_congr m fun i hi => by
    rw [hG]
    dsimp only
    have e1 : u * ((m - 1 - i + 1 : Nat) : Int) = -(u * ((i + 1 : Nat) : Int)) + u * ((m + 1 : Nat) : Int) := by
      have : ((m - 1 - i + 1 : Nat) : Int) = ((m + 1 : Nat) : Int) - ((i + 1 : Nat) : Int) := by omega
      rw [this]; grind
    rw [e1, Int.add_mul_ediv_right _ _ (show ((m + 1 : Nat) : Int) ≠ 0 by omega)]
    have := div_neg (h := ((m + 1 : Nat) : Int)) (by omega) (u * ((i + 1 : Nat) : Int))
    split at this
    · rw [if_pos ‹_›]; omega
    · rw [if_neg ‹_›]; omega
  have hq := ks_plus (fun _ => u - 1) (fun i => if ((m + 1 : Nat) : Int) ∣ u * ((i + 1 : Nat) : Int) then 1 else 0) m
  rw [ks_const] at hq
  rw [hp, hq] at hs
  have : ((m + 1 : Nat) : Int) = (m : Int) + 1 := by omega
  rw [this]
  grind
/-! rows -/
def Dk (x z : Nat → Int) (k : Nat) (a b : Int) : Int := (x (k + 1) - x k) * (b - z k) - (a - x k) * (z (k + 1) - z k)
def nu (x z : Nat → Int) (k : Nat) (b : Int) : Int := x k * (z (k + 1) - z k) + (x (k + 1) - x k) * (b - z k)
theorem Dk_nu (x z : Nat → Int) (k : Nat) (a b : Int) : Dk x z k a b = nu x z k b - a * (z (k + 1) - z k) := by unfold Dk nu; grind
def fl (x z : Nat → Int) (k : Nat) (b : Int) : Int := (-nu x z k b) / ((z (k + 1) - z k).natAbs : Int)
def acF (z : Nat → Int) (b : Int) (F : Nat → Int) (k : Nat) : Int := if (z k ≤ b ∧ b < z (k + 1)) ∨ (z (k + 1) ≤ b ∧ b < z k) then F k else 0
theorem up_none {z : Nat → Int} {b : Int} (F : Nat → Int) : ∀ t, (∀ k, k < t → z k ≤ z (k + 1)) → z t ≤ b → rsm (acF z b F) t = 0
  | 0, _, _ => rfl
  | t + 1, h, hb => by
    have h1 := h t (by omega)
    show rsm (acF z b F) t + acF z b F t = 0
    rw [up_none F t (fun k hk => h k (by omega)) (by omega)]
    unfold acF
    rw [if_neg (by omega)]; rfl
theorem up_one {z : Nat → Int} {b : Int} (F : Nat → Int) : ∀ t, (∀ k, k < t → z k ≤ z (k + 1)) → z 0 ≤ b → b < z t → ∃ i, i < t ∧ z i ≤ b ∧ b < z (i + 1) ∧ rsm (acF z b F) t = F i
  | 0, _, h0, h1 => by omega
  | t + 1, h, h0, h1 => by
    rcases Int.lt_or_le b (z t) with q | q
    · obtain ⟨i, h2, h3, h4, h5⟩ := up_one F t (fun k hk => h k (by omega)) h0 q
      have h6 := h t (by omega)
      refine ⟨i, by omega, h3, h4, ?_⟩
      show rsm (acF z b F) t + acF z b F t = _
      rw [h5]
      unfold acF
      rw [if_neg (by omega)]; omega
    · refine ⟨t, by omega, q, h1, ?_⟩
      show rsm (acF z b F) t + acF z b F t = _
      rw [up_none F t (fun k hk => h k (by omega)) q]
      unfold acF
      rw [if_pos (by omega)]; omega
theorem down_none {z : Nat → Int} {b : Int} (F : Nat → Int) (s : Nat) : ∀ m, (∀ k, k < m → z (s + k + 1) ≤ z (s + k)) → b < z (s + m) → rsm (fun k => acF z b F (s + k)) m = 0
  | 0, _, _ => rfl
  | m + 1, h, hb => by
    have h1 := h m (by omega)
    show rsm (fun k => acF z b F (s + k)) m + acF z b F (s + m) = 0
    rw [down_none F s m (fun k hk => h k (by omega)) (by rw [← Nat.add_assoc] at hb; omega)]
    rw [← Nat.add_assoc] at hb
    unfold acF
    rw [if_neg (by omega)]; rfl
theorem down_one {z : Nat → Int} {b : Int} (F : Nat → Int) (s : Nat) : ∀ m, (∀ k, k < m → z (s + k + 1) ≤ z (s + k)) → b < z s → z (s + m) ≤ b → ∃ j, j < m ∧ z (s + j + 1) ≤ b ∧ b < z (s + j) ∧ rsm (fun k => acF z b F (s + k)) m = F (s + j)
  | 0, _, h0, h1 => by rw [Nat.add_zero] at h1; omega
  | m + 1, h, h0, h1 => by
    rw [← Nat.add_assoc] at h1
    rcases Int.lt_or_le b (z (s + m)) with q | q
    · refine ⟨m, by omega, h1, q, ?_⟩
      show rsm (fun k => acF z b F (s + k)) m + acF z b F (s + m) = _
      rw [down_none F s m (fun k hk => h k (by omega)) q]
      unfold acF
      rw [if_pos (by omega)]; omega
    · obtain ⟨j, h2, h3, h4, h5⟩ := down_one F s m (fun k hk => h k (by omega)) h0 q
      have h6 := h m (by omega)
      refine ⟨j, by omega, h3, h4, ?_⟩
      show rsm (fun k => acF z b F (s + k)) m + acF z b F (s + m) = _
      rw [h5]
      unfold acF
      rw [if_neg (by omega)]; omega
/-- how many numbers lie strictly between two -/
theorem btw_cnt {c d : Int} (hc : 0 ≤ c) : ∀ N : Nat, rsm (fun a => if c < (a : Int) ∧ (a : Int) < d then 1 else 0) N = max 0 (min d N - c - 1)
  | 0 => by show 0 = _; omega
  | N + 1 => by
    have := btw_cnt (d := d) hc N
    show rsm (fun a => if c < (a : Int) ∧ (a : Int) < d then 1 else 0) N + (if c < (N : Int) ∧ (N : Int) < d then 1 else 0) = _
    rw [this]
    split <;> omega
end Go.Proofs.Ytljmhejljpfaiaa
