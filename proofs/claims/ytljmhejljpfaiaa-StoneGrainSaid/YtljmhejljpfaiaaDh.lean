import Derived.Test.YtljmhejljpfaiaaX
namespace Go.Proofs.Ytljmhejljpfaiaa
set_option maxRecDepth 100000
open Go.RowKit Go.Shelf

/-! the reference's border points: where both quotients are whole -/
theorem filter_head (L a : Nat) (_hL : 0 < L) : ∀ m, m ≤ L → 0 < m → ((List.range m).filter fun i => (a * L + i) % L == 0) = [0] := by
  intro m hm h0
  induction m with
  | zero => omega
  | succ m ih =>
    rw [List.range_succ, List.filter_append]
    rcases Nat.eq_zero_or_pos m with e | e
    · subst e
      simp 
    · rw [ih (by omega) e]
      have : ¬ ((a * L + m) % L == 0) = true := by
        rw [Nat.add_comm, Nat.add_mul_mod_self_right, Nat.mod_eq_of_lt (by omega)]
        simp; omega
      simp only [List.filter_cons, this, List.filter_nil]
      rfl
theorem filter_mul (L : Nat) (hL : 0 < L) : ∀ g, ((List.range (g * L)).filter fun k => k % L == 0) = (List.range g).map (· * L)
  | 0 => by simp
  | g + 1 => by
    have ih := filter_mul L hL g
    rw [Nat.succ_mul, List.range_add, List.filter_append, ih, List.filter_map, List.range_succ, List.map_append]
    congr 1
    have : ((fun k => k % L == 0) ∘ fun x => g * L + x) = fun i => (g * L + i) % L == 0 := rfl
    rw [this, filter_head L g hL L (Nat.le_refl _) hL]
    rfl
/-- the longer way of an edge, and its number of steps -/
def lngE (l : List Pt) (i : Nat) : Nat := max (px l (nx l.length i) - px l i).natAbs (pz l (nx l.length i) - pz l i).natAbs
/-- is the k-th place of an edge whole? -/
def whE (l : List Pt) (i k : Nat) : Bool := ((px l (nx l.length i) - px l i) * k).tmod (lngE l i) == 0 && ((pz l (nx l.length i) - pz l i) * k).tmod (lngE l i) == 0
def whp (l : List Pt) (i k : Nat) : Pt := (px l i + ((px l (nx l.length i) - px l i) * k).tdiv (lngE l i), pz l i + ((pz l (nx l.length i) - pz l i) * k).tdiv (lngE l i))
/-- the reference's points of an edge, up to the k-th place -/
def rps (l : List Pt) (i k : Nat) : List Pt := ((List.range k).filter (whE l i)).map (whp l i)
theorem rps_succ (l : List Pt) (i k : Nat) : rps l i (k + 1) = rps l i k ++ (if whE l i k then [whp l i k] else []) := by
  unfold rps
  rw [List.range_succ, List.filter_append, List.map_append]
  congr 1
  cases h : whE l i k with
  | true => rw [List.filter_cons_of_pos h]; rfl
  | false => rw [List.filter_cons_of_neg (by simp [h])]; rfl
theorem cop_dvd {L a k : Nat} (h : L ∣ a * k) (hc : Nat.gcd L a = 1) : L ∣ k := Nat.Coprime.dvd_of_dvd_mul_left hc h
/-- whole exactly at the multiples of the longer way by the steps -/
theorem wh_iff {dx dz : Int} {g L : Nat} (hg : g = Nat.gcd dx.natAbs dz.natAbs) (hL : g * L = max dx.natAbs dz.natAbs) (h0 : 0 < max dx.natAbs dz.natAbs) (k : Nat) :
    ((dx * k).tmod ((max dx.natAbs dz.natAbs : Nat) : Int) = 0 ∧ (dz * k).tmod ((max dx.natAbs dz.natAbs : Nat) : Int) = 0) ↔ k % L = 0 := by
  have hgp : 0 < g := by
    rcases Nat.eq_zero_or_pos g with e | e
    · subst e; rw [Nat.zero_mul] at hL; omega
    · exact e
  obtain ⟨a, ha⟩ : g ∣ dx.natAbs := hg ▸ Nat.gcd_dvd_left _ _
  obtain ⟨b, hb⟩ : g ∣ dz.natAbs := hg ▸ Nat.gcd_dvd_right _ _
  have hab : Nat.gcd a b = 1 := by
    have h := hg
    rw [ha, hb, Nat.gcd_mul_left] at h
    have : g * 1 = g * Nat.gcd a b := by omega
    exact (Nat.eq_of_mul_eq_mul_left hgp this).symm
  have hLm : L = max a b := by
    rw [ha, hb] at hL
    have : g * L = g * max a b := by
      rcases Nat.le_total a b with q | q
      · have := Nat.mul_le_mul_left g q
        rw [Nat.max_eq_right q]; rw [Nat.max_eq_right this] at hL; exact hL
      · have := Nat.mul_le_mul_left g q
        rw [Nat.max_eq_left q]; rw [Nat.max_eq_left this] at hL; exact hL
    exact Nat.eq_of_mul_eq_mul_left hgp this
  have tm : ∀ (d : Int) (c : Nat), d.natAbs = g * c → ((d * k).tmod ((max dx.natAbs dz.natAbs : Nat) : Int) = 0 ↔ L ∣ c * k) := fun d c hd => by
    rw [← Int.dvd_iff_tmod_eq_zero, Int.ofNat_dvd_left, Int.natAbs_mul, Int.natAbs_natCast, hd, ← hL, Nat.mul_assoc]
    exact ⟨fun h => Nat.dvd_of_mul_dvd_mul_left hgp h, fun h => Nat.mul_dvd_mul_left g h⟩
  rw [tm dx a ha, tm dz b hb]
  constructor
  · rintro ⟨h1, h2⟩
    refine Nat.mod_eq_zero_of_dvd ?_
    rcases Nat.le_total a b with q | q
    · rw [Nat.max_eq_right q] at hLm
      subst hLm
      exact cop_dvd h1 (by rw [Nat.gcd_comm]; exact hab)
    · rw [Nat.max_eq_left q] at hLm
      subst hLm
      exact cop_dvd h2 hab
  · intro h
    have hd := Nat.dvd_of_mod_eq_zero h
    exact ⟨Nat.dvd_trans hd (Nat.dvd_mul_left _ _), Nat.dvd_trans hd (Nat.dvd_mul_left _ _)⟩
theorem tdiv_at {d : Int} {g L c : Nat} (hg : 0 < g) (hL : 0 < L) (hd : (g : Int) ∣ d) (j : Nat) (_ : c = c) : (d * ((j * L : Nat) : Int)).tdiv ((g * L : Nat) : Int) = j * d.tdiv (g : Nat) := by
  obtain ⟨q, rfl⟩ := hd
  have e1 : (g : Int) * q * ((j * L : Nat) : Int) = ((g * L : Nat) : Int) * (j * q) := by
    rw [Int.natCast_mul, Int.natCast_mul]
    simp only [Int.mul_assoc, Int.mul_comm, Int.mul_left_comm]
  rw [e1, Int.mul_tdiv_cancel_left _ (by have := Nat.mul_pos hg hL; omega), Int.mul_tdiv_cancel_left _ (by omega)]
theorem rps_eps (l : List Pt) (i : Nat) (hd : ¬ (px l (nx l.length i) = px l i ∧ pz l (nx l.length i) = pz l i)) : rps l i (lngE l i) = eps l i (snE l i) := by
  have h0 : 0 < lngE l i := by unfold lngE; omega
  obtain ⟨g, hg⟩ : ∃ g, g = snE l i := ⟨_, rfl⟩
  have hgd : g = Nat.gcd (px l (nx l.length i) - px l i).natAbs (pz l (nx l.length i) - pz l i).natAbs := hg
  have hgx : g ∣ (px l (nx l.length i) - px l i).natAbs := hgd ▸ Nat.gcd_dvd_left _ _
  have hgz : g ∣ (pz l (nx l.length i) - pz l i).natAbs := hgd ▸ Nat.gcd_dvd_right _ _
  obtain ⟨L, hL⟩ : g ∣ lngE l i := by
    unfold lngE
    rcases Nat.le_total (px l (nx l.length i) - px l i).natAbs (pz l (nx l.length i) - pz l i).natAbs with q | q
    · rw [Nat.max_eq_right q]; exact hgz
    · rw [Nat.max_eq_left q]; exact hgx
  have hgp : 0 < g := by
    rcases Nat.eq_zero_or_pos g with e | e
    · subst e; rw [Nat.zero_mul] at hL; omega
    · exact e
  have hLp : 0 < L := by
    rcases Nat.eq_zero_or_pos L with e | e
    · subst e; rw [Nat.mul_zero] at hL; omega
    · exact e
  have hf : ∀ k, whE l i k = (k % L == 0) := fun k => by
    have h := wh_iff (L := L) hgd (by unfold lngE at hL; exact hL.symm) (by unfold lngE at h0; exact h0) k
    rw [Bool.eq_iff_iff]
    unfold whE lngE
    simp only [Bool.and_eq_true, beq_iff_eq]
    exact h
  unfold rps eps
  rw [show whE l i = (fun k => k % L == 0) from funext hf, hL, filter_mul L hLp g, List.map_map, hg]
  refine List.map_congr_left fun j _ => ?_
  show whp l i (j * L) = ept l i j
  unfold whp ept sxE szE
  rw [hL, ← hg, tdiv_at (c := 0) hgp hLp (Int.ofNat_dvd_left.2 hgx) j rfl, tdiv_at (c := 0) hgp hLp (Int.ofNat_dvd_left.2 hgz) j rfl]
end Go.Proofs.Ytljmhejljpfaiaa
