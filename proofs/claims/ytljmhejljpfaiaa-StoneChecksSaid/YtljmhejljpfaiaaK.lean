import Derived.Test.YtljmhejljpfaiaaJ
namespace Go.Proofs.Ytljmhejljpfaiaa

theorem pt_1 (l : List Pt) (i : Nat) : (pt l i).1 = px l i := rfl
theorem pt_2 (l : List Pt) (i : Nat) : (pt l i).2 = pz l i := rfl
theorem Pl.up {l : List Pt} (h : Pl l) : Up l := ⟨fun i hi => by rw [pt_2, pt_2, h.2.2.2.1]; exact (h.2.1 i hi).2.1, by rw [pt_2, pt_2, h.2.2.2.1]; exact h.2.2.2.2.1⟩
theorem Pl.tr {l : List Pt} (h : Pl l) : Tr l := h.2.2.2.2.2.tr h.up
theorem mnz_zero {l : List Pt} (h : ∀ i, i < l.length → 0 ≤ pz l i) (h0 : pz l 0 = 0) : ∀ k, k ≤ l.length → mnz l k = 0 := by
  intro k
  induction k with
  | zero => intro _; exact h0
  | succ k ih => intro hk; unfold mnz; rw [ih (by omega), if_neg (by have := h k (by omega); omega)]
theorem fst_zero {l : List Pt} (h : ∀ i, i < l.length → ¬ (pz l i < pz l 0 ∨ (pz l i = pz l 0 ∧ px l i < px l 0))) : ∀ k, k ≤ l.length → fst l k = 0 := by
  intro k
  induction k with
  | zero => intro _; rfl
  | succ k ih => intro hk; unfold fst; rw [ih (by omega), if_neg (h k (by omega))]
theorem zero_fst {l : List Pt} {n : Nat} (h : fst l n = 0) : ∀ k, k < n → ¬ (pz l k < pz l 0 ∨ (pz l k = pz l 0 ∧ px l k < px l 0)) := by
  have back : ∀ k, fst l (k + 1) = 0 → fst l k = 0 := fun k hk => by
    unfold fst at hk
    split at hk
    · subst hk; rfl
    · exact hk
  have all : ∀ d, d ≤ n → fst l (n - d) = 0 := by
    intro d
    induction d with
    | zero => intro _; exact h
    | succ d ih => intro hd; exact back _ (by rw [show n - (d + 1) + 1 = n - d by omega]; exact ih (by omega))
  intro k hk hc
  have h1 := all (n - (k + 1)) (by omega)
  have h2 := all (n - k) (by omega)
  rw [show n - (n - (k + 1)) = k + 1 by omega] at h1
  rw [show n - (n - k) = k by omega] at h2
  unfold fst at h1
  rw [h2, if_pos hc] at h1
  subst h1
  omega
theorem Pl.pr {l : List Pt} (h : Pl l) : Pr l := by
  have hz : ∀ i, i < l.length → 0 ≤ pz l i := fun i hi => (h.2.1 i hi).2.1
  refine ⟨h.2.1, ⟨h.1.1, h.1.2, h.tr.cr h.1.1⟩, h.2.2.1, mnz_zero hz h.2.2.2.1 _ (Nat.le_refl _), fst_zero (fun i hi hc => ?_) _ (Nat.le_refl _)⟩
  have h0 := h.2.2.2.1
  rw [h0] at hc
  have hi0 := hz i hi
  rcases hc with hc | ⟨hc, hx⟩
  · omega
  · rcases Nat.lt_or_ge i 2 with q | q
    · obtain rfl : i = 1 := by
        rcases Nat.eq_zero_or_pos i with e | e
        · subst e; omega
        · omega
      have h12 := h.tr 0 1 2 (by omega) (by omega) (by have := h.1.1; omega)
      have h2 := hz 2 (by have := h.1.1; omega)
      unfold D3 at h12
      rw [pt_1, pt_1, pt_1, pt_2, pt_2, pt_2, h0, hc] at h12
      simp only [Int.sub_zero, Int.mul_zero] at h12
      have := Int.mul_nonneg (show 0 ≤ -(px l 1 - px l 0) by omega) h2
      rw [Int.neg_mul] at this
      omega
    · have := h.2.2.2.2.2.up h.up q hi
      rw [pt_2, pt_2] at this
      omega
theorem Pr.pl {l : List Pt} (h : Pr l) : Pl l := by
  obtain ⟨hb, ⟨h3, h12, hc⟩, hx, hz, hf⟩ := h
  have hf' := zero_fst hf
  have h0 : pz l 0 = 0 := by
    have : ∀ k, k ≤ l.length → mnz l k = pz l 0 := by
      intro k
      induction k with
      | zero => intro _; rfl
      | succ k ih => intro hk; unfold mnz; rw [ih (by omega), if_neg (by have := hf' k (by omega); omega)]
    rw [this _ (Nat.le_refl _)] at hz
    exact hz
  refine ⟨⟨h3, h12⟩, hb, hx, h0, ?_, hc.cv h3⟩
  have hl := (hb (l.length - 1) (by omega)).2.1
  rcases Int.lt_or_le 0 (pz l (l.length - 1)) with q | q
  · exact q
  · exfalso
    have e : pz l (l.length - 1) = 0 := by omega
    have hle := hf' (l.length - 1) (by omega)
    rw [h0, e] at hle
    have e1 : (l.length - 1 + 1) % l.length = 0 := by rw [show l.length - 1 + 1 = l.length by omega, Nat.mod_self]
    have h1 := hc (l.length - 1) 1 (by omega) (by omega) (by omega) (by omega)
    rw [e1] at h1
    have hz1 := (hb 1 (by omega)).2.1
    unfold D3 at h1
    rw [pt_1, pt_1, pt_1, pt_2, pt_2, pt_2, h0, e] at h1
    simp only [Int.sub_zero, Int.mul_zero] at h1
    have := Int.mul_nonneg (show 0 ≤ -(px l 0 - px l (l.length - 1)) by omega) hz1
    rw [Int.neg_mul] at this
    omega
theorem pl_pr {l : List Pt} : Pl l ↔ Pr l := ⟨Pl.pr, Pr.pl⟩
theorem vld_vldR {s : SV} : Vld s ↔ VldR s := by unfold Vld VldR; rw [pl_pr]
end Go.Proofs.Ytljmhejljpfaiaa
