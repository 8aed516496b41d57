import Derived.Test.YtljmhejljpfaiaaBt
namespace Go.Proofs.Ytljmhejljpfaiaa
set_option maxRecDepth 100000
open Go.RowKit Go.Shelf

/-! put: what it comes to -/
/-- the least of a number and the first k X -/
def lfR (l : List Pt) (x0 : Int) : Nat → Int
  | 0 => x0
  | k + 1 => if px l k < lfR l x0 k then px l k else lfR l x0 k
theorem lfR_le (l : List Pt) (x0 : Int) : ∀ k, lfR l x0 k ≤ x0 ∧ (∀ j, j < k → lfR l x0 k ≤ px l j) ∧ (lfR l x0 k = x0 ∨ ∃ j, j < k ∧ lfR l x0 k = px l j)
  | 0 => ⟨Int.le_refl _, fun j h => absurd h (by omega), .inl rfl⟩
  | k + 1 => by
    obtain ⟨h1, h2, h3⟩ := lfR_le l x0 k
    unfold lfR
    split
    · refine ⟨by omega, fun j hj => ?_, .inr ⟨k, by omega, rfl⟩⟩
      rcases Nat.lt_or_ge j k with q | q
      · have := h2 j q; omega
      · obtain rfl : j = k := by omega
        exact Int.le_refl _
    · refine ⟨h1, fun j hj => ?_, h3.imp id fun ⟨j, hj, e⟩ => ⟨j, by omega, e⟩⟩
      rcases Nat.lt_or_ge j k with q | q
      · exact h2 j q
      · obtain rfl : j = k := by omega
        omega
theorem mnx_le (l : List Pt) : ∀ k, mnx l k ≤ px l 0 ∧ (∀ j, j < k → mnx l k ≤ px l j) ∧ (mnx l k = px l 0 ∨ ∃ j, j < k ∧ mnx l k = px l j)
  | 0 => ⟨Int.le_refl _, fun j h => absurd h (by omega), .inl rfl⟩
  | k + 1 => by
    obtain ⟨h1, h2, h3⟩ := mnx_le l k
    unfold mnx
    split
    · refine ⟨by omega, fun j hj => ?_, .inr ⟨k, by omega, rfl⟩⟩
      rcases Nat.lt_or_ge j k with q | q
      · have := h2 j q; omega
      · obtain rfl : j = k := by omega
        exact Int.le_refl _
    · refine ⟨h1, fun j hj => ?_, h3.imp id fun ⟨j, hj, e⟩ => ⟨j, by omega, e⟩⟩
      rcases Nat.lt_or_ge j k with q | q
      · exact h2 j q
      · obtain rfl : j = k := by omega
        omega
theorem lfR_mnx (l : List Pt) (i n : Nat) (hi : i < n) : lfR l (px l i) n = mnx l n := by
  obtain ⟨a1, a2, a3⟩ := lfR_le l (px l i) n
  obtain ⟨b1, b2, b3⟩ := mnx_le l n
  have h1 : mnx l n ≤ lfR l (px l i) n := by
    rcases a3 with e | ⟨j, hj, e⟩
    · rw [e]; exact b2 i hi
    · rw [e]; exact b2 j hj
  have h2 : lfR l (px l i) n ≤ mnx l n := by
    rcases b3 with e | ⟨j, hj, e⟩
    · rw [e]; exact a2 0 (by omega)
    · rw [e]; exact a2 j hj
  omega
/-- comes before, by Z, then by X -/
def Lx (l : List Pt) (i j : Nat) : Prop := pz l i < pz l j ∨ (pz l i = pz l j ∧ px l i < px l j)
theorem fst_least (l : List Pt) : ∀ k, (∀ j, j < k → ¬ Lx l j (fst l k)) ∧ (∀ j, j < fst l k → Lx l (fst l k) j) ∧ (0 < k → fst l k < k)
  | 0 => ⟨fun j h => absurd h (by omega), fun j h => absurd h (by unfold fst; omega), fun h => absurd h (by omega)⟩
  | k + 1 => by
    obtain ⟨h1, h2, h3⟩ := fst_least l k
    unfold fst
    split
    · rename_i hlt
      have hlt' : Lx l k (fst l k) := hlt
      refine ⟨fun j hj hc => ?_, fun j hj => ?_, fun _ => by omega⟩
      · rcases Nat.lt_or_ge j k with q | q
        · have := h1 j q
          unfold Lx at *; omega
        · obtain rfl : j = k := by omega
          unfold Lx at *; omega
      · have := h1 j hj
        unfold Lx at *; omega
    · rename_i hlt
      have hlt' : ¬ Lx l k (fst l k) := hlt
      refine ⟨fun j hj => ?_, h2, fun _ => ?_⟩
      · rcases Nat.lt_or_ge j k with q | q
        · exact h1 j q
        · obtain rfl : j = k := by omega
          exact hlt'
      · rcases Nat.eq_zero_or_pos k with q | q
        · subst q; unfold fst; omega
        · have := h3 q; omega
theorem mnz_fst (l : List Pt) : ∀ k, mnz l (k + 1) = pz l (fst l (k + 1)) := fun k => by
  have h : ∀ k, mnz l k = pz l (fst l k) := by
    intro k
    induction k with
    | zero => rfl
    | succ k ih =>
      unfold mnz fst
      rw [ih]
      split <;> split <;> omega
  exact h _
theorem lowI_neg {x1 z1 x2 z2 : Int} : lowI x1 z1 x2 z2 < 0 ↔ (z1 < z2 ∨ (z1 = z2 ∧ x1 < x2)) := by
  unfold lowI ord2 cmpI
  split <;> (repeat (first | split | (split at *))) <;> omega
theorem mnL_fst (l : List Pt) : ∀ k, mnL l k = (px l (fst l (k + 1)), pz l (fst l (k + 1)))
  | 0 => by
    have e : fst l (0 + 1) = 0 := by
      unfold fst
      split
      · rfl
      · rfl
    rw [e]; rfl
  | k + 1 => by
    have ih := mnL_fst l k
    unfold mnL
    rw [ih]
    have e : fst l (k + 1 + 1) = if pz l (k + 1) < pz l (fst l (k + 1)) ∨ (pz l (k + 1) = pz l (fst l (k + 1)) ∧ px l (k + 1) < px l (fst l (k + 1))) then k + 1 else fst l (k + 1) := rfl
    rw [e]
    by_cases h : pz l (k + 1) < pz l (fst l (k + 1)) ∨ (pz l (k + 1) = pz l (fst l (k + 1)) ∧ px l (k + 1) < px l (fst l (k + 1)))
    · rw [if_pos h, if_pos (lowI_neg.2 h)]
    · rw [if_neg h, if_neg (fun q => h (lowI_neg.1 q))]
theorem index_fst {l : List Pt} {r : Int} (h3 : 0 < l.length) (h : PIx l (px l (fst l l.length)) (pz l (fst l l.length)) r) : r = (fst l l.length : Nat) := by
  obtain ⟨h1, h2, h4⟩ := fst_least l l.length
  have h4 := h4 h3
  rcases h with ⟨i, hi, rfl, ⟨e1, e2⟩, hn⟩ | ⟨_, hn⟩
  · have : ¬ i < fst l l.length := fun hlt => by
      have := h2 i hlt
      unfold Lx at this
      omega
    have : ¬ fst l l.length < i := fun hlt => hn _ hlt ⟨rfl, rfl⟩
    have : i = fst l l.length := by omega
    rw [this]
  · exact absurd ⟨rfl, rfl⟩ (hn _ h4)
/-- a shape moved and listed so that it is in its place -/
def stp (l : List Pt) (i : Nat) : Pt := (px l ((fst l l.length + i) % l.length) - mnx l l.length, pz l ((fst l l.length + i) % l.length) - mnz l l.length)
def stl (l : List Pt) : List Pt := (List.range l.length).map (stp l)
def stk (l : List Pt) (k : Nat) : List Pt := (List.range k).map (stp l)
theorem stk_succ (l : List Pt) (k : Nat) : stk l (k + 1) = stk l k ++ [stp l k] := by unfold stk; rw [List.range_succ, List.map_append]; rfl
theorem stk_length (l : List Pt) (k : Nat) : (stk l k).length = k := by simp [stk]
end Go.Proofs.Ytljmhejljpfaiaa
