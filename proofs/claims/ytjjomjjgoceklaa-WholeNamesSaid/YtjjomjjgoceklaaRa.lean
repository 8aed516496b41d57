import Derived.Test.YtjjomjjgoceklaaM
namespace Go.Proofs.Ytjjomjjgoceklaa
open Go.RowKit

/-! plain: numbers to the base 10000, as the reference has them -/
def rv : List Nat → Nat
  | [] => 0
  | x :: r => x + 10000 * rv r
def iv : List Int → Int
  | [] => 0
  | x :: r => x + 10000 * iv r
/-- all below 10000 -/
def D4 (l : List Nat) : Prop := ∀ x ∈ l, x < 10000
theorem D4.nil : D4 [] := by intro x hx; cases hx
theorem D4.snoc {l : List Nat} {x : Nat} (h : D4 l) (hx : x < 10000) : D4 (l ++ [x]) := by
  intro y hy
  rcases List.mem_append.1 hy with hy | hy
  · exact h y hy
  · simp only [List.mem_singleton] at hy; rw [hy]; exact hx
theorem rv_snoc (l : List Nat) (x : Nat) : rv (l ++ [x]) = rv l + 10000 ^ l.length * x := by
  induction l with
  | nil => simp [rv]
  | cons y r ih =>
    simp only [List.cons_append, rv, ih, List.length_cons, Nat.pow_succ]
    rw [Nat.mul_add, Nat.mul_comm (10000 ^ r.length) 10000, Nat.mul_assoc]; omega
theorem rv_lt (l : List Nat) (h : D4 l) : rv l < 10000 ^ l.length := by
  induction l with
  | nil => simp [rv]
  | cons x r ih =>
    have h1 := ih (fun y hy => h y (List.mem_cons_of_mem _ hy))
    have h2 : x < 10000 := h x List.mem_cons_self
    simp only [rv, List.length_cons, Nat.pow_succ]
    omega
theorem rv_norm (l : List Nat) : rv (norm l) = rv l := by
  induction l with
  | nil => rfl
  | cons x r ih =>
    simp only [norm]
    split
    · rename_i h; rw [h] at ih; split
      · simp [rv, ← ih] ; omega
      · simp [rv, ← ih]
    · rename_i y s h; rw [h] at ih; simp only [rv] at ih ⊢; rw [← ih]
theorem norm_mem (l : List Nat) : ∀ x ∈ norm l, x ∈ l := by
  induction l with
  | nil => intro x hx; exact hx
  | cons y r ih =>
    simp only [norm]
    split
    · split
      · intro z hz; cases hz
      · intro z hz; simp only [List.mem_singleton] at hz; rw [hz]; exact List.mem_cons_self
    · rename_i y' s h
      rw [h] at ih
      intro z hz
      rcases List.mem_cons.1 hz with rfl | hz
      · exact List.mem_cons_self
      · exact List.mem_cons_of_mem _ (ih z hz)
theorem norm_d4 {l : List Nat} (h : D4 l) : D4 (norm l) := fun x hx => h x (norm_mem l x hx)
theorem rv_ge (l : List Nat) (h : Nrm l) (hne : l ≠ []) : 10000 ^ (l.length - 1) ≤ rv l := by
  induction l with
  | nil => exact absurd rfl hne
  | cons x r ih =>
    cases r with
    | nil =>
      unfold Nrm at h
      have : x ≠ 0 := by simpa using h
      simp [rv]; omega
    | cons y s =>
      have := ih (by unfold Nrm at h ⊢; rwa [List.getLast?_cons_cons] at h) (by simp)
      have e : rv (x :: y :: s) = x + 10000 * rv (y :: s) := rfl
      rw [e, show (x :: y :: s).length - 1 = ((y :: s).length - 1) + 1 from rfl, Nat.pow_succ]
      omega
theorem rv_zero {l : List Nat} (h : Nrm l) : rv l = 0 ↔ l = [] := by
  constructor
  · intro h0
    apply Classical.byContradiction
    intro hne
    have := rv_ge l h hne
    have : 0 < 10000 ^ (l.length - 1) := Nat.pow_pos (by decide)
    omega
  · intro e; rw [e]; rfl
theorem rv_take_succ (l : List Nat) (k : Nat) : rv (l.take (k + 1)) = rv (l.take k) + 10000 ^ k * l.getD k 0 := by
  induction l generalizing k with
  | nil => simp [rv]
  | cons x r ih =>
    cases k with
    | zero => simp [rv]
    | succ k =>
      simp only [List.take_succ_cons, rv, ih, List.getD_cons_succ, Nat.pow_succ]
      rw [Nat.mul_add, Nat.mul_comm (10000 ^ k) 10000, Nat.mul_assoc]; omega
theorem iv_take_succ (l : List Int) (k : Nat) : iv (l.take (k + 1)) = iv (l.take k) + 10000 ^ k * l.getD k 0 := by
  induction l generalizing k with
  | nil => simp [iv]
  | cons x r ih =>
    cases k with
    | zero => simp [iv]
    | succ k =>
      simp only [List.take_succ_cons, iv, ih, List.getD_cons_succ]
      rw [Int.pow_succ, Int.mul_add, Int.mul_comm (10000 ^ k) 10000, Int.mul_assoc]; omega
theorem iv_take_ge (l : List Int) (k : Nat) (h : l.length ≤ k) : iv (l.take k) = iv l := by rw [List.take_of_length_le h]
/-- one step of a carry -/
theorem made_step {out : List Nat} {xs : List Int} {k : Nat} {c c' : Int} {r : Nat} (hk : out.length = k) (H : (rv out : Int) + 10000 ^ k * c = iv (xs.take k)) (E : c + xs.getD k 0 = 10000 * c' + r) :
    (rv (out ++ [r]) : Int) + 10000 ^ (k + 1) * c' = iv (xs.take (k + 1)) := by
  rw [iv_take_succ, ← H, rv_snoc, hk, Int.pow_succ]
  have e : (10000 : Int) ^ k * 10000 * c' = 10000 ^ k * (10000 * c') := Int.mul_assoc _ _ _
  have e2 : (10000 : Int) ^ k * (10000 * c') = 10000 ^ k * (c + xs.getD k 0 - r) := by congr 1; omega
  rw [e, e2, Int.mul_sub, Int.mul_add]
  have e3 : (((10000 ^ k * r : Nat)) : Int) = (10000 : Int) ^ k * (r : Int) := by simp
  omega
/-- behind the last group the carry is not negative -/
theorem made_pos {out : List Nat} {xs : List Int} {k : Nat} {c : Int} (hk : out.length = k) (hd : D4 out) (H : (rv out : Int) + 10000 ^ k * c = iv (xs.take k)) (hl : xs.length ≤ k) (h0 : 0 ≤ iv xs) : 0 ≤ c := by
  rw [iv_take_ge _ _ hl] at H
  have h1 := rv_lt out hd
  rw [hk] at h1
  have h2 : ((rv out : Nat) : Int) < (10000 : Int) ^ k := by
    have : ((rv out : Nat) : Int) < ((10000 ^ k : Nat) : Int) := by omega
    simpa using this
  apply Classical.byContradiction
  intro hc
  have hp : (0 : Int) < 10000 ^ k := by
    have : 0 < 10000 ^ k := Nat.pow_pos (by decide)
    have h3 : ((10000 ^ k : Nat) : Int) = (10000 : Int) ^ k := by simp
    omega
  have : (10000 : Int) ^ k * c ≤ 10000 ^ k * (-1) := Int.mul_le_mul_of_nonneg_left (by omega) (by omega)
  omega
end Go.Proofs.Ytjjomjjgoceklaa
