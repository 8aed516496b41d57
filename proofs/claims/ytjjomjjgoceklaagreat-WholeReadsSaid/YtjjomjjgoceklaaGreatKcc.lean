import Derived.Test.YtjjomjjgoceklaaGreatKca
import Derived.Test.YtjjomjjgoceklaaGreatKad
import Derived.StillTailTactics
namespace Go.Proofs.YtjjomjjgoceklaaGreat
set_option maxRecDepth 100000
open Go.RowKit

/-! plain: one word of a quotient is guessed -/
/-- the state of the guess: g is not too small -/
def Gs3 (top mid low dv sc g r : Nat) : Prop := g * dv + r = top * WB + mid ∧ (top * WB * WB + mid * WB + low) / (dv * WB + sc) ≤ g
theorem gs3_iff {top mid low dv sc g r : Nat} (hd : 0 < dv) (h : g * dv + r = top * WB + mid) : g ≤ (top * WB * WB + mid * WB + low) / (dv * WB + sc) ↔ g * sc ≤ r * WB + low := by
  have hp : 0 < dv * WB + sc := Nat.lt_of_lt_of_le (Nat.mul_pos hd WB_pos) (Nat.le_add_right _ _)
  rw [Nat.le_div_iff_mul_le hp, Nat.mul_add, ← Nat.mul_assoc]
  have e : (g * dv + r) * WB = (top * WB + mid) * WB := by rw [h]
  rw [Nat.add_mul, Nat.add_mul] at e
  omega
theorem gs3_start {top mid low dv sc : Nat} (hd : 0 < dv) (hl : low < WB) : Gs3 top mid low dv sc ((top * WB + mid) / dv) ((top * WB + mid) % dv) := by
  refine ⟨by rw [Nat.mul_comm]; exact Nat.div_add_mod _ _, ?_⟩
  have hp : 0 < dv * WB + sc := Nat.lt_of_lt_of_le (Nat.mul_pos hd WB_pos) (Nat.le_add_right _ _)
  refine Nat.le_trans (Nat.div_le_div_left (Nat.le_add_right (dv * WB) sc) (Nat.mul_pos hd WB_pos)) ?_
  rw [Nat.mul_comm dv WB, ← Nat.div_div_eq_div_mul]
  refine Nat.le_of_eq (congrArg (· / dv) ?_)
  rw [show top * WB * WB + mid * WB + low = low + WB * (top * WB + mid) by rw [Nat.mul_add, Nat.mul_comm WB (top * WB), Nat.mul_comm WB mid]; omega]
  rw [Nat.add_mul_div_left _ _ WB_pos, Nat.div_eq_of_lt hl, Nat.zero_add]
theorem gs3_done {top mid low dv sc g r : Nat} (hd : 0 < dv) (h : Gs3 top mid low dv sc g r) (hc : g * sc ≤ r * WB + low) : g = (top * WB * WB + mid * WB + low) / (dv * WB + sc) :=
  Nat.le_antisymm ((gs3_iff hd h.1).2 hc) h.2
theorem gs3_next {top mid low dv sc g r : Nat} (hd : 0 < dv) (h : Gs3 top mid low dv sc g r) (hc : r * WB + low < g * sc) : 0 < g ∧ Gs3 top mid low dv sc (g - 1) (r + dv) := by
  have h0 : 0 < g := by rcases Nat.eq_zero_or_pos g with e | e; · rw [e, Nat.zero_mul] at hc; omega
                        · exact e
  refine ⟨h0, ?_, ?_⟩
  · obtain ⟨k, rfl⟩ : ∃ k, g = k + 1 := ⟨g - 1, by omega⟩
    have := h.1
    rw [Nat.add_mul] at this
    simp only [Nat.add_sub_cancel]
    omega
  · have h1 := h.2
    have h2 : ¬ g ≤ (top * WB * WB + mid * WB + low) / (dv * WB + sc) := fun hh => by have := (gs3_iff hd h.1).1 hh; omega
    omega
/-- the rest has grown beyond a word -/
theorem gs3_over {top mid low dv sc g r : Nat} (hd : 0 < dv) (h : Gs3 top mid low dv sc g r) (hg : g < WB) (hs : sc < WB) (hr : WB ≤ r) : g = (top * WB * WB + mid * WB + low) / (dv * WB + sc) := by
  refine gs3_done hd h ?_
  have h1 : g * sc ≤ WB * WB := Nat.mul_le_mul (Nat.le_of_lt hg) (Nat.le_of_lt hs)
  have h2 : WB * WB ≤ r * WB := Nat.mul_le_mul_right _ hr
  omega
/-- the word that is guessed -/
def guessN (top mid low dv sc : Nat) : Nat := if dv ≤ top then WB - 1 else (top * WB * WB + mid * WB + low) / (dv * WB + sc)
theorem guess_lt {top mid low dv sc : Nat} (hm : mid < WB) (hl : low < WB) (ht : top < dv) : (top * WB * WB + mid * WB + low) / (dv * WB + sc) < WB := by
  have hd : 0 < dv := by omega
  have hp : 0 < dv * WB + sc := Nat.lt_of_lt_of_le (Nat.mul_pos hd WB_pos) (Nat.le_add_right _ _)
  rw [Nat.div_lt_iff_lt_mul hp]
  have h1 : (top + 1) * (WB * WB) ≤ dv * (WB * WB) := Nat.mul_le_mul_right _ ht
  have h2 : (mid + 1) * WB ≤ WB * WB := Nat.mul_le_mul_right _ hm
  rw [Nat.add_mul] at h1 h2
  rw [Nat.mul_add, Nat.mul_assoc top]
  have e : WB * (dv * WB) = dv * (WB * WB) := by rw [Nat.mul_left_comm]
  omega
/-- a guess from three words by two is right, or one too great: n lower words are left out of both -/
theorem guess_good {top mid low dv sc U D u0 d0 N : Nat} (hN : 0 < N) (hU : U = (top * WB * WB + mid * WB + low) * N + u0) (hu : u0 < N) (hD : D = (dv * WB + sc) * N + d0) (hd : d0 < N)
    (hm : mid < WB) (hl : low < WB) (hs : sc < WB) (hlt : U < D * WB) (hbig : WB ≤ 2 * dv) : U / D ≤ guessN top mid low dv sc ∧ guessN top mid low dv sc ≤ U / D + 1 ∧ guessN top mid low dv sc < WB := by
  have hdv : 0 < dv := by unfold WB at hbig; omega
  have hp : 0 < dv * WB + sc := Nat.lt_of_lt_of_le (Nat.mul_pos hdv WB_pos) (Nat.le_add_right _ _)
  have hDp : 0 < D := by rw [hD]; exact Nat.lt_of_lt_of_le (Nat.mul_pos hp hN) (Nat.le_add_right _ _)
  have hq : U / D < WB := by rw [Nat.div_lt_iff_lt_mul hDp, Nat.mul_comm]; exact hlt
  unfold guessN
  split
  · rename_i ht
    refine ⟨by omega, ?_, by have := WB_pos; omega⟩
    suffices h : WB - 2 ≤ U / D by omega
    rw [Nat.le_div_iff_mul_le hDp]
    have h1 : D < (dv + 1) * (WB * N) := by
      rw [hD]
      have : dv * WB + sc + 1 ≤ (dv + 1) * WB := by rw [Nat.add_mul]; omega
      have := Nat.mul_le_mul_right N this
      rw [Nat.add_mul (dv * WB + sc)] at this
      rw [← Nat.mul_assoc]
      omega
    have h2 : dv * (WB * (WB * N)) ≤ U := by
      rw [hU]
      have : dv * WB * WB * N ≤ (top * WB * WB + mid * WB + low) * N := Nat.mul_le_mul_right _ (Nat.le_trans (Nat.mul_le_mul_right _ (Nat.mul_le_mul_right _ ht)) (by omega))
      have e : dv * (WB * (WB * N)) = dv * WB * WB * N := by simp only [Nat.mul_assoc]
      omega
    have h3 : (WB - 2) * ((dv + 1) * (WB * N)) ≤ dv * (WB * (WB * N)) := by
      have e1 : (WB - 2) * ((dv + 1) * (WB * N)) = (WB - 2) * (dv + 1) * (WB * N) := (Nat.mul_assoc _ _ _).symm
      have e2 : dv * (WB * (WB * N)) = dv * WB * (WB * N) := (Nat.mul_assoc _ _ _).symm
      rw [e1, e2]
      refine Nat.mul_le_mul_right _ ?_
      obtain ⟨b, hb⟩ : ∃ b, WB = b + 2 := ⟨WB - 2, by unfold WB; omega⟩
      rw [hb] at hbig ⊢
      rw [Nat.add_sub_cancel, Nat.mul_add, Nat.mul_add, Nat.mul_comm dv b]
      omega
    exact Nat.le_trans (Nat.mul_le_mul_left _ (Nat.le_of_lt h1)) (Nat.le_trans h3 h2)
  · rename_i ht
    have hg := guess_lt (sc := sc) hm hl (Nat.lt_of_not_le ht)
    have hdm := Nat.div_add_mod (top * WB * WB + mid * WB + low) (dv * WB + sc)
    generalize hq3 : (top * WB * WB + mid * WB + low) / (dv * WB + sc) = g at *
    refine ⟨?_, ?_, hg⟩
    · rw [← hq3, Nat.le_div_iff_mul_le hp]
      have h1 : U / D * D ≤ U := Nat.div_mul_le_self _ _
      have h2 : U / D * ((dv * WB + sc) * N) ≤ U / D * D := Nat.mul_le_mul_left _ (by omega)
      have h3 : U / D * (dv * WB + sc) * N < (top * WB * WB + mid * WB + low + 1) * N := by
        have e1 : U / D * (dv * WB + sc) * N = U / D * ((dv * WB + sc) * N) := Nat.mul_assoc _ _ _
        have e2 : (top * WB * WB + mid * WB + low + 1) * N = (top * WB * WB + mid * WB + low) * N + N := by rw [Nat.add_mul (top * WB * WB + mid * WB + low), Nat.one_mul]
        rw [e1, e2]
        refine Nat.lt_of_le_of_lt h2 (Nat.lt_of_le_of_lt h1 ?_)
        rw [hU]
        exact Nat.add_lt_add_left hu _
      exact Nat.le_of_lt_succ (Nat.lt_of_mul_lt_mul_right h3)
    · rcases Nat.eq_zero_or_pos g with e | e
      · rw [e]; exact Nat.zero_le _
      refine Nat.sub_le_iff_le_add.1 ?_
      rw [Nat.le_div_iff_mul_le hDp, Nat.sub_mul, Nat.one_mul]
      have h1 : g * D = g * (dv * WB + sc) * N + g * d0 := by rw [hD, Nat.mul_add, ← Nat.mul_assoc]
      have h2 : g * (dv * WB + sc) * N ≤ (top * WB * WB + mid * WB + low) * N := Nat.mul_le_mul_right _ (by rw [Nat.mul_comm]; omega)
      have h3 : g * d0 ≤ WB * N := Nat.mul_le_mul (Nat.le_of_lt hg) (Nat.le_of_lt hd)
      have h4 : WB * N ≤ D := by
        rw [hD]
        have : WB * N ≤ (dv * WB + sc) * N := Nat.mul_le_mul_right _ (Nat.le_trans (Nat.le_mul_of_pos_left _ hdv) (Nat.le_add_right _ _))
        omega
      omega
/-- one step of the division: P are the words that are written, top the one above them -/
theorem step_good {P top D g out c N : Nat} (hD : 0 < D) (hDN : D < N) (hout : out < N) (hP : out + g * D = P + N * c) (h1 : (P + N * top) / D ≤ g) (h2 : g ≤ (P + N * top) / D + 1) :
    (c ≤ top → g = (P + N * top) / D ∧ out = (P + N * top) % D) ∧ (top < c → g = (P + N * top) / D + 1 ∧ ∀ out2 c2, out2 < N → out2 + N * c2 = out + D → out2 = (P + N * top) % D) := by
  have hdm := Nat.div_add_mod (P + N * top) D
  have hr := Nat.mod_lt (P + N * top) hD
  generalize (P + N * top) / D = q at *
  generalize (P + N * top) % D = r at *
  rw [Nat.mul_comm] at hdm
  have hg : g = q ∨ g = q + 1 := by omega
  rcases hg with rfl | rfl
  · -- out + N top = r + N c
    have e : out + N * top = r + N * c := by omega
    have hc : c = top := by
      rcases Nat.lt_trichotomy c top with h | h | h
      · have : N * (c + 1) ≤ N * top := Nat.mul_le_mul_left _ h
        rw [Nat.mul_add] at this; omega
      · exact h
      · have : N * (top + 1) ≤ N * c := Nat.mul_le_mul_left _ h
        rw [Nat.mul_add] at this; omega
    subst hc
    exact ⟨fun _ => ⟨rfl, by omega⟩, fun h => by omega⟩
  · have e : out + D + N * top = r + N * c := by rw [Nat.add_mul] at hP; omega
    have hc : c = top + 1 := by
      rcases Nat.lt_trichotomy c (top + 1) with h | h | h
      · have : N * c ≤ N * top := Nat.mul_le_mul_left _ (by omega)
        omega
      · exact h
      · have : N * (top + 2) ≤ N * c := Nat.mul_le_mul_left _ h
        rw [Nat.mul_add] at this; omega
    subst hc
    refine ⟨fun h => by omega, fun _ => ⟨rfl, fun out2 c2 ho2 h => ?_⟩⟩
    rw [Nat.mul_add] at e
    have e2 : out2 + N * c2 = r + N := by omega
    have hc2 : c2 = 1 := by
      rcases Nat.lt_trichotomy c2 1 with h' | h' | h'
      · have : c2 = 0 := by omega
        subst this; omega
      · exact h'
      · have : N * 2 ≤ N * c2 := Nat.mul_le_mul_left _ h'
        omega
    subst hc2
    omega
/-! plain: Euclid's steps that the highest bits alone make certain -/
theorem opp_nonneg {P Q t H x0 y0 α β : Int} (hs : (0 ≤ P ∧ Q ≤ 0) ∨ (P ≤ 0 ∧ 0 ≤ Q)) (hH : 0 < H) (ha0 : 0 ≤ α) (ha : α ≤ H) (hb0 : 0 ≤ β) (hb : β ≤ H) (ht : t = P * x0 + Q * y0) (h1 : 0 ≤ t + P) (h2 : 0 ≤ t + Q) : 0 ≤ P * (x0 * H + α) + Q * (y0 * H + β) := by
  have e : P * (x0 * H + α) + Q * (y0 * H + β) = t * H + P * α + Q * β := by rw [ht]; grind
  rw [e]
  rcases hs with ⟨hP, hQ⟩ | ⟨hP, hQ⟩
  · have k1 : 0 ≤ P * α := Int.mul_nonneg hP ha0
    have k2 : Q * H ≤ Q * β := Int.mul_le_mul_of_nonpos_left hQ hb
    have k3 : 0 ≤ (t + Q) * H := Int.mul_nonneg h2 (Int.le_of_lt hH)
    rw [Int.add_mul] at k3
    omega
  · have k1 : 0 ≤ Q * β := Int.mul_nonneg hQ hb0
    have k2 : P * H ≤ P * α := Int.mul_le_mul_of_nonpos_left hP ha
    have k3 : 0 ≤ (t + P) * H := Int.mul_nonneg h1 (Int.le_of_lt hH)
    rw [Int.add_mul] at k3
    omega
theorem opp_neg {P Q t H x0 y0 α β : Int} (hs : (0 ≤ P ∧ Q ≤ 0) ∨ (P ≤ 0 ∧ 0 ≤ Q)) (hH : 0 < H) (ha0 : 0 ≤ α) (ha : α ≤ H) (hb0 : 0 ≤ β) (hb : β ≤ H) (ht : t = P * x0 + Q * y0) (h1 : t + P < 0) (h2 : t + Q < 0) : P * (x0 * H + α) + Q * (y0 * H + β) < 0 := by
  have e : P * (x0 * H + α) + Q * (y0 * H + β) = t * H + P * α + Q * β := by rw [ht]; grind
  rw [e]
  rcases hs with ⟨hP, hQ⟩ | ⟨hP, hQ⟩
  · have k1 : Q * β ≤ 0 := Int.mul_nonpos_of_nonpos_of_nonneg hQ hb0
    have k2 : P * α ≤ P * H := Int.mul_le_mul_of_nonneg_left ha hP
    have k3 : (t + P) * H < 0 := Int.mul_neg_of_neg_of_pos h1 hH
    rw [Int.add_mul] at k3
    omega
  · have k1 : P * α ≤ 0 := Int.mul_nonpos_of_nonpos_of_nonneg hP ha0
    have k2 : Q * β ≤ Q * H := Int.mul_le_mul_of_nonneg_left hb hQ
    have k3 : (t + Q) * H < 0 := Int.mul_neg_of_neg_of_pos h2 hH
    rw [Int.add_mul] at k3
    omega
def Mx : Int := 4611686018427387904
/-- the state of the steps: x and y are what the highest bits have come to -/
structure Lh (a b x0 y0 A B C D x y e : Int) : Prop where
  ex : x = A * x0 + B * y0
  ey : y = C * x0 + D * y0
  he : e = 1 ∨ e = -1
  det : A * D - B * C = e
  sa : 0 ≤ e * A
  sb : e * B ≤ 0
  sc : e * C ≤ 0
  sd : 1 ≤ e * D
  u1 : 1 ≤ x + A
  v1 : 1 ≤ x + B
  w0 : 0 ≤ y + C
  z0 : 0 ≤ y + D
  uM : x + A ≤ Mx
  vM : x + B ≤ Mx
  wM : y + C ≤ Mx
  zM : y + D ≤ Mx
  wu : y + C ≤ x + A
  aM : -Mx ≤ A ∧ A ≤ Mx
  bM : -Mx ≤ B ∧ B ≤ Mx
  cM : -Mx ≤ C ∧ C ≤ Mx
  dM : -Mx ≤ D ∧ D ≤ Mx
  bb : C * a + D * b ≤ b
  fin : (A = 1 ∧ B = 0 ∧ C = 0 ∧ D = 1) ∨ (B ≠ 0 ∧ 0 ≤ C * a + D * b ∧ C * a + D * b < A * a + B * b ∧ A * a + B * b ≤ b)
theorem Lh.start {a b x0 y0 : Int} (hx : 1 ≤ x0) (hxM : x0 < Mx) (hy : 0 ≤ y0) (hxy : y0 ≤ x0) : Lh a b x0 y0 1 0 0 1 x0 y0 1 := by
  have : Mx = 4611686018427387904 := rfl
  exact ⟨by omega, by omega, .inl rfl, by omega, by omega, by omega, by omega, by omega, by omega, by omega, by omega, by omega, by omega, by omega, by omega, by omega, by omega, by omega, by omega, by omega, by omega, by omega, .inl ⟨rfl, rfl, rfl, rfl⟩⟩
theorem sgn_opp {e P Q : Int} (he : e = 1 ∨ e = -1) (h1 : 0 ≤ e * P) (h2 : e * Q ≤ 0) : (0 ≤ P ∧ Q ≤ 0) ∨ (P ≤ 0 ∧ 0 ≤ Q) := by
  rcases he with rfl | rfl
  · left; omega
  · right; omega
theorem Lh.q_facts {u w : Int} (hu : 0 ≤ u) (hw : 0 < w) : 0 ≤ u / w ∧ 0 ≤ u - u / w * w ∧ u - u / w * w < w ∧ u - (u / w + 1) * w < 0 := by
  have h1 := Int.emod_add_mul_ediv u w
  have h2 := Int.emod_nonneg u (Int.ne_of_gt hw)
  have h3 := Int.emod_lt_of_pos u hw
  have h4 := Int.ediv_nonneg hu (Int.le_of_lt hw)
  rw [Int.mul_comm] at h1
  rw [Int.add_mul]
  omega
set_option maxHeartbeats 1000000 in
theorem Lh.step {a b x0 y0 A B C D x y e q H α β : Int} (h : Lh a b x0 y0 A B C D x y e) (hH : 0 < H) (ha0 : 0 ≤ α) (ha : α ≤ H) (hb0 : 0 ≤ β) (hb : β ≤ H) (ea : a = x0 * H + α) (eb : b = y0 * H + β) (x0M : x0 < Mx) (y0M : y0 < Mx)
    (hw : y + C ≠ 0) (hz : y + D ≠ 0) (q1 : q = (x + A) / (y + C)) (q2 : q = (x + B) / (y + D)) : Lh a b x0 y0 C D (A - q * C) (B - q * D) y (x - q * y) (-e) ∧ 1 ≤ q ∧ q ≤ Mx := by
  have hMx : Mx = 4611686018427387904 := rfl
  obtain ⟨ex, ey, he, det, sa, sb, sc, sd, u1, v1, w0, z0, uM, vM, wM, zM, wu, aM, bM, cM, dM, bb, fin⟩ := h
  obtain ⟨f1, f2, f3, f4⟩ := q_facts (u := x + A) (w := y + C) (by omega) (by omega)
  obtain ⟨g1, g2, g3, g4⟩ := q_facts (u := x + B) (w := y + D) (by omega) (by omega)
  rw [← q1] at f1 f2 f3 f4
  rw [← q2] at g1 g2 g3 g4
  have hq1 : 1 ≤ q := by rw [q1]; exact (Int.le_ediv_iff_mul_le (by omega)).2 (by omega)
  have hqM : q ≤ Mx := by
    rw [q1]
    exact Int.le_trans (Int.ediv_le_self _ (by omega)) uM
  have m1 : x - q * y + (A - q * C) = x + A - q * (y + C) := by grind
  have m2 : x - q * y + (B - q * D) = x + B - q * (y + D) := by grind
  have sa' : 0 ≤ -e * C := by grind
  have sb' : -e * D ≤ 0 := by grind
  have k1 : 0 ≤ -(e * C) * q := Int.mul_nonneg (by omega) (by omega)
  have k2 : q * 1 ≤ q * (e * D) := Int.mul_le_mul_of_nonneg_left sd (by omega)
  have sc' : -e * (A - q * C) ≤ 0 := by grind
  have sd' : 1 ≤ -e * (B - q * D) := by grind
  have opp := sgn_opp (e := e) (P := A - q * C) (Q := B - q * D) he (by grind) (by grind)
  have kk1 : 0 ≤ -(e * C) * (q + 1) := Int.mul_nonneg (by omega) (by omega)
  have kk2 : 0 ≤ (e * D) * (q + 1) := Int.mul_nonneg (by omega) (by omega)
  have opp1 := sgn_opp (e := e) (P := A - (q + 1) * C) (Q := B - (q + 1) * D) he (by grind) (by grind)
  have low := opp_nonneg (t := x - q * y) (x0 := x0) (y0 := y0) opp hH ha0 ha hb0 hb (by grind) (by omega) (by omega)
  have high := opp_neg (t := x - (q + 1) * y) (x0 := x0) (y0 := y0) opp1 hH ha0 ha hb0 hb (by grind) (by grind) (by grind)
  rw [← ea, ← eb] at low high
  have hdet : C * (B - q * D) - D * (A - q * C) = -e := by grind
  -- the coefficients: e'D' u' - e'B' w' = x0 + 1
  have c1 : (-e * (B - q * D)) * (y + C) + (-(-e * D)) * (x - q * y + (A - q * C)) = x0 + 1 := by
    rcases he with rfl | rfl <;> grind
  have c2 : (-(-e * (A - q * C))) * (y + C) + (-e * C) * (x - q * y + (A - q * C)) = y0 := by
    rcases he with rfl | rfl <;> grind
  have p1 : 0 ≤ (-(-e * D)) * (x - q * y + (A - q * C)) := Int.mul_nonneg (by omega) (by omega)
  have p2 : 0 ≤ (-e * C) * (x - q * y + (A - q * C)) := Int.mul_nonneg (by omega) (by omega)
  have p3 : (-e * (B - q * D)) * 1 ≤ (-e * (B - q * D)) * (y + C) := Int.mul_le_mul_of_nonneg_left (by omega) (by omega)
  have p4 : (-(-e * (A - q * C))) * 1 ≤ (-(-e * (A - q * C))) * (y + C) := Int.mul_le_mul_of_nonneg_left (by omega) (by omega)
  have cM' : -Mx ≤ A - q * C ∧ A - q * C ≤ Mx := by rcases he with rfl | rfl <;> omega
  have dM' : -Mx ≤ B - q * D ∧ B - q * D ≤ Mx := by rcases he with rfl | rfl <;> omega
  have e1 : (A - q * C) * a + (B - q * D) * b = A * a + B * b - q * (C * a + D * b) := by grind
  have e2 : (A - (q + 1) * C) * a + (B - (q + 1) * D) * b = A * a + B * b - q * (C * a + D * b) - (C * a + D * b) := by grind
  rw [e1] at low
  rw [e2] at high
  refine ⟨⟨ey, by grind, by omega, hdet, sa', sb', sc', sd', by omega, by omega, by omega, by omega, wM, zM, by omega, by omega, by omega, cM, dM, cM', dM', by rw [e1]; omega, .inr ⟨by rintro rfl; omega, by rw [e1]; exact low, by rw [e1]; omega, bb⟩⟩, hq1, hqM⟩
/-- the matrix keeps common divisors -/
theorem gcd_det {A B C D e : Int} {a b : Int} (he : e = 1 ∨ e = -1) (det : A * D - B * C = e) : Int.gcd (A * a + B * b) (C * a + D * b) = Int.gcd a b := by
  have h1 : ∀ k : Int, k ∣ a → k ∣ b → k ∣ A * a + B * b ∧ k ∣ C * a + D * b := fun k h1 h2 =>
    ⟨Int.dvd_add (Int.dvd_trans h1 (Int.dvd_mul_left _ _)) (Int.dvd_trans h2 (Int.dvd_mul_left _ _)), Int.dvd_add (Int.dvd_trans h1 (Int.dvd_mul_left _ _)) (Int.dvd_trans h2 (Int.dvd_mul_left _ _))⟩
  have h2 : ∀ k : Int, k ∣ A * a + B * b → k ∣ C * a + D * b → k ∣ a ∧ k ∣ b := fun k h1 h2 => by
    have ea : a = e * D * (A * a + B * b) + -(e * B) * (C * a + D * b) := by rcases he with rfl | rfl <;> grind
    have eb : b = -(e * C) * (A * a + B * b) + e * A * (C * a + D * b) := by rcases he with rfl | rfl <;> grind
    refine ⟨?_, ?_⟩
    · rw [ea]; exact Int.dvd_add (Int.dvd_trans h1 (Int.dvd_mul_left _ _)) (Int.dvd_trans h2 (Int.dvd_mul_left _ _))
    · rw [eb]; exact Int.dvd_add (Int.dvd_trans h1 (Int.dvd_mul_left _ _)) (Int.dvd_trans h2 (Int.dvd_mul_left _ _))
  apply Nat.dvd_antisymm
  · obtain ⟨x1, x2⟩ := h2 _ (Int.gcd_dvd_left ..) (Int.gcd_dvd_right ..)
    exact Int.natCast_dvd_natCast.1 (Int.dvd_coe_gcd x1 x2)
  · obtain ⟨x1, x2⟩ := h1 _ (Int.gcd_dvd_left ..) (Int.gcd_dvd_right ..)
    exact Int.natCast_dvd_natCast.1 (Int.dvd_coe_gcd x1 x2)
/-! plain: words shifted by s bits -/
theorem up0_mul (x s : Nat) (hs : s ≤ 64) : up0 x s = 2 ^ s * (x % 2 ^ (64 - s)) := by
  unfold up0
  rw [WB_pow, show (2 : Nat) ^ 64 = 2 ^ s * 2 ^ (64 - s) by rw [← Nat.pow_add]; congr 1; omega, Nat.mul_comm x, Nat.mul_mod_mul_left]
theorem or_low {x s c : Nat} (hs : s ≤ 64) (hc : c < 2 ^ s) : c ||| up0 x s = c + up0 x s := by
  rw [up0_mul x s hs, Nat.or_comm, ← Nat.two_pow_add_eq_or_of_lt hc, Nat.add_comm]
theorem up_total (x s : Nat) (hs : s ≤ 64) : up0 x s + WB * (x / 2 ^ (64 - s)) = 2 ^ s * x := by
  rw [up0_mul x s hs, WB_pow, show (2 : Nat) ^ 64 = 2 ^ s * 2 ^ (64 - s) by rw [← Nat.pow_add]; congr 1; omega, Nat.mul_assoc, ← Nat.mul_add, Nat.mod_add_div]
theorem up_sum_lt {x s c : Nat} (hs : s ≤ 64) (hc : c < 2 ^ s) : c + up0 x s < WB := by
  rw [up0_mul x s hs, WB_pow]
  have h1 : x % 2 ^ (64 - s) < 2 ^ (64 - s) := Nat.mod_lt _ (Nat.pow_pos (by decide))
  have h2 : 2 ^ s * (x % 2 ^ (64 - s) + 1) ≤ 2 ^ s * 2 ^ (64 - s) := Nat.mul_le_mul_left _ h1
  have h3 : (2 : Nat) ^ 64 = 2 ^ s * 2 ^ (64 - s) := by rw [← Nat.pow_add]; congr 1; omega
  rw [Nat.mul_add] at h2
  omega
theorem carry_lt {x s : Nat} (hs : s ≤ 64) (hx : Wd x) : x / 2 ^ (64 - s) < 2 ^ s := by
  rw [Nat.div_lt_iff_lt_mul (Nat.pow_pos (by decide)), ← Nat.pow_add, show s + (64 - s) = 64 by omega, ← WB_pow]
  exact hx
theorem su_step {s c x k : Nat} {out ws : List Nat} (hs : s ≤ 64) (hk : out.length = k) (hx : ws.getD k 0 = x) (H : val (out ++ [c]) = 2 ^ s * val (ws.take k)) :
    val (out ++ [c + up0 x s] ++ [x / 2 ^ (64 - s)]) = 2 ^ s * val (ws.take (k + 1)) := by
  rw [val_take_succ, hx, Nat.mul_add, ← H]
  rw [val_snoc, val_snoc, val_snoc]
  simp only [List.length_append, List.length_singleton, hk]
  have e := up_total x s hs
  have e2 : WB ^ (k + 1) * (x / 2 ^ (64 - s)) = WB ^ k * (WB * (x / 2 ^ (64 - s))) := by rw [Nat.pow_succ, Nat.mul_assoc]
  have e3 : 2 ^ s * (WB ^ k * x) = WB ^ k * (up0 x s + WB * (x / 2 ^ (64 - s))) := by rw [e, Nat.mul_left_comm]
  rw [e2, e3, Nat.mul_add, Nat.mul_add]
  omega
theorem sd_step {s x y k : Nat} {o ws : List Nat} (hs : s ≤ 64) (hk : o.length = k) (hx : ws.getD (k + 1) 0 = x) (H : val (o ++ [y]) = val (ws.take (k + 1)) / 2 ^ s) :
    val (o ++ [y + up0 x (64 - s)] ++ [x / 2 ^ s]) = val (ws.take (k + 1 + 1)) / 2 ^ s := by
  rw [val_take_succ _ (k + 1), hx]
  have hp : 0 < 2 ^ s := Nat.pow_pos (by decide)
  have e := up_total x (64 - s) (by omega)
  rw [show 64 - (64 - s) = s by omega] at e
  have e1 : WB ^ (k + 1) * x = 2 ^ s * (WB ^ k * (2 ^ (64 - s) * x)) := by
    have : WB = 2 ^ s * 2 ^ (64 - s) := by rw [WB_pow, ← Nat.pow_add]; congr 1; omega
    rw [Nat.pow_succ]
    calc WB ^ k * WB * x = WB ^ k * (2 ^ s * 2 ^ (64 - s)) * x := by rw [← this]
      _ = 2 ^ s * (WB ^ k * (2 ^ (64 - s) * x)) := by simp only [Nat.mul_assoc, Nat.mul_left_comm]
  rw [e1, Nat.add_mul_div_left _ _ hp, ← H, val_snoc, val_snoc, val_snoc]
  simp only [List.length_append, List.length_singleton, hk]
  rw [← e, Nat.pow_succ]
  simp only [Nat.mul_add, Nat.mul_assoc]
  omega
end Go.Proofs.YtjjomjjgoceklaaGreat
namespace Go.Proofs.YtjjomjjgoceklaaGreat
set_option maxRecDepth 100000
open Go.RowKit

theorem div_uniq' {m q r d : Nat} (h : m = q * d + r) (hr : r < d) : q = m / d ∧ r = m % d := by
  have hd : 0 < d := by omega
  refine ⟨?_, ?_⟩
  · rw [h, Nat.mul_comm, Nat.mul_add_div hd, Nat.div_eq_of_lt hr, Nat.add_zero]
  · rw [h, Nat.mul_comm, Nat.mul_add_mod, Nat.mod_eq_of_lt hr]
def PGu (g : Nat) (w : World) (e : Ending) (w' : World) : Prop := Below w.heap.size w w' ∧ e = .returned (.int .u64 (g : Int))
theorem PGu.ret {w w' : World} {g k : Nat} (hb : Below w.heap.size w w') (h : k = g) : PGu g w (.returned (.int .u64 (k : Int))) w' := ⟨hb, by rw [h]⟩
set_option maxRecDepth 100000 in
set_option maxHeartbeats 800000 in
theorem guessWord_any (top mid low dv sc : Nat) (w : World) (_h1 : Wd top) (h2 : Wd mid) (h3 : Wd low) (h4 : Wd dv) (h5 : Wd sc) (h0 : 0 < dv) :
    Calls Tryz.prog 161 #[.int .u64 (top : Int), .int .u64 (mid : Int), .int .u64 (low : Int), .int .u64 (dv : Int), .int .u64 (sc : Int)] w (PGu (guessN top mid low dv sc) w) := by
  by_cases ht : dv ≤ top
  · have t1 : (dv : Int) ≤ (top : Int) := by omega
    have hG : Hid (guessN top mid low dv sc = WB - 1) := by show _ = _; unfold guessN; rw [if_pos ht]
    clear _h1 h2 h3 h4 h5 h0 ht
    go_enter Tryz.func161, Tryz.ntmps161
    go_wp2
    go_ret
    refine ⟨Below.refl _ _, ?_⟩
    rw [hG.out]
    rfl
  · have t1 : ¬ (dv : Int) ≤ (top : Int) := by omega
    have hlt : top < dv := by omega
    have hG : Hid (guessN top mid low dv sc = (top * WB * WB + mid * WB + low) / (dv * WB + sc)) := by show _ = _; unfold guessN; rw [if_neg ht]
    have H0 := Lib.hid h0
    have H2 := Lib.hid h2
    have H3 := Lib.hid h3
    have H4 := Lib.hid h4
    have H5 := Lib.hid h5
    have HLT := Lib.hid hlt
    clear _h1 h2 h3 h4 h5 h0 ht hlt
    go_enter Tryz.func161, Tryz.ntmps161
    go_wp2_with fail
    refine (div64_any top mid dv _ HLT.out H4.out H2.out).mono ?_
    rintro e w1 ⟨hb1, q, r, rfl, hq, hr, E⟩
    have S0 : Hid (Gs3 top mid low dv sc q r) := by
      obtain ⟨e1, e2⟩ := div_uniq' E hr
      have := gs3_start (top := top) (mid := mid) (low := low) (dv := dv) (sc := sc) H0.out H3.out
      rw [← e1, ← e2] at this
      exact this
    have hrw : Wd r := Nat.lt_trans hr H4.out
    have HR := Lib.hid hrw
    have HQ := Lib.hid hq
    clear E hr hrw hq
    go_wp2
    go_loopw [11, 12] (fun gv rv wr => ∃ g r : Nat, gv = .int .u64 g ∧ rv = .int .u64 r ∧ Hid (Wd g) ∧ Hid (Wd r) ∧ Hid (Gs3 top mid low dv sc g r) ∧ Below w.heap.size w wr) (fun gv _ _ => (intOf gv).toNat)
    case atStart => exact ⟨q, r, rfl, rfl, HQ.out, HR.out, S0.out, hb1⟩
    case round =>
      obtain ⟨g, r, rfl, rfl, hg, hr, HS, hbel⟩ := hrel
      go_wp2_with fail
      refine (mul64_any g sc hg.out H5.out _).mono ?_
      rintro e w2 ⟨rfl, h, l, rfl, hl, hh, EM⟩
      by_cases hA : h < r
      · have a1 : (h : Int) < (r : Int) := by omega
        have HD := Lib.hid (gs3_done H0.out HS.out (by
          have := EM.out
          have h6 : (h + 1) * WB ≤ r * WB := Nat.mul_le_mul_right _ hA
          rw [Nat.add_mul] at h6
          rw [← this, Nat.mul_comm WB h]
          unfold Wd at hl
          omega))
        clear hA HS
        go_wp2
        go_ret
        exact PGu.ret hbel (by rw [hG.out, HD.out])
      · by_cases hB : h = r ∧ l ≤ low
        · obtain ⟨rfl, hlo⟩ := hB
          have a2 : (l : Int) ≤ (low : Int) := by omega
          have HD := Lib.hid (gs3_done H0.out HS.out (by rw [← EM.out, Nat.mul_comm WB h]; omega))
          clear hA hlo HS
          go_wp2
          go_ret
          exact PGu.ret hbel (by rw [hG.out, HD.out])
        · have hC : r * WB + low < g * sc := by
            rw [← EM.out]
            rcases Nat.lt_trichotomy h r with h6 | h6 | h6
            · omega
            · subst h6; rw [Nat.mul_comm WB h]; omega
            · have h7 : (r + 1) * WB ≤ h * WB := Nat.mul_le_mul_right _ h6
              rw [Nat.add_mul] at h7
              have := H3.out
              unfold Wd at this
              rw [Nat.mul_comm WB h]
              omega
          obtain ⟨hg0, HS1⟩ := gs3_next H0.out HS.out hC
          have e1 := subw g hg0 hg.out
          obtain ⟨s, k, hs, hk, E2, hrun⟩ := add64_run0 r dv hr.out H4.out
          have a1 : ¬ (h : Int) < (r : Int) := by omega
          have hg1 : Wd (g - 1) := Nat.lt_of_le_of_lt (Nat.sub_le _ _) hg.out
          have hgm : g - 1 < g := by omega
          have HGM := Lib.hid hgm
          have HG1 := Lib.hid hg1
          have HS1 := Lib.hid HS1
          generalize g - 1 = g1 at *
          have HS' := Lib.hid hs
          clear hg1 hgm hg0 HS hs
          have hk01 : k = 0 ∨ k = 1 := by omega
          rcases hk01 with rfl | rfl
          · have HE : Hid (s = r + dv) := by show _ = _; have := E2.out; omega
            rw [show ((0 : Nat) : Int) = 0 from rfl] at hrun
            by_cases hhr : h = r
            · subst hhr
              have a2 : ¬ (l : Int) ≤ (low : Int) := by omega
              clear hB hC hA
              go_wp2
              go_roundw
              case rel => exact ⟨g1, s, by first | rfl | rw [e1], rfl, HG1.out, HS'.out, by rw [HE.out]; exact HS1.out, hbel⟩
              case measure => simp [intOf]; exact HGM.out
            · have a3 : ((h : Int) == (r : Int)) = false := by rw [beq_eq_false_iff_ne]; omega
              clear hB hC hA hhr
              go_wp2
              go_roundw
              case rel => exact ⟨g1, s, by first | rfl | rw [e1], rfl, HG1.out, HS'.out, by rw [HE.out]; exact HS1.out, hbel⟩
              case measure => simp [intOf]; exact HGM.out
          · have HD := Lib.hid (gs3_over H0.out HS1.out HG1.out H5.out (by have := E2.out; omega))
            rw [show ((1 : Nat) : Int) = 1 from rfl] at hrun
            by_cases hhr : h = r
            · subst hhr
              have a2 : ¬ (l : Int) ≤ (low : Int) := by omega
              clear hB hC hA
              go_wp2
              go_ret
              exact PGu.ret hbel (by rw [hG.out, HD.out])
            · have a3 : ((h : Int) == (r : Int)) = false := by rw [beq_eq_false_iff_ne]; omega
              clear hB hC hA hhr
              go_wp2
              go_ret
              exact PGu.ret hbel (by rw [hG.out, HD.out])
end Go.Proofs.YtjjomjjgoceklaaGreat
namespace Go.Proofs.YtjjomjjgoceklaaGreat
set_option maxRecDepth 100000
open Go.RowKit

def PUp (s : Nat) (ws : List Nat) (w : World) (e : Ending) (w' : World) : Prop := Below w.heap.size w w' ∧ ∃ us : List Nat, e = .returned (.slice (some ⟨w.heap.size, 0, none⟩) (ws.length + 1) (ws.length + 1)) ∧ us.length = ws.length + 1 ∧ Wds us ∧ w'.rowIs w.heap.size 23 (ws.length + 1) (wf us) ∧ val us = 2 ^ s * val ws
set_option maxRecDepth 100000 in
set_option maxHeartbeats 800000 in
theorem shiftedUp_any (v : Value) (ws : List Nat) (s : Nat) (w : World) (h : Sl w v ws) (hl : ws.length ≤ 4000) (hs : s ≤ 63) : Calls Tryz.prog 160 #[v, .int .i64 (s : Int)] w (PUp s ws w) := by
  have hws := h.1
  obtain ⟨p, cw, rfl, hg⟩ := h.opened' w.heap.size (Nat.le_refl _)
  have hmk := mk_words1 ws.length hl
  have WS := Lib.hid hws
  have HG := Lib.hid hg
  clear h hws hg
  go_enter Tryz.func160, Tryz.ntmps160
  go_wp2
  clear hmk
  go_loopw [14] (fun i wr => ∃ (k c : Nat) (out : List Nat), k ≤ ws.length ∧ i = .int .i64 k ∧ Hid (c < 2 ^ s) ∧ Hid (out.length = k) ∧ Wds out ∧ wr.rowIs w.heap.size 23 (ws.length + 1) (wf (out ++ [c])) ∧ Below w.heap.size w wr ∧ Hid (val (out ++ [c]) = 2 ^ s * val (ws.take k))) (fun i _ => ws.length - (intOf i).toNat)
  case atStart => exact ⟨0, 0, [], Nat.zero_le _, rfl, Nat.pow_pos (by decide), rfl, Wds.nil, (row_new _ _).congr (fun j _ => by unfold wf; cases j <;> simp), (Below.refl _ _).alloc (Nat.le_refl _) _, by show _ = _; simp [val]⟩
  case round =>
    obtain ⟨k, c, out, hk, rfl, HC, HL, hw, hrow, hbel, HV⟩ := hrel
    have hcw : c < WB := Nat.lt_of_lt_of_le HC.out (by rw [WB_pow]; exact Nat.pow_le_pow_right (by decide) (by omega))
    by_cases hlt : k < ws.length
    · obtain ⟨b, o, rfl, hbg, hbl, hcell⟩ := HG.out k hlt
      have wx := WS.out.getD k
      generalize hx : ws.getD k 0 = x at *
      have c1 := (hbel.cell (p := ⟨b, o + k, none⟩) hbl).trans hcell
      have c2 := hrow.cell (i := k) (by omega)
      have e0 : wf (out ++ [c]) k = .int .u64 (c : Int) := by have := wf_at out [] c; rw [HL.out] at this; exact this
      rw [e0] at c2
      have c3 := hrow.frozen k
      obtain ⟨t, ht⟩ : ∃ t, t = 64 - s := ⟨_, rfl⟩
      have e4 : (64 : Int) - (s : Int) = (t : Int) := by omega
      have e1 := wshl0 x s
      obtain ⟨d, hd⟩ : ∃ d, d = c + up0 x s := ⟨_, rfl⟩
      have e2 : bits .or .u64 (c : Int) ((up0 x s : Nat) : Int) = (d : Int) := by rw [or64 _ _ hcw (up0_lt x s), or_low (by omega) HC.out, hd]
      have e3 := dshr x t
      have ST := Lib.hid (su_step (by omega) HL.out hx HV.out)
      have CL := Lib.hid (carry_lt (s := s) (by omega) wx)
      have CS := Lib.hid (up_sum_lt (x := x) (by omega) HC.out)
      rw [← ht] at ST CL
      rw [← hd] at ST CS
      clear hd
      generalize up0 x s = u at *
      generalize x / 2 ^ t = c' at *
      have r1 : (wr.setCell ⟨w.heap.size, k, none⟩ (.int .u64 (d : Int))).rowIs w.heap.size 23 (ws.length + 1) (wf (out ++ [d])) := by
        have := row_mid (X := out) (Z := []) hrow d
        rw [HL.out] at this
        exact this
      have c5 := r1.frozen (k + 1)
      have c6 := r1.cell (i := k + 1) (by omega)
      have e5 : wf (out ++ [d]) (k + 1) = .int .u64 0 := by unfold wf; rw [List.getD_eq_getElem?_getD, List.getElem?_eq_none (by simp [HL.out])]; rfl
      rw [e5] at c6
      have r2 := row_push r1 c'
      rw [show (out ++ [d]).length = k + 1 by simp [HL.out]] at r2
      have hb2 : Below w.heap.size w ((wr.setCell ⟨w.heap.size, k, none⟩ (.int .u64 (d : Int))).setCell ⟨w.heap.size, k + 1, none⟩ (.int .u64 (c' : Int))) := (hbel.setCell (Nat.le_refl _) _).setCell (Nat.le_refl _) _
      have R2 := Lib.hid r2
      have B2 := Lib.hid hb2
      have WN := Lib.hid (hw.snoc CS.out)
      have HT := Lib.hid ht
      have hk1 : (k : Int) < (ws.length : Int) := by omega
      have hk2 : (k : Int) < (ws.length : Int) + 1 := by omega
      have hk3 : (k : Int) + 1 < (ws.length : Int) + 1 := by omega
      clear hcell hx hcw ht hrow hbel r1 r2 hb2 e0 e5 wx
      go_wp2
      go_still_tail 9, (by kernel_rfl)
      go_wp2
      go_roundw
      case rel => exact ⟨k + 1, c', out ++ [d], by omega, by go_num, CL.out, by show _ = _; simp [HL.out], WN.out, R2.out.drew, B2.out.drew, ST.out⟩
      case measure => simp [intOf]; omega
    · obtain rfl : k = ws.length := by omega
      have HB := Lib.hid hbel
      have HR := Lib.hid hrow
      have HW := Lib.hid hw
      have HCW := Lib.hid hcw
      clear hbel hrow hw hcw
      go_wp2
      go_ret
      exact ⟨HB.out, out ++ [c], rfl, by simp [HL.out], HW.out.snoc HCW.out, HR.out, by have := HV.out; rw [List.take_length] at this; exact this⟩
end Go.Proofs.YtjjomjjgoceklaaGreat
namespace Go.Proofs.YtjjomjjgoceklaaGreat
set_option maxRecDepth 100000
open Go.RowKit

def PDn (s : Nat) (ws : List Nat) (w : World) (e : Ending) (w' : World) : Prop := Below w.heap.size w w' ∧ ∃ (v' : Value) (us : List Nat), e = .returned v' ∧ Sl w' v' (norm us) ∧ Wds us ∧ val us = val ws / 2 ^ s
theorem sd_step' {s x k y : Nat} {out ws : List Nat} (hs : s ≤ 64) (hk : out.length = k + 1) (hy : out.getD k 0 = y) (hx : ws.getD (k + 1) 0 = x) (H : val out = val (ws.take (k + 1)) / 2 ^ s) :
    out = out.take k ++ [y] ∧ (out.take k).length = k ∧ val (out.take k ++ [y + up0 x (64 - s)] ++ [x / 2 ^ s]) = val (ws.take (k + 1 + 1)) / 2 ^ s := by
  have h1 : out = out.take k ++ [y] := by
    have := take_succ_getD out k (by omega)
    rw [hy, List.take_of_length_le (by omega)] at this
    exact this
  have h2 : (out.take k).length = k := by rw [List.length_take]; omega
  refine ⟨h1, h2, sd_step hs h2 hx ?_⟩
  rw [← h1]; exact H
set_option maxRecDepth 100000 in
set_option maxHeartbeats 1600000 in
theorem shiftedDown_any (v : Value) (ws : List Nat) (s : Nat) (w : World) (h : Sl w v ws) (hl : ws.length ≤ 4000) (hs : s ≤ 63) : Calls Tryz.prog 163 #[v, .int .i64 (s : Int)] w (PDn s ws w) := by
  have hws := h.1
  obtain ⟨p, cw, rfl, hg⟩ := h.opened' w.heap.size (Nat.le_refl _)
  have hmk := mk_words ws.length (by omega)
  have WS := Lib.hid hws
  have HG := Lib.hid hg
  clear h hws hg
  go_enter Tryz.func163, Tryz.ntmps163
  go_wp2
  clear hmk
  go_loopw [13] (fun i wr => ∃ (k : Nat) (out : List Nat), k ≤ ws.length ∧ i = .int .i64 k ∧ Hid (out.length = k) ∧ Wds out ∧ wr.rowIs w.heap.size 23 ws.length (wf out) ∧ Below w.heap.size w wr ∧ Hid (val out = val (ws.take k) / 2 ^ s) ∧ Hid (k = 0 ∨ out.getD (k - 1) 0 < 2 ^ (64 - s))) (fun i _ => ws.length - (intOf i).toNat)
  case atStart => exact ⟨0, [], Nat.zero_le _, rfl, rfl, Wds.nil, row_new _ _, (Below.refl _ _).alloc (Nat.le_refl _) _, by show _ = _; simp [val], .inl rfl⟩
  case round =>
    obtain ⟨k, out, hk, rfl, HL, hw, hrow, hbel, HV, HY⟩ := hrel
    by_cases hlt : k < ws.length
    · obtain ⟨b, o, rfl, hbg, hbl, hcell⟩ := HG.out k hlt
      have wx := WS.out.getD k
      generalize hx : ws.getD k 0 = x at *
      have c1 := (hbel.cell (p := ⟨b, o + k, none⟩) hbl).trans hcell
      have c3 := hrow.frozen k
      have c2 := hrow.cell (i := k) (by omega)
      have e5 : wf out k = .int .u64 0 := by unfold wf; rw [List.getD_eq_getElem?_getD, List.getElem?_eq_none (by rw [HL.out]; omega)]; rfl
      rw [e5] at c2
      have e3 := dshr x s
      have CL : x / 2 ^ s < 2 ^ (64 - s) := by have := carry_lt (x := x) (s := 64 - s) (by omega) wx; rw [show 64 - (64 - s) = s by omega] at this; exact this
      have WN : Wd (x / 2 ^ s) := Nat.lt_of_le_of_lt (Nat.div_le_self _ _) wx
      have hk1 : (k : Int) < (ws.length : Int) := by omega
      cases k with
      | zero =>
        have ho : out = [] := List.length_eq_zero_iff.1 HL.out
        subst ho
        have r1 := row_push hrow (x / 2 ^ s)
        have ST : val ([] ++ [x / 2 ^ s]) = val (ws.take (0 + 1)) / 2 ^ s := by rw [val_take_succ, hx]; simp [val]
        rw [show ([] : List Nat).length = 0 from rfl] at r1
        generalize x / 2 ^ s = d at *
        have R1 := Lib.hid r1
        have B1 := Lib.hid (hbel.setCell (p := ⟨w.heap.size, 0, none⟩) (Nat.le_refl _) (.int .u64 (d : Int)))
        have ST := Lib.hid ST
        have CL := Lib.hid CL
        have WN := Lib.hid WN
        rw [Nat.add_zero] at c1
        rw [show ((0 : Nat) : Int) = 0 from rfl] at *
        clear hcell hx hrow hbel r1 e5 wx HV HY
        go_wp2
        go_roundw
        case rel => exact ⟨1, [d], by omega, rfl, rfl, (by intro y hy; rw [List.mem_singleton] at hy; rw [hy]; exact WN.out), R1.out, B1.out, ST.out, .inr CL.out⟩
        case measure => simp [intOf]; omega
      | succ k =>
        have hy0 := HY.out
        rw [show k + 1 - 1 = k by omega] at hy0
        have hyl : out.getD k 0 < 2 ^ (64 - s) := hy0.elim (fun h => by omega) id
        have wy := hw.getD k
        generalize hy : out.getD k 0 = y at *
        obtain ⟨ho, hol, ST⟩ := sd_step' (by omega) HL.out hy hx HV.out
        obtain ⟨t, ht⟩ : ∃ t, t = 64 - s := ⟨_, rfl⟩
        have e4 : (64 : Int) - (s : Int) = (t : Int) := by omega
        have e8 : IntKind.i64.wrap (t : Int) = (t : Int) := IntWalk.i64_in _ (by omega)
        have e1 := wshl0 x t
        obtain ⟨d, hd⟩ : ∃ d, d = y + up0 x t := ⟨_, rfl⟩
        have e2 : bits .or .u64 (y : Int) ((up0 x t : Nat) : Int) = (d : Int) := by rw [or64 _ _ wy (up0_lt x t), or_low (by omega) (by rw [ht]; exact hyl), hd]
        have hdw : Wd d := by rw [hd]; exact up_sum_lt (by omega) (by rw [ht]; exact hyl)
        rw [← ht, ← hd] at ST
        generalize up0 x t = u at *
        obtain ⟨z, hz⟩ : ∃ z, z = x / 2 ^ s := ⟨_, rfl⟩
        rw [← hz] at ST CL WN e3
        obtain ⟨oo, hoo⟩ : ∃ oo, oo = out.take k := ⟨_, rfl⟩
        rw [← hoo] at ho hol ST
        subst ho
        have r1 : (wr.setCell ⟨w.heap.size, k + 1, none⟩ (.int .u64 (z : Int))).rowIs w.heap.size 23 ws.length (wf (oo ++ y :: [z])) := by
          have := row_push hrow z
          rw [HL.out, List.append_assoc] at this
          exact this
        have c6 := r1.cell (i := k) (by omega)
        have e6 : wf (oo ++ y :: [z]) k = .int .u64 (y : Int) := by have := wf_at oo [z] y; rw [hol] at this; exact this
        rw [e6] at c6
        have c7 := r1.frozen k
        have r2 := row_mid r1 d
        rw [hol] at r2
        have hb2 : Below w.heap.size w ((wr.setCell ⟨w.heap.size, k + 1, none⟩ (.int .u64 (z : Int))).setCell ⟨w.heap.size, k, none⟩ (.int .u64 (d : Int))) := (hbel.setCell (Nat.le_refl _) _).setCell (Nat.le_refl _) _
        have R2 := Lib.hid r2
        have B2 := Lib.hid hb2
        have ST := Lib.hid ST
        have CL := Lib.hid CL
        have WN := Lib.hid WN
        have WD := Lib.hid hdw
        have HW := Lib.hid hw
        have HOL := Lib.hid hol
        have k1 : ((k + 1 : Nat) : Int) = (k : Int) + 1 := by omega
        rw [k1] at hk1
        have k2 : (0 : Int) < (k : Int) + 1 := by omega
        have k3 : (k : Int) < (ws.length : Int) := by omega
        have e7 : IntKind.i64.wrap (k : Int) = (k : Int) := IntWalk.i64_in _ (by omega)
        clear hcell hx hrow hbel r1 e5 wx HV HY hy0 hyl wy hy ht hd hdw hz hoo e6 r2 hb2 hw hol
        go_upto_region 7 with fail
        generalize hW : wr.setCell ⟨w.heap.size, k + 1, none⟩ (.int .u64 (z : Int)) = W at *
        clear hW
        go_still_tail 11, (by kernel_rfl)
        go_wp2
        go_roundw
        case rel => exact ⟨k + 1 + 1, oo ++ [d] ++ [z], by omega, by go_num, by show _ = _; simp [HOL.out], Wds.snoc (Wds.snoc (fun y hy => HW.out y (List.mem_append_left _ hy)) WD.out) WN.out, by simpa using R2.out.drew, B2.out.drew, ST.out, .inr (by rw [show k + 1 + 1 - 1 = (oo ++ [d]).length by simp [HOL.out]]; rw [List.getD_eq_getElem?_getD, List.getElem?_append_right (Nat.le_refl _)]; simpa using CL.out)⟩
        case measure => simp [intOf]; omega
    · obtain rfl : k = ws.length := by omega
      have hsl := Sl.of_row hrow HL.out hw (by omega) (Nat.le_refl _)
      have HB := Lib.hid hbel
      have HW := Lib.hid hw
      clear hbel hw hrow
      go_wp2_with (go_at_call 143; refine (trim_any _ _ _ hsl).mono ?_; rintro e w' ⟨rfl, v', rfl, hv'⟩)
      go_ret
      exact ⟨HB.out, _, out, rfl, hv', HW.out, by have := HV.out; rw [List.take_length] at this; exact this⟩
end Go.Proofs.YtjjomjjgoceklaaGreat
namespace Go.Proofs.YtjjomjjgoceklaaGreat
set_option maxRecDepth 100000
open Go.RowKit

/-! plain: the division's steps -/
theorem val_take_lt {l : List Nat} (h : Wds l) (k : Nat) : val (l.take k) < WB ^ k := by
  refine Nat.lt_of_lt_of_le (val_lt _ (fun x hx => h x (List.mem_of_mem_take hx))) (Nat.pow_le_pow_right WB_pos ?_)
  rw [List.length_take]; exact Nat.min_le_left _ _
theorem top_facts {ds us : List Nat} {s y n : Nat} (hl : ds.length = n + 1) (hy : ds.getD n 0 = y) (hul : us.length = n + 2) (hv : val us = 2 ^ s * val ds) (wd : Wds ds) (wu : Wds us) (hs : s ≤ 63) (h1 : y * 2 ^ s < WB) (h2 : WB ≤ 2 * (y * 2 ^ s)) :
    val (us.take (n + 1)) = 2 ^ s * val ds ∧ WB ≤ 2 * us.getD n 0 := by
  have e1 : val ds = val (ds.take n) + WB ^ n * y := by
    have := val_take_succ ds n
    rw [List.take_of_length_le (by omega), hy] at this; exact this
  have l1 := val_take_lt wd n
  have hp : 0 < 2 ^ s := Nat.pow_pos (by decide)
  have hw : WB = 2 ^ s * 2 ^ (64 - s) := by rw [WB_pow, ← Nat.pow_add]; congr 1; omega
  have hy1 : 2 ^ s * (y + 1) ≤ WB := by
    rw [hw]
    refine Nat.mul_le_mul_left _ ?_
    rw [hw, Nat.mul_comm] at h1
    exact Nat.lt_of_mul_lt_mul_left h1
  have hlt : 2 ^ s * val ds < WB ^ (n + 1) := by
    have a1 : val ds < WB ^ n * (y + 1) := by rw [e1, Nat.mul_add]; omega
    have a2 : 2 ^ s * val ds < 2 ^ s * (WB ^ n * (y + 1)) := Nat.mul_lt_mul_of_pos_left a1 hp
    have a3 : 2 ^ s * (WB ^ n * (y + 1)) = WB ^ n * (2 ^ s * (y + 1)) := Nat.mul_left_comm _ _ _
    have a4 : WB ^ n * (2 ^ s * (y + 1)) ≤ WB ^ n * WB := Nat.mul_le_mul_left _ hy1
    rw [Nat.pow_succ]
    omega
  have e2 : val us = val (us.take (n + 1)) + WB ^ (n + 1) * us.getD (n + 1) 0 := by
    have := val_take_succ us (n + 1)
    rw [List.take_of_length_le (by omega)] at this; exact this
  have e3 : us.getD (n + 1) 0 = 0 := by
    rcases Nat.eq_zero_or_pos (us.getD (n + 1) 0) with h | h
    · exact h
    · have : WB ^ (n + 1) * 1 ≤ WB ^ (n + 1) * us.getD (n + 1) 0 := Nat.mul_le_mul_left _ h
      omega
  rw [e3] at e2
  have e4 : val (us.take (n + 1)) = 2 ^ s * val ds := by omega
  refine ⟨e4, ?_⟩
  rw [val_take_succ] at e4
  have l2 := val_take_lt wu n
  have b1 : WB ^ n * (y * 2 ^ s) < WB ^ n * (us.getD n 0 + 1) := by
    have : WB ^ n * (y * 2 ^ s) ≤ 2 ^ s * val ds := by
      rw [e1, Nat.mul_add]
      have : 2 ^ s * (WB ^ n * y) = WB ^ n * (y * 2 ^ s) := by rw [Nat.mul_left_comm, Nat.mul_comm (2 ^ s)]
      omega
    rw [Nat.mul_add]
    omega
  have := Nat.lt_of_mul_lt_mul_left b1
  omega
/-- the words that a step divides -/
def Uof (rest : List Nat) (i n : Nat) : Nat := val ((rest.drop i).take n) + WB ^ n * rest.getD (i + n) 0
theorem getD_drop (l : List Nat) (i k : Nat) : (l.drop i).getD k 0 = l.getD (i + k) 0 := by simp [List.getD_eq_getElem?_getD, List.getElem?_drop]
theorem Uof_eq (rest : List Nat) (i n : Nat) : Uof rest i n = val ((rest.drop i).take (n + 1)) := by
  rw [val_take_succ, getD_drop]; rfl
theorem Uof_low {rest : List Nat} {i n : Nat} (h : i < rest.length) : Uof rest i n = rest.getD i 0 + WB * val ((rest.drop (i + 1)).take n) := by
  rw [Uof_eq, drop_getD rest i h, List.take_succ_cons]; rfl
theorem Uof_lt {rest : List Nat} {i n Dv : Nat} (h : i < rest.length) (wr : Wds rest) (H : val ((rest.drop (i + 1)).take n) < Dv) : Uof rest i n < Dv * WB := by
  rw [Uof_low h]
  have h1 := wr.getD i
  unfold Wd at h1
  have h2 : WB * (val ((rest.drop (i + 1)).take n) + 1) ≤ WB * Dv := Nat.mul_le_mul_left _ H
  rw [Nat.mul_add] at h2
  rw [Nat.mul_comm Dv]
  omega
theorem dw_guess {rest ds : List Nat} {i k Dv : Nat} (hlen : i + (k + 2) < rest.length) (wr : Wds rest) (wd : Wds ds) (hd : ds.length = k + 2) (hv : val ds = Dv) (hb : WB ≤ 2 * ds.getD (k + 1) 0) (H : val ((rest.drop (i + 1)).take (k + 2)) < Dv) :
    Uof rest i (k + 2) / Dv ≤ guessN (rest.getD (i + (k + 2)) 0) (rest.getD (i + (k + 1)) 0) (rest.getD (i + k) 0) (ds.getD (k + 1) 0) (ds.getD k 0) ∧
    guessN (rest.getD (i + (k + 2)) 0) (rest.getD (i + (k + 1)) 0) (rest.getD (i + k) 0) (ds.getD (k + 1) 0) (ds.getD k 0) ≤ Uof rest i (k + 2) / Dv + 1 ∧
    guessN (rest.getD (i + (k + 2)) 0) (rest.getD (i + (k + 1)) 0) (rest.getD (i + k) 0) (ds.getD (k + 1) 0) (ds.getD k 0) < WB := by
  have hlt := Uof_lt (n := k + 2) (by omega) wr H
  have hp : 0 < WB ^ k := Nat.pow_pos WB_pos
  refine guess_good (U := Uof rest i (k + 2)) (D := Dv) (u0 := val ((rest.drop i).take k)) (d0 := val (ds.take k)) (N := WB ^ k) hp ?_ ?_ ?_ (val_take_lt wd k) (wr.getD _) (wr.getD _) (wd.getD _) hlt hb
  · unfold Uof
    rw [val_take_succ, val_take_succ, getD_drop, getD_drop]
    simp only [Nat.pow_succ]
    generalize rest.getD (i + (k + 2)) 0 = t
    generalize rest.getD (i + (k + 1)) 0 = m
    generalize rest.getD (i + k) 0 = l
    generalize val ((rest.drop i).take k) = u
    generalize WB ^ k = N
    generalize WB = B
    grind
  · exact val_take_lt (fun x hx => wr x (List.mem_of_mem_drop hx)) k
  · rw [← hv]
    have := val_take_succ ds (k + 1)
    rw [List.take_of_length_le (by omega), val_take_succ] at this
    rw [this, Nat.pow_succ]
    generalize ds.getD (k + 1) 0 = t
    generalize ds.getD k 0 = m
    generalize val (ds.take k) = u
    generalize WB ^ k = N
    generalize WB = B
    grind
theorem dw_next {rest out tail : List Nat} {i n Dv A q : Nat} (hlen : i + n < rest.length) (ho : out.length = n) (hq : q = Uof rest i n / Dv) (hr : val out = Uof rest i n % Dv)
    (HV : val (rest.take (i + 1 + n)) + WB ^ (i + 1) * (val tail * Dv) = A) :
    ((rest.take i ++ (out ++ rest.drop (i + n))).drop i).take n = out ∧ val ((rest.take i ++ (out ++ rest.drop (i + n))).take (i + n)) + WB ^ i * (val (q :: tail) * Dv) = A ∧ (rest.take i ++ (out ++ rest.drop (i + n))).length = rest.length := by
  have l1 : (rest.take i).length = i := by rw [List.length_take]; omega
  refine ⟨?_, ?_, ?_⟩
  · rw [List.drop_left' l1]; exact List.take_left' ho
  · have e1 : (rest.take i ++ (out ++ rest.drop (i + n))).take (i + n) = rest.take i ++ out := by
      rw [← List.append_assoc]
      exact List.take_left' (by rw [List.length_append, l1, ho])
    rw [e1, val_append, l1]
    have e2 : rest.take (i + 1 + n) = rest.take i ++ (rest.drop i).take (n + 1) := by
      rw [show i + 1 + n = i + (n + 1) by omega, List.take_add]
    rw [e2, val_append, l1, ← Uof_eq] at HV
    have hdm := Nat.div_add_mod (Uof rest i n) Dv
    rw [← hq, ← hr] at hdm
    simp only [val]
    rw [Nat.pow_succ] at HV
    generalize Uof rest i n = U at *
    generalize val (rest.take i) = a at *
    generalize val out = o at *
    generalize val tail = t at *
    generalize WB ^ i = N at *
    generalize WB = B at *
    rw [← HV, ← hdm]
    grind
  · simp only [List.length_append, l1, ho, List.length_drop]
    omega
theorem dw_start {aw rs : List Nat} {s n Dv db : Nat} (hr : rs.length = aw.length + 1) (hv : val rs = 2 ^ s * val aw) (wa : Wds aw) (hn : n ≤ aw.length) (hn1 : 1 ≤ n) (hD : Dv = 2 ^ s * db) (hd : WB ^ (n - 1) ≤ db) :
    val ((rs.drop (aw.length - n + 1)).take n) < Dv := by
  have hp : 0 < 2 ^ s := Nat.pow_pos (by decide)
  have e1 : (rs.drop (aw.length - n + 1)).take n = rs.drop (aw.length - n + 1) := List.take_of_length_le (by rw [List.length_drop]; omega)
  rw [e1]
  have e2 := val_append (rs.take (aw.length - n + 1)) (rs.drop (aw.length - n + 1))
  rw [List.take_append_drop, List.length_take, Nat.min_eq_left (by omega), hv] at e2
  have h1 := val_lt aw wa
  have h2 : 2 ^ s * val aw < 2 ^ s * WB ^ aw.length := Nat.mul_lt_mul_of_pos_left h1 hp
  have h3 : WB ^ (aw.length - n + 1) * val (rs.drop (aw.length - n + 1)) < WB ^ (aw.length - n + 1) * (2 ^ s * WB ^ (n - 1)) := by
    have e3 : WB ^ (aw.length - n + 1) * (2 ^ s * WB ^ (n - 1)) = 2 ^ s * WB ^ aw.length := by
      rw [Nat.mul_left_comm, ← Nat.pow_add]; congr 2; omega
    omega
  have h4 := Nat.lt_of_mul_lt_mul_left h3
  rw [hD]
  exact Nat.lt_of_lt_of_le h4 (Nat.mul_le_mul_left _ hd)
theorem dw_end {r t a d s Dv : Nat} (hD : Dv = 2 ^ s * d) (_hd : 0 < d) (h : r + t * Dv = 2 ^ s * a) (hr : r < Dv) : t = a / d ∧ r / 2 ^ s = a % d := by
  have h1 : 2 ^ s * a = t * Dv + r := by omega
  obtain ⟨e1, e2⟩ := div_uniq' h1 hr
  have h2 := shifted a d s
  rw [hD, Nat.mul_comm (2 ^ s) a, Nat.mul_comm (2 ^ s) d] at e1 e2
  exact ⟨by rw [e1, h2.1], by rw [e2, h2.2]⟩
end Go.Proofs.YtjjomjjgoceklaaGreat
namespace Go.Proofs.YtjjomjjgoceklaaGreat
set_option maxRecDepth 100000
open Go.RowKit

section
variable {P : Program} {ops : Array Oper} {Q : Exit → Act → World → Prop}
def CAll (C : Nat → Value → World → Prop) (ops : Array Oper) (L : Nat → Bool) (f : Nat → Value) (w : World) : Prop := ∀ i o d, ops[i]? = some o → L i = true → o.dst = some d → C d (f d) w
/-- a region in whatever order in which one operation turns the world, and all others leave it as it is -/
theorem wp_region_one {id : Nat} {a0 : Act} {w : World} (D : Nat → Bool) (C : Nat → Value → World → Prop) (I0 I1 : World → Prop) (m : Nat) (om : Oper) (dm : Nat) (hom : ops[m]? = some om) (hdm : om.dst = some dm)
    (hm : P.follows .mixedOrders = true) (hback : backB .any ops = true) (hu : uniqB ops = true) (hD : (ops.toList.filterMap (·.dst)).all D = true) (h0 : I0 { w with drawn := w.drawn + 1 })
    (h1 : AllFrom (fun i o => ∀ f w, (I0 w ∨ I1 w) → (∀ d, (predD ops i).contains d = true → C d (f d) w) →
      Region.wanted o (yielded ops (fr a0 D f).tmps) = true ∧ ∃ d, o.dst = some d ∧ OpR P o (fr a0 D f) w fun v w' => w' = w ∧ C d v w) 0 (ops.toList.take m))
    (h2 : AllFrom (fun i o => ∀ f w, (I0 w ∨ I1 w) → (∀ d, (predD ops i).contains d = true → C d (f d) w) →
      Region.wanted o (yielded ops (fr a0 D f).tmps) = true ∧ ∃ d, o.dst = some d ∧ OpR P o (fr a0 D f) w fun v w' => w' = w ∧ C d v w) (m + 1) (ops.toList.drop (m + 1)))
    (hc : ∀ f w, I0 w → (∀ d, (predD ops m).contains d = true → C d (f d) w) → Region.wanted om (yielded ops (fr a0 D f).tmps) = true ∧ OpR P om (fr a0 D f) w fun v w' => I1 w' ∧ C dm v w' ∧ ∀ d x, (ops.toList.filterMap (·.dst)).contains d = true → d ≠ dm → (predD ops m).contains d = true ∨ C d x w → C d x w → C d x w')
    (hend : ∀ f w, I1 w → (∀ d, (ops.toList.filterMap (·.dst)).contains d = true → C d (f d) w) → Q .normal (fr a0 D f) w) : (Code.region id ops true).wp P Q a0 w := by
  refine wp_region_fr D (fun L f w => Closed ops L ∧ (match L m with | true => I1 w | false => I0 w) ∧ CAll C ops L f w) hm hback hD ⟨_, fr_self a0 D, (by intro i h; cases h), h0, (by intro i o d _ h; cases h)⟩ ?_ ?_
  · refine .of fun n o ho => ?_
    rw [Nat.zero_add]
    rintro L f w ⟨hcl, hI, hk⟩ hL hdep
    have ho : ops[n]? = some o := by simpa using ho
    have hedge : ∀ j ∈ edgesOf ops n, L j = true := by
      intro j hj
      unfold edgesOf at hj
      rw [ho] at hj
      obtain ⟨e, he, rfl⟩ := List.mem_map.1 hj
      obtain ⟨he1, he2⟩ := List.mem_filter.1 he
      exact hdep e (by simpa using he1) he2
    have hpr := predGo_ok hcl n _ hedge
    have hpre : ∀ d, (predD ops n).contains d = true → C d (f d) w := by
      intro d hd
      unfold predD at hd
      obtain ⟨j, hj, hjd⟩ := List.mem_filterMap.1 (List.contains_iff_mem.1 hd)
      obtain ⟨oj, hoj, hdj⟩ := Option.bind_eq_some_iff.1 hjd
      exact hk j oj d hoj (hpr j hj) hdj
    have hclosed : Closed ops (dn L n) := by
      intro i hi j hj
      unfold dn at hi ⊢
      by_cases e : i = n
      · subst e
        split
        · rfl
        · exact hedge j hj
      · rw [if_neg e] at hi
        split
        · rfl
        · exact hcl i hi j hj
    have hmem : ∀ {i : Nat} {p : Oper} {d : Nat}, ops[i]? = some p → p.dst = some d → (ops.toList.filterMap (·.dst)).contains d = true := fun {i p d} hp hd => List.contains_iff_mem.2 (List.mem_filterMap.2 ⟨p, by rw [Array.mem_toList_iff]; exact Array.mem_of_getElem? hp, hd⟩)
    by_cases hnm : n = m
    · subst hnm
      rw [hom] at ho
      cases ho
      rw [hL] at hI
      obtain ⟨hw, hr⟩ := hc f w hI hpre
      refine ⟨hw, ?_⟩
      have step : ∀ v w', (I1 w' ∧ C dm v w' ∧ ∀ d x, (ops.toList.filterMap (·.dst)).contains d = true → d ≠ dm → (predD ops n).contains d = true ∨ C d x w → C d x w → C d x w') → (Closed ops (dn L n) ∧ (match dn L n n with | true => I1 w' | false => I0 w') ∧ CAll C ops (dn L n) (updo f om.dst v) w') := by
        rintro v w' ⟨hI1, hCm, hkeep⟩
        refine ⟨hclosed, by unfold dn; rw [if_pos rfl]; exact hI1, ?_⟩
        intro i p d hp hi hd
        rw [hdm]
        unfold dn at hi
        by_cases e : i = n
        · subst e
          rw [hom] at hp
          cases hp
          rw [hdm] at hd
          cases hd
          simpa [updo, upd] using hCm
        · rw [if_neg e] at hi
          have hne : d ≠ dm := fun he => e (uniq_spec hu hp hom hd (he ▸ hdm))
          simp only [updo, upd, if_neg hne]
          exact hkeep d _ (hmem hp hd) hne (.inr (hk i p d hp hi hd)) (hk i p d hp hi hd)
      rcases hr with ⟨v, w', h1, h2⟩ | ⟨w', h1, h2⟩ | ⟨g, args, h1, h2⟩
      · exact .inl ⟨v, w', h1, step _ _ h2⟩
      · exact .inr (.inl ⟨w', h1, step _ _ h2⟩)
      · exact .inr (.inr ⟨g, args, h1, h2.mono fun e w' ⟨v, he, hr⟩ => ⟨v, he, step _ _ hr⟩⟩)
    · have hI' : I0 w ∨ I1 w := by
        cases hLm : L m with
        | true => rw [hLm] at hI; exact .inr hI
        | false => rw [hLm] at hI; exact .inl hI
      have hg : Region.wanted o (yielded ops (fr a0 D f).tmps) = true ∧ ∃ d, o.dst = some d ∧ OpR P o (fr a0 D f) w fun v w' => w' = w ∧ C d v w := by
        rcases Nat.lt_or_ge n m with h | h
        · have := h1.get (i := n) (o := o) (by rw [List.getElem?_take_of_lt h]; simpa using ho)
          rw [Nat.zero_add] at this
          exact this f w hI' hpre
        · have := h2.get (i := n - (m + 1)) (o := o) (by rw [List.getElem?_drop, show m + 1 + (n - (m + 1)) = n by omega]; simpa using ho)
          rw [show m + 1 + (n - (m + 1)) = n by omega] at this
          exact this f w hI' hpre
      obtain ⟨hw, d, hd, hr⟩ := hg
      refine ⟨hw, ?_⟩
      have step : ∀ v w', (w' = w ∧ C d v w) → (Closed ops (dn L n) ∧ (match dn L n m with | true => I1 w' | false => I0 w') ∧ CAll C ops (dn L n) (updo f o.dst v) w') := by
        rintro v w' ⟨rfl, hCd⟩
        refine ⟨hclosed, by unfold dn; rw [if_neg (Ne.symm hnm)]; exact hI, ?_⟩
        intro i p d' hp hi hd'
        rw [hd]
        unfold dn at hi
        by_cases e : i = n
        · subst e
          rw [ho] at hp
          cases hp
          rw [hd] at hd'
          cases hd'
          simpa [updo, upd] using hCd
        · rw [if_neg e] at hi
          have hne : d' ≠ d := fun he => e (uniq_spec hu hp ho (he ▸ hd') hd)
          simp only [updo, upd, if_neg hne]
          exact hk i p d' hp hi hd'
      rcases hr with ⟨v, w', h1, h2⟩ | ⟨w', h1, h2⟩ | ⟨g, args, h1, h2⟩
      · exact .inl ⟨v, w', h1, step _ _ h2⟩
      · exact .inr (.inl ⟨w', h1, step _ _ h2⟩)
      · exact .inr (.inr ⟨g, args, h1, h2.mono fun e w' ⟨v, he, hr⟩ => ⟨v, he, step _ _ hr⟩⟩)
  · rintro L f w ⟨_, hI, hk⟩ hall
    have hLm : L m = true := hall m (Array.getElem?_eq_some_iff.1 hom).1
    rw [hLm] at hI
    refine hend f w hI fun d hd => ?_
    obtain ⟨o, ho, hod⟩ := List.mem_filterMap.1 (List.contains_iff_mem.1 hd)
    obtain ⟨i, hi⟩ := List.getElem?_of_mem ho
    have hi' : ops[i]? = some o := by simpa using hi
    exact hk i o d hi' (hall i (Array.getElem?_eq_some_iff.1 hi').1) hod
end
section
variable {ρ : Operand → Value} {o : Oper} {w : World} {t c x : Operand}
theorem rn_add3 {a b r : Int} (ho : o.op = .binOp .add 3 t c 3) (h1 : ρ t = .int .i64 a) (h2 : ρ c = .int .i64 b) (hc : IntKind.i64.wrap (a + b) = r) : (execOp ρ o).run Tryz.prog w = .ok (.value (.int .i64 r)) w := by
  subst hc; unfold execOp; rw [ho]; simp [go_sem, h1, h2]
theorem rn_sub3 {a b r : Int} (ho : o.op = .binOp .sub 3 t c 3) (h1 : ρ t = .int .i64 a) (h2 : ρ c = .int .i64 b) (hc : IntKind.i64.wrap (a - b) = r) : (execOp ρ o).run Tryz.prog w = .ok (.value (.int .i64 r)) w := by
  subst hc; unfold execOp; rw [ho]; simp [go_sem, h1, h2]
theorem rn_idx {b n cp k : Nat} (ho : o.op = .indexAddr 138 t c) (h1 : ρ t = .slice (some ⟨b, 0, none⟩) n cp) (h2 : ρ c = .int .i64 (k : Int)) (hk : k < n) : (execOp ρ o).run Tryz.prog w = .ok (.value (.pointer (some ⟨b, k, none⟩))) w := by
  have hk' : (k : Int) < (n : Int) := by omega
  unfold execOp; rw [ho]; simp [go_sem, h1, h2, hk']
theorem rn_slice {b L cp i j : Nat} {lo hi : Operand} (ho : o.op = .slice 138 t (some lo) (some hi) none) (h1 : ρ t = .slice (some ⟨b, 0, none⟩) L cp) (h2 : ρ lo = .int .i64 (i : Int)) (h3 : ρ hi = .int .i64 (j : Int)) (hij : i ≤ j) (hj : j ≤ cp) (hi' : i < cp) :
    (execOp ρ o).run Tryz.prog w = .ok (.value (.slice (some ⟨b, i, none⟩) (j - i) (cp - i))) w := by
  have e1 : (i : Int) ≤ (j : Int) := by omega
  have e2 : (j : Int) ≤ (cp : Int) := by omega
  have e3 : ((j : Int) - (i : Int)).toNat = j - i := by omega
  have e4 : ((cp : Int) - (i : Int)).toNat = cp - i := by omega
  have e5 : ¬ cp = i := by omega
  unfold execOp; rw [ho]; simp [go_sem, h1, h2, h3, e1, e2, e5]
theorem rn_slice0 {b L cp j : Nat} {hi : Operand} (ho : o.op = .slice 138 t none (some hi) none) (h1 : ρ t = .slice (some ⟨b, 0, none⟩) L cp) (h3 : ρ hi = .int .i64 (j : Int)) (hj : j ≤ cp) :
    (execOp ρ o).run Tryz.prog w = .ok (.value (.slice (some ⟨b, 0, none⟩) j cp)) w := by
  have e2 : (j : Int) ≤ (cp : Int) := by omega
  unfold execOp; rw [ho]; simp [go_sem, h1, h3, e2]
theorem rn_gtr24 {a b : Int} {r : Bool} (ho : o.op = .binOp .gtr 23 t c 23) (h1 : ρ t = .int .u64 a) (h2 : ρ c = .int .u64 b) (hc : decide (b < a) = r) : (execOp ρ o).run Tryz.prog w = .ok (.value (.bool r)) w := by
  subst hc; unfold execOp; rw [ho]; simp [go_sem, h1, h2]
end
end Go.Proofs.YtjjomjjgoceklaaGreat
namespace Go.Proofs.YtjjomjjgoceklaaGreat
set_option maxRecDepth 100000
open Go.RowKit

theorem cf143 : CF 143 := fun W args => by go_simp
theorem cf161 : CF 161 := fun W args => by go_simp
theorem cf162 : CF 162 := fun W args => by go_simp
theorem cf163 : CF 163 := fun W args => by go_simp
section
variable {ρ : Operand → Value} {o : Oper} {w : World}
theorem rn_call5 {n : FuncId} {x1 x2 x3 x4 x5 : Operand} {ts : Array TypeId} (ho : o.op = .call { callee := .value (.func n), args := #[x1, x2, x3, x4, x5], argTypes := ts }) (hf : ρ (.func n) = .func (.func n) #[] #[]) (hcf : CF n) : (execOp ρ o).run Tryz.prog w = .ok (.enter n #[ρ x1, ρ x2, ρ x3, ρ x4, ρ x5]) w := by
  unfold execOp; rw [ho]; simp [go_sem, resolve, hf, invoke, hcf w]
theorem rn_call3 {n : FuncId} {x1 x2 x3 : Operand} {ts : Array TypeId} (ho : o.op = .call { callee := .value (.func n), args := #[x1, x2, x3], argTypes := ts }) (hf : ρ (.func n) = .func (.func n) #[] #[]) (hcf : CF n) : (execOp ρ o).run Tryz.prog w = .ok (.enter n #[ρ x1, ρ x2, ρ x3]) w := by
  unfold execOp; rw [ho]; simp [go_sem, resolve, hf, invoke, hcf w]
end
def PDV (a d : Nat) (w : World) (e : Ending) (w' : World) : Prop := Below w.heap.size w w' ∧ ∃ (qv rv : Value) (qs rs : List Nat), e = .returned (.tuple #[qv, rv]) ∧ Sl w' qv qs ∧ Nrm qs ∧ val qs = a / d ∧ Sl w' rv rs ∧ Nrm rs ∧ val rs = a % d
/-- the three rows of the division -/
structure G6 (w0 : World) (Rb Db Qb m n q : Nat) (rest us quo : List Nat) (w : World) : Prop where
  k : Below w0.heap.size w0 w
  r : w.rowIs Rb 23 (m + 1) (wf rest)
  d : w.rowIs Db 23 (n + 1) (wf us)
  q : w.rowIs Qb 23 (q + 1) (wf quo)
theorem row_keep {w w' : World} {b t n : Nat} {f : Nat → Value} (h : w.rowIs b t n f) (hb : Below w.heap.size w w') : w'.rowIs b t n f := h.of_block (hb.block _ h.lt)
theorem G6.keep {w0 : World} {Rb Db Qb m n q : Nat} {rest us quo : List Nat} {w w' : World} (h : G6 w0 Rb Db Qb m n q rest us quo w) (hb : Below w.heap.size w w') : G6 w0 Rb Db Qb m n q rest us quo w' :=
  ⟨Below.thru h.k h.k.size hb, row_keep h.r hb, row_keep h.d hb, row_keep h.q hb⟩
theorem G6.cR {w0 : World} {Rb Db Qb m n q : Nat} {rest us quo : List Nat} {w : World} (h : G6 w0 Rb Db Qb m n q rest us quo w) {i : Nat} (hi : i < m + 1) : w.cell? ⟨Rb, i, none⟩ = some (.int .u64 ((rest.getD i 0 : Nat) : Int)) := h.r.cell hi
theorem G6.cD {w0 : World} {Rb Db Qb m n q : Nat} {rest us quo : List Nat} {w : World} (h : G6 w0 Rb Db Qb m n q rest us quo w) {i : Nat} (hi : i < n + 1) : w.cell? ⟨Db, i, none⟩ = some (.int .u64 ((us.getD i 0 : Nat) : Int)) := h.d.cell hi
theorem G6.grown {w0 : World} {Rb Db Qb m n q : Nat} {rest us quo rest' : List Nat} {w w' : World} (h : G6 w0 Rb Db Qb m n q rest us quo w) (hg : w.grownBy w' (some Rb)) (hr : w'.rowIs Rb 23 (m + 1) (wf rest')) (h1 : w0.heap.size ≤ Rb) (h2 : Db ≠ Rb) (h3 : Qb ≠ Rb) : G6 w0 Rb Db Qb m n q rest' us quo w' :=
  ⟨h.k.grown hg h.k.size (fun j e => by cases e; exact h1), hr, h.d.of_block (hg.block _ h.d.lt (by intro e; cases e; exact h2 rfl)), h.q.of_block (hg.block _ h.q.lt (by intro e; cases e; exact h3 rfl))⟩
def DW11 (t : Nat) : Bool := Nat.beq t 9 || (Nat.ble 45 t && Nat.ble t 75)

def tabW11 (rv dv : Value) (Rb Db i n g : Nat) (rest us : List Nat) (d : Nat) : Kd := if d = 9 then .v (.int .u64 (g : Int)) else [.v (rv), .v (.int .i64 (i : Int)), .v (.int .i64 (n : Int)), .v (.int .i64 ((i + n : Nat) : Int)), .v (.pointer (some ⟨Rb, i + n, none⟩)), .v (.int .u64 ((rest.getD (i + n) 0 : Nat) : Int)), .v (rv), .v (.int .i64 (i : Int)), .v (.int .i64 (n : Int)), .v (.int .i64 ((i + n : Nat) : Int)), .v (.int .i64 ((i + n - 1 : Nat) : Int)), .v (.pointer (some ⟨Rb, i + n - 1, none⟩)), .v (.int .u64 ((rest.getD (i + n - 1) 0 : Nat) : Int)), .v (rv), .v (.int .i64 (i : Int)), .v (.int .i64 (n : Int)), .v (.int .i64 ((i + n : Nat) : Int)), .v (.int .i64 ((i + n - 2 : Nat) : Int)), .v (.pointer (some ⟨Rb, i + n - 2, none⟩)), .v (.int .u64 ((rest.getD (i + n - 2) 0 : Nat) : Int)), .v (dv), .v (.int .i64 (n : Int)), .v (.int .i64 ((n - 1 : Nat) : Int)), .v (.pointer (some ⟨Db, n - 1, none⟩)), .v (.int .u64 ((us.getD (n - 1) 0 : Nat) : Int)), .v (dv), .v (.int .i64 (n : Int)), .v (.int .i64 ((n - 2 : Nat) : Int)), .v (.pointer (some ⟨Db, n - 2, none⟩)), .v (.int .u64 ((us.getD (n - 2) 0 : Nat) : Int)), .v (.int .u64 (g : Int))].getD (d - 45) .any
section
variable {P : Program} {ops : Array Oper} {Q : Exit → Act → World → Prop}
/-- the slots of the operations behind i -/
def succD (ops : Array Oper) (i : Nat) : List Nat := ((List.range ops.size).filter fun j => (predGo ops j (edgesOf ops j)).contains i).filterMap fun j => (ops[j]?).bind (·.dst)
/-- a region of loads, calls and new blocks in whatever order, whose slots hold what they held until they are written -/
theorem wp_region_kdo {id : Nat} {a0 : Act} {w : World} (D : Nat → Bool) (tab : Nat → Kd) (I : World → Prop) (hm : P.follows .mixedOrders = true) (hback : backB .any ops = true) (hu : uniqB ops = true)
    (hD : (ops.toList.filterMap (·.dst)).all D = true) (hI : ∀ w w', I w → Below w.heap.size w w' → I w') (h0 : I { w with drawn := w.drawn + 1 })
    (hstep : AllFrom (fun i o => ∀ f w, I w → (∀ d, (predD ops i).contains d = true → kd (tab d) (f d) w) → (∀ d, (succD ops i).contains d = true → f d = a0.tmps.getD d undef) →
      Region.wanted o (yielded ops (fr a0 D f).tmps) = true ∧ ∃ d, o.dst = some d ∧ OpR P o (fr a0 D f) w fun v w' => Below w.heap.size w w' ∧ kd (tab d) v w') 0 ops.toList)
    (hend : ∀ f w, I w → (∀ d, (ops.toList.filterMap (·.dst)).contains d = true → kd (tab d) (f d) w) → Q .normal (fr a0 D f) w) : (Code.region id ops true).wp P Q a0 w := by
  refine wp_region_fr D (fun L f w => I w ∧ Closed ops L ∧ KdAll tab ops L f w ∧ ∀ j oj d, ops[j]? = some oj → L j = false → oj.dst = some d → f d = a0.tmps.getD d undef) hm hback hD ⟨_, fr_self a0 D, h0, (by intro i h; cases h), (by intro i o d _ h; cases h), fun _ _ _ _ _ _ => rfl⟩ ?_ ?_
  · refine .of fun n o ho => ?_
    rw [Nat.zero_add]
    rintro L f w ⟨hIw, hcl, hk, hold⟩ hL hdep
    have ho : ops[n]? = some o := by simpa using ho
    have hedge : ∀ j ∈ edgesOf ops n, L j = true := by
      intro j hj
      unfold edgesOf at hj
      rw [ho] at hj
      obtain ⟨e, he, rfl⟩ := List.mem_map.1 hj
      obtain ⟨he1, he2⟩ := List.mem_filter.1 he
      exact hdep e (by simpa using he1) he2
    have hpr := predGo_ok hcl n _ hedge
    have hpre : ∀ d, (predD ops n).contains d = true → kd (tab d) (f d) w := by
      intro d hd
      unfold predD at hd
      obtain ⟨j, hj, hjd⟩ := List.mem_filterMap.1 (List.contains_iff_mem.1 hd)
      obtain ⟨oj, hoj, hdj⟩ := Option.bind_eq_some_iff.1 hjd
      exact hk j oj d hoj (hpr j hj) hdj
    have hsuc : ∀ d, (succD ops n).contains d = true → f d = a0.tmps.getD d undef := by
      intro d hd
      unfold succD at hd
      obtain ⟨j, hj, hjd⟩ := List.mem_filterMap.1 (List.contains_iff_mem.1 hd)
      obtain ⟨oj, hoj, hdj⟩ := Option.bind_eq_some_iff.1 hjd
      have hjn := (List.mem_filter.1 hj).2
      refine hold j oj d hoj ?_ hdj
      cases hLj : L j with
      | false => rfl
      | true =>
        have := predGo_ok hcl j _ (hcl j hLj) n (List.contains_iff_mem.1 hjn)
        rw [hL] at this
        cases this
    have hg := hstep.get (i := n) (o := o) (by simpa using ho)
    rw [Nat.zero_add] at hg
    obtain ⟨hw, d, hd, hr⟩ := hg f w hIw hpre hsuc
    refine ⟨hw, ?_⟩
    have step : ∀ v w', (Below w.heap.size w w' ∧ kd (tab d) v w') → I w' ∧ Closed ops (dn L n) ∧ KdAll tab ops (dn L n) (updo f o.dst v) w' ∧ ∀ j oj d, ops[j]? = some oj → dn L n j = false → oj.dst = some d → updo f o.dst v d = a0.tmps.getD d undef := by
      rintro v w' ⟨hb, hkd⟩
      refine ⟨hI _ _ hIw hb, ?_, ?_, ?_⟩
      · intro i hi j hj
        unfold dn at hi ⊢
        by_cases e : i = n
        · subst e
          split
          · rfl
          · exact hedge j hj
        · rw [if_neg e] at hi
          split
          · rfl
          · exact hcl i hi j hj
      · intro i p d' hp hi hd'
        rw [hd]
        unfold dn at hi
        by_cases e : i = n
        · subst e
          rw [ho] at hp
          cases hp
          rw [hd] at hd'
          cases hd'
          simpa [updo, upd] using hkd
        · rw [if_neg e] at hi
          have hne : d' ≠ d := fun he => e (uniq_spec hu hp ho (he ▸ hd') hd)
          simp only [updo, upd, if_neg hne]
          exact (hk i p d' hp hi hd').keep hb
      · intro j oj d' hoj hj hd'
        unfold dn at hj
        by_cases e : j = n
        · rw [if_pos e] at hj; cases hj
        · rw [if_neg e] at hj
          rw [hd]
          have hne : d' ≠ d := fun he => e (uniq_spec hu hoj ho (he ▸ hd') hd)
          simp only [updo, upd, if_neg hne]
          exact hold j oj d' hoj hj hd'
    rcases hr with ⟨v, w', h1, h2⟩ | ⟨w', h1, h2⟩ | ⟨g, args, h1, h2⟩
    · exact .inl ⟨v, w', h1, step _ _ h2⟩
    · exact .inr (.inl ⟨w', h1, step _ _ h2⟩)
    · exact .inr (.inr ⟨g, args, h1, h2.mono fun e w' ⟨v, he, hr⟩ => ⟨v, he, step _ _ hr⟩⟩)
  · rintro L f w ⟨hIw, _, hk, _⟩ hall
    refine hend f w hIw fun d hd => ?_
    obtain ⟨o, ho, hod⟩ := List.mem_filterMap.1 (List.contains_iff_mem.1 hd)
    obtain ⟨i, hi⟩ := List.getElem?_of_mem ho
    have hi' : ops[i]? = some o := by simpa using hi
    exact hk i o d hi' (hall i (Array.getElem?_eq_some_iff.1 hi').1) hod
end
/-- what takeMultiple has done -/
def TM (n i g Dv : Nat) (rest : List Nat) (out : List Nat) (c : Nat) : Prop :=
  out.length = n ∧ Wds out ∧ Wd c ∧ val out + g * Dv = val ((rest.drop i).take n) + WB ^ n * c
theorem TM.uniq {n i g Dv : Nat} {rest out out' : List Nat} {c c' : Nat} (h : TM n i g Dv rest out c) (h' : TM n i g Dv rest out' c') : c = c' := by
  obtain ⟨h1, h2, -, h3⟩ := h
  obtain ⟨k1, k2, -, k3⟩ := h'
  have l1 := val_lt out h2
  have l2 := val_lt out' k2
  rw [h1] at l1
  rw [k1] at l2
  generalize WB ^ n = N at *
  rcases Nat.lt_trichotomy c c' with h | h | h
  · have : N * (c + 1) ≤ N * c' := Nat.mul_le_mul_left _ h
    rw [Nat.mul_add] at this; omega
  · exact h
  · have : N * (c' + 1) ≤ N * c := Nat.mul_le_mul_left _ h
    rw [Nat.mul_add] at this; omega
def DW12 (t : Nat) : Bool := Nat.ble 76 t && Nat.ble t 91
def CW12 (Rb m n i g Dv : Nat) (rest : List Nat) (rv dv : Value) (d : Nat) (v : Value) : Prop :=
  match d - 76 with
  | 0 => v = rv
  | 1 => v = .int .i64 (i : Int)
  | 2 => v = .int .i64 (i : Int)
  | 3 => v = .int .i64 (n : Int)
  | 4 => v = .int .i64 ((i + n : Nat) : Int)
  | 5 => v = .slice (some ⟨Rb, i, none⟩) (i + n - i) (m + 1 - i)
  | 6 => v = dv
  | 7 => v = .int .u64 (g : Int)
  | 8 => ∃ out c, v = .int .u64 ((c : Nat) : Int) ∧ TM n i g Dv rest out c
  | 9 => v = rv
  | 10 => v = .int .i64 (i : Int)
  | 11 => v = .int .i64 (n : Int)
  | 12 => v = .int .i64 ((i + n : Nat) : Int)
  | 13 => v = .pointer (some ⟨Rb, i + n, none⟩)
  | 14 => v = .int .u64 ((rest.getD (i + n) 0 : Nat) : Int)
  | _ => ∃ out c, v = .bool (decide (((rest.getD (i + n) 0 : Nat) : Int) < ((c : Nat) : Int))) ∧ TM n i g Dv rest out c
theorem getD_rest {rest out : List Nat} {i n : Nat} (hlen : i + n < rest.length) (ho : out.length = n) : (rest.take i ++ (out ++ rest.drop (i + n))).getD (i + n) 0 = rest.getD (i + n) 0 := by
  have l1 : (rest.take i).length = i := by rw [List.length_take]; omega
  simp only [List.getD_eq_getElem?_getD]
  rw [List.getElem?_append_right (by omega), l1, List.getElem?_append_right (by omega), ho, List.getElem?_drop]
  congr 2
  omega
theorem split_rest (rest : List Nat) (i n : Nat) : rest.take i ++ ((rest.drop i).take n ++ rest.drop (i + n)) = rest := by
  rw [← List.drop_drop, List.take_append_drop, List.take_append_drop]
theorem G6.setQ {w0 : World} {Rb Db Qb m n q : Nat} {rest us tail : List Nat} {i : Nat} {w : World} (h : G6 w0 Rb Db Qb m n q rest us (List.replicate (i + 1) 0 ++ tail) w) (x : Nat) (h1 : w0.heap.size ≤ Qb) (h2 : Rb ≠ Qb) (h3 : Db ≠ Qb) : G6 w0 Rb Db Qb m n q rest us (List.replicate i 0 ++ x :: tail) (w.setCell ⟨Qb, i, none⟩ (.int .u64 (x : Int))) :=
  ⟨h.k.setCell h1 _, h.r.of_block (Below.heap_setCell w ⟨Qb, i, none⟩ _ Rb (by intro e; exact h2 e)), h.d.of_block (Below.heap_setCell w ⟨Qb, i, none⟩ _ Db (by intro e; exact h3 e)), row_down h.q x⟩
theorem G6.rd {w0 : World} {Rb Db Qb m n q : Nat} {rest us quo : List Nat} {w : World} (h : G6 w0 Rb Db Qb m n q rest us quo w) (hne : Db ≠ Rb) (hu : us.length = n + 1) : Rd w Rb (some ⟨Db, 0, none⟩) (us.take n) := by
  intro j hj
  rw [List.length_take] at hj
  have hj' : j < n := by omega
  refine ⟨Db, 0, rfl, hne, h.d.lt, ?_⟩
  rw [Nat.zero_add, h.cD (by omega)]
  simp [List.getD_eq_getElem?_getD, hj']
def DW16 (t : Nat) : Bool := Nat.beq t 4 || Nat.beq t 5 || (Nat.ble 106 t && Nat.ble t 112)
def kSl (ws : List Nat) : Kd := .c (fun v w => Sl w v ws) fun _ _ _ h hb => h.keep hb (Nat.le_refl _)
def kDn (x : Nat) : Kd := .c (fun v w => ∃ us : List Nat, Sl w v (norm us) ∧ val us = x) fun _ _ _ ⟨us, h, e⟩ hb => ⟨us, h.keep hb (Nat.le_refl _), e⟩
def tabW16 (qv rv : Value) (tail : List Nat) (Rb m n s x : Nat) (d : Nat) : Kd := if d = 4 then kSl (norm tail) else if d = 5 then kDn x else [.v qv, kSl (norm tail), .v rv, .v (.int .i64 (n : Int)), .v (.slice (some ⟨Rb, 0, none⟩) n (m + 1)), .v (.int .i64 (s : Int)), kDn x].getD (d - 106) .any

set_option maxRecDepth 100000 in
set_option maxHeartbeats 3200000 in
theorem divideWords_any (va vd : Value) (aw ds : List Nat) (w : World) (ha : Sl w va aw) (hd : Sl w vd ds) (na : Nrm aw) (nd' : Nrm ds) (la : aw.length ≤ 1100) (h2 : 2 ≤ ds.length) : Calls Tryz.prog 148 #[va, vd] w (PDV (val aw) (val ds) w) := by
  have wa := ha.1
  have wd := hd.1
  have HA := Lib.hid ha
  have HDs := Lib.hid hd
  have NA := Lib.hid na
  have ND := Lib.hid nd'
  have WA := Lib.hid wa
  have WD' := Lib.hid wd
  have hdp := val_ge ds nd' (by intro e; rw [e] at h2; simp at h2)
  have HDP := Lib.hid hdp
  obtain ⟨pa, ca, rfl, _⟩ := ha.opened' w.heap.size (Nat.le_refl _)
  obtain ⟨pd, cd, rfl, hgd⟩ := hd.opened' w.heap.size (Nat.le_refl _)
  obtain ⟨m, hm⟩ : ∃ m, m = aw.length := ⟨_, rfl⟩
  obtain ⟨n, hn⟩ : ∃ n, n = ds.length := ⟨_, rfl⟩
  have HM := Lib.hid hm
  have HN := Lib.hid hn
  rw [← hm] at la ⊢
  rw [← hn] at h2 ⊢
  by_cases hlt : m < n
  · have hlt' : (m : Int) < (n : Int) := by omega
    have hval : val aw < val ds := by
      refine Nat.lt_of_lt_of_le (val_lt aw wa) (Nat.le_trans (Nat.pow_le_pow_right WB_pos ?_) hdp)
      omega
    have HV := Lib.hid hval
    clear ha hd na nd' wa wd hgd hdp hm hn hval HDP hlt
    go_enter Tryz.func148, Tryz.ntmps148
    go_wp2
    refine bodyPost_ret (v := .tuple #[.slice none 0 0, .slice pa m ca]) (by simp [results, Tryz.results148, go_sem]) rfl ⟨Below.refl _ _, _, _, [], aw, rfl, ⟨Wds.nil, by simp, .inl ⟨rfl, rfl⟩⟩, by simp [Nrm], ?_, by have := HA.out; rw [← HM.out] at this; exact this, NA.out, ?_⟩
    · rw [Nat.div_eq_of_lt HV.out]; rfl
    · rw [Nat.mod_eq_of_lt HV.out]
  · have hmn : n ≤ m := by omega
    obtain ⟨j0, hj0⟩ : ∃ j0, j0 = m - n := ⟨_, rfl⟩
    obtain ⟨n1, hn1⟩ : ∃ n1, n1 = n - 1 := ⟨_, rfl⟩
    obtain ⟨bd, od, hpd, hbg, hbl, hcell⟩ := hgd n1 (by omega)
    subst hpd
    obtain ⟨y, hy⟩ : ∃ y, y = ds.getD n1 0 := ⟨_, rfl⟩
    rw [← hy] at hcell
    have hy0 : 0 < y := by
      rw [hy]
      rcases Nat.eq_zero_or_pos (ds.getD n1 0) with h | h
      · exfalso
        unfold Nrm at nd'
        rw [List.getLast?_eq_getElem?, show ds.length - 1 = n1 by omega] at nd'
        rw [List.getD_eq_getElem?_getD, List.getElem?_eq_getElem (by omega)] at h
        rw [List.getElem?_eq_getElem (by omega)] at nd'
        simp at h nd'
        omega
      · exact h
    have hyw : Wd y := by rw [hy]; exact wd.getD _
    obtain ⟨s, hs, hb, hs1, hs2⟩ := lz_spec y hy0 hyw
    have HB' := Lib.hid hb
    have HS1 := Lib.hid hs1
    have HS2 := Lib.hid hs2
    have HYW := Lib.hid hyw
    have HY := Lib.hid hy
    have HJ := Lib.hid hj0
    have HN1 := Lib.hid hn1
    have e1 : (n : Int) - 1 = (n1 : Int) := by omega
    have e2 : (m : Int) - (n : Int) = (j0 : Int) := by omega
    have e3 : (n1 : Int) < (n : Int) := by omega
    have e4 : ¬ (m : Int) < (n : Int) := by omega
    have e5 : (n : Int) ≤ (n : Int) + 1 := by omega
    have hmk := mk_words1 j0 (by omega)
    have hsI : (s : Int) ≤ 63 := by omega
    have hs' := hs
    clear ha hd na nd' wa wd hgd hdp hlt hb hs1 hs2 hy hj0 hn1 hyw hm hn
    go_enter Tryz.func148, Tryz.ntmps148
    go_wp2_with fail
    refine (Tryz.bits_LeadingZeros64 (y : Int) _ (by omega) (by have := HYW.out; unfold Wd WB at this; omega)).mono ?_
    rintro e w' ⟨rfl, hw0⟩
    obtain rfl := hw0.symm
    rw [Int.toNat_natCast, HB'.out]
    go_wp2_with fail
    have HD0 := HDs.out
    rw [← HN.out] at HD0
    refine (shiftedUp_any _ ds s _ HD0 (by have := HN.out; omega) hs).mono ?_
    rintro e w1 ⟨hb1, us, rfl, hul, wu, hrow1, hv1⟩
    rw [← HN.out] at hul hrow1 ⊢
    have HA1 := HA.out.keep hb1 (Nat.le_refl _)
    rw [← HM.out] at HA1
    have HA1 := Lib.hid HA1
    have TF := Lib.hid (top_facts (n := n1) (by have := HN.out; have := HN1.out; omega) HY.out.symm (by have := HN1.out; omega) hv1 WD'.out wu hs HS1.out HS2.out)
    have TB : Hid (WB ≤ 2 * us.getD (n - 1) 0) := by show _ ≤ _; rw [← HN1.out]; exact TF.out.2
    have hb1s := hb1.size
    have lt1 := hrow1.lt
    have ROW1 := Lib.hid hrow1
    have HB1 := Lib.hid hb1
    have WU := Lib.hid wu
    have HUL := Lib.hid hul
    clear hb1 hrow1 wu hul hv1 HD0
    go_wp2_with fail
    refine (shiftedUp_any _ aw s _ HA1.out (by have := HM.out; omega) hs).mono ?_
    rintro e w2 ⟨hb2, rs, rfl, hrl, wr0, hrow2, hv2⟩
    rw [← HM.out] at hrl hrow2 ⊢
    have DVE : Hid (2 ^ s * val ds = val (us.take n)) := by show _ = _; have := TF.out.1; rw [show n1 + 1 = n by have := HN1.out; omega] at this; exact this.symm
    obtain ⟨Dv, hDv⟩ : ∃ Dv, Dv = val (us.take n) := ⟨_, rfl⟩
    have ST := Lib.hid (dw_start (n := n) (Dv := Dv) (by rw [hrl, HM.out]) hv2 WA.out (by rw [← HM.out]; exact hmn) (by omega) (by rw [hDv, DVE.out]) (by have := HDP.out; rw [← HN.out] at this; exact this))
    have DP0 : Hid (0 < val ds) := Nat.lt_of_lt_of_le (Nat.pow_pos WB_pos) HDP.out
    have HDV := Lib.hid hDv
    obtain ⟨A, hA⟩ : ∃ A, A = val rs := ⟨_, rfl⟩
    have HAA : Hid (A = 2 ^ s * val aw) := by show _ = _; rw [hA, hv2]
    have HAV := Lib.hid hA
    have row1' := row_keep ROW1.out hb2
    have kb := Below.thru HB1.out HB1.out.size hb2
    have lt2 := hrow2.lt
    have hb2s := hb2.size
    have G0 : ∀ w3, Below w2.heap.size w2 w3 → w3.rowIs w2.heap.size 23 (j0 + 1) (wf []) → G6 w w1.heap.size w.heap.size w2.heap.size m n j0 rs us (List.replicate (j0 + 1) 0) w3 := fun w3 h1 h2 =>
      ⟨Below.thru kb kb.size h1, row_keep hrow2 h1, row_keep row1' h1, by rw [wf_zeros]; exact h2⟩
    have G0 := Lib.hid G0
    have WR0 := Lib.hid wr0
    have HRL := Lib.hid hrl
    have hsz1 : w.heap.size < w1.heap.size := lt1
    have hsz2 : w1.heap.size < w2.heap.size := lt2
    clear hb2 hrow2 wr0 hrl hv2 hDv hA row1' kb ROW1 HB1 HA1 TF
    go_wp2
    clear hmk
    go_loopw [8] (fun iv wr => ∃ (j : Nat) (rest tail : List Nat), j ≤ j0 + 1 ∧ iv = .int .i64 ((j : Int) - 1) ∧ Hid (rest.length = m + 1) ∧ Hid (Wds rest) ∧ Hid (tail.length + j = j0 + 1) ∧ Hid (Wds tail) ∧ Hid (val ((rest.drop j).take n) < Dv) ∧ Hid (val (rest.take (j + n)) + WB ^ j * (val tail * Dv) = A) ∧ G6 w w1.heap.size w.heap.size w2.heap.size m n j0 rest us (List.replicate j 0 ++ tail) wr) (fun iv _ => (intOf iv + 1).toNat)
    case atStart =>
      refine ⟨j0 + 1, rs, [], Nat.le_refl _, by go_num, HRL.out, WR0.out, by show _ = _; simp, Wds.nil, ?_, ?_, ?_⟩
      · have := ST.out
        rw [show aw.length - n + 1 = j0 + 1 by rw [← HM.out, HJ.out]] at this
        exact this
      · show _ = _
        rw [List.take_of_length_le (by rw [HRL.out, HJ.out]; omega)]
        simp [val, HAV.out]
      · rw [List.append_nil]
        exact G0.out _ (bl1 _ _) (row_new _ _)
    case round =>
      obtain ⟨j, rest, tail, hj, rfl, HL, WR, HTL, HWT, HH, HV, G⟩ := hrel
      cases j with
      | zero =>
        have hqs : Sl wr (.slice (some ⟨w2.heap.size, 0, none⟩) (j0 + 1) (j0 + 1)) tail := Sl.of_row (by have := G.q; simpa using this) (by have := HTL.out; omega) HWT.out (by omega) (Nat.le_refl _)
        have hrs : Sl wr (.slice (some ⟨w1.heap.size, 0, none⟩) n (m + 1)) (rest.take n) :=
          Sl.take WR.out (by have := HL.out; omega) (by have := HL.out; omega) G.r.lt (fun i hi => by rw [Nat.zero_add]; exact G.cR (by have := HL.out; omega)) (by have := HL.out; omega)
        have hfin := dw_end (r := val (rest.take n)) (t := val tail) (a := val aw) (d := val ds) (s := s) (Dv := Dv) (by rw [HDV.out, DVE.out]) DP0.out (by have := HV.out; rw [HAA.out, Nat.pow_zero, Nat.one_mul, Nat.zero_add] at this; exact this) (by have := HH.out; rw [List.drop_zero] at this; exact this)
        have HF := Lib.hid hfin
        have HQS := Lib.hid hqs
        have HRS := Lib.hid hrs
        have KK := Lib.hid G.k
        clear hfin hqs hrs G e1 e2 e3 e5
        go_wp2_with fail
        go_cut [4, 5] (fun v4 v5 wc => ∃ us2 : List Nat, Sl wc v4 (norm tail) ∧ Sl wc v5 (norm us2) ∧ val us2 = val (rest.take n) / 2 ^ s ∧ Below w.heap.size w wc)
        case first =>
          rename_i J K' hJ hK
          refine wp_region_kdo DW16 (tabW16 (.slice (some ⟨w2.heap.size, 0, none⟩) (j0 + 1) (j0 + 1)) (.slice (some ⟨w1.heap.size, 0, none⟩) (m + 1) (m + 1)) tail w1.heap.size m n s (val (rest.take n) / 2 ^ s)) (fun w' => Below w.heap.size w w' ∧ Sl w' (.slice (some ⟨w2.heap.size, 0, none⟩) (j0 + 1) (j0 + 1)) tail ∧ Sl w' (.slice (some ⟨w1.heap.size, 0, none⟩) n (m + 1)) (rest.take n)) (by kernel_rfl) (by kernel_rfl) (by kernel_rfl) (by kernel_rfl) (fun _ _ h hb => ⟨Below.thru h.1 h.1.size hb, h.2.1.keep hb (Nat.le_refl _), h.2.2.keep hb (Nat.le_refl _)⟩) ⟨KK.out.drew, HQS.out.keep (Below.refl _ _).drew (Nat.le_refl _), HRS.out.keep (Below.refl _ _).drew (Nat.le_refl _)⟩ ?_ ?_
          · refine .cons (fun f w' hI hs ho => ⟨wanted_none rfl, _, rfl, .val (rn_move rfl) ⟨Below.refl _ _, (fr_own rfl rfl).trans (ho 4 (by kernel_rfl))⟩⟩) ?_
            refine .cons (fun f w' hI hs ho => ⟨wanted_none rfl, _, rfl, .call1 rfl cf143 rfl rfl ?_⟩) ?_
            · rw [show f 106 = _ from (hs 106 (by kernel_rfl))]
              exact (trim_any _ _ _ hI.2.1).mono (by rintro e w5 ⟨rfl, v', rfl, hv⟩; exact ⟨v', rfl, Below.refl _ _, hv⟩)
            refine .cons (fun f w' hI hs ho => ⟨wanted_none rfl, _, rfl, .val (rn_move rfl) ⟨Below.refl _ _, (fr_own rfl rfl).trans (ho 5 (by kernel_rfl))⟩⟩) ?_
            refine .cons (fun f w' hI hs ho => ⟨wanted_none rfl, _, rfl, .val (rn_move rfl) ⟨Below.refl _ _, fr_old rfl rfl⟩⟩) ?_
            refine .cons (fun f w' hI hs ho => ⟨wanted_none rfl, _, rfl, .val (rn_slice0 rfl ((fr_own rfl rfl).trans (hs 108 (by kernel_rfl))) ((fr_own rfl rfl).trans (hs 109 (by kernel_rfl))) (by omega)) ⟨Below.refl _ _, rfl⟩⟩) ?_
            refine .cons (fun f w' hI hs ho => ⟨wanted_none rfl, _, rfl, .val (rn_move rfl) ⟨Below.refl _ _, fr_old rfl rfl⟩⟩) ?_
            refine .cons (fun f w' hI hs ho => ⟨wanted_none rfl, _, rfl, .call2 rfl cf163 rfl rfl rfl rfl ?_⟩) ?_
            · rw [show f 110 = _ from (hs 110 (by kernel_rfl)), show f 111 = _ from (hs 111 (by kernel_rfl))]
              exact (shiftedDown_any _ (rest.take n) s _ hI.2.2 (by rw [List.length_take]; omega) hs').mono (by rintro e w5 ⟨hb, v', us2, rfl, h1, h2, h3⟩; exact ⟨v', rfl, hb, us2, h1, h3⟩)
            refine .cons (fun f w' hI hs ho => ⟨wanted_none rfl, _, rfl, .val (rn_assign rfl) ⟨Below.refl _ _, by have := hs 107 (by kernel_rfl); rw [fr_own rfl rfl]; exact this⟩⟩) ?_
            refine .cons (fun f w' hI hs ho => ⟨wanted_none rfl, _, rfl, .val (rn_assign rfl) ⟨Below.refl _ _, by have := hs 112 (by kernel_rfl); rw [fr_own rfl rfl]; exact this⟩⟩) ?_
            exact .nil
          · intro f w' hI hk
            have h4 : Sl w' (f 4) (norm tail) := hk 4 (by kernel_rfl)
            obtain ⟨us2, h5, h6⟩ : ∃ us2 : List Nat, Sl w' (f 5) (norm us2) ∧ val us2 = val (rest.take n) / 2 ^ s := hk 5 (by kernel_rfl)
            refine hK _ _ (Met.intro (hJ _ _ ?_))
            (repeat apply Exists.intro)
            refine ⟨?_, rfl⟩
            exact ⟨us2, h4, h5, h6, hI.1⟩
        case rest =>
          obtain ⟨us2, h4, h5, h6, kf⟩ := hcut
          obtain ⟨p4, c4, rfl, _⟩ := h4.opened
          obtain ⟨p5, c5, rfl, _⟩ := h5.opened
          have H4 := Lib.hid h4
          have H5 := Lib.hid h5
          have H6 := Lib.hid h6
          have KF := Lib.hid kf
          clear h4 h5 h6 kf
          go_wp2
          exact bodyPost_ret (v := .tuple #[.slice p4 (norm tail).length c4, .slice p5 (norm us2).length c5]) (by simp [results, Tryz.results148, go_sem]) rfl ⟨KF.out, _, _, norm tail, norm us2, rfl, H4.out, norm_nrm _, by rw [val_norm, HF.out.1], H5.out, norm_nrm _, by rw [val_norm, H6.out, HF.out.2]⟩
      | succ i =>
        have ei : ((i + 1 : Nat) : Int) - 1 = (i : Int) := by omega
        rw [ei]
        have hin : i + n ≤ m := by have := HJ.out; omega
        have G := Lib.hid G
        have DP : Hid (0 < us.getD (n - 1) 0) := by show _ < _; have := TB.out; unfold WB at this; omega
        obtain ⟨g, hg⟩ : ∃ g, g = guessN (rest.getD (i + n) 0) (rest.getD (i + n - 1) 0) (rest.getD (i + n - 2) 0) (us.getD (n - 1) 0) (us.getD (n - 2) 0) := ⟨_, rfl⟩
        have HG := Lib.hid hg
        clear hg
        have W1 : IntKind.i64.wrap ((i : Int) + (n : Int)) = ((i + n : Nat) : Int) := by rw [← Int.natCast_add]; exact IntWalk.i64_in _ (by omega)
        have W2 : IntKind.i64.wrap (((i + n : Nat) : Int) - 1) = ((i + n - 1 : Nat) : Int) := by rw [show ((i + n : Nat) : Int) - 1 = ((i + n - 1 : Nat) : Int) by omega]; exact IntWalk.i64_in _ (by omega)
        have W3 : IntKind.i64.wrap (((i + n : Nat) : Int) - 2) = ((i + n - 2 : Nat) : Int) := by rw [show ((i + n : Nat) : Int) - 2 = ((i + n - 2 : Nat) : Int) by omega]; exact IntWalk.i64_in _ (by omega)
        have W4 : IntKind.i64.wrap ((n : Int) - 1) = ((n - 1 : Nat) : Int) := by rw [show (n : Int) - 1 = ((n - 1 : Nat) : Int) by omega]; exact IntWalk.i64_in _ (by omega)
        have W5 : IntKind.i64.wrap ((n : Int) - 2) = ((n - 2 : Nat) : Int) := by rw [show (n : Int) - 2 = ((n - 2 : Nat) : Int) by omega]; exact IntWalk.i64_in _ (by omega)
        have W1 := Lib.hid W1; have W2 := Lib.hid W2; have W3 := Lib.hid W3; have W4 := Lib.hid W4; have W5 := Lib.hid W5
        clear e1 e2 e3 e5
        go_upto_region 11 with fail
        go_cut [9] (fun v wc => v = .int .u64 (g : Int) ∧ G6 w w1.heap.size w.heap.size w2.heap.size m n j0 rest us (List.replicate (i + 1) 0 ++ tail) wc)
        case first =>
          rename_i J K' hJ hK
          have W1 := W1.out; have W2 := W2.out; have W3 := W3.out; have W4 := W4.out; have W5 := W5.out
          refine wp_region_kd DW11 (tabW11 (.slice (some ⟨w1.heap.size, 0, none⟩) (m + 1) (m + 1)) (.slice (some ⟨w.heap.size, 0, none⟩) n (n + 1)) w1.heap.size w.heap.size i n g rest us) (G6 w w1.heap.size w.heap.size w2.heap.size m n j0 rest us (List.replicate (i + 1) 0 ++ tail)) (by kernel_rfl) (by kernel_rfl) (by kernel_rfl) (by kernel_rfl) (fun _ _ h hb => h.keep hb) (G.out.keep (Below.refl _ _).drew) ?_ ?_
          ·
            refine .cons (fun f w' hI hs => ⟨wanted_none rfl, _, rfl, .val (rn_move rfl) ⟨Below.refl _ _, fr_old rfl rfl⟩⟩) ?_
            refine .cons (fun f w' hI hs => ⟨wanted_none rfl, _, rfl, .val (rn_move rfl) ⟨Below.refl _ _, fr_old rfl rfl⟩⟩) ?_
            refine .cons (fun f w' hI hs => ⟨wanted_none rfl, _, rfl, .val (rn_move rfl) ⟨Below.refl _ _, fr_old rfl rfl⟩⟩) ?_
            refine .cons (fun f w' hI hs => ⟨wanted_none rfl, _, rfl, .val (rn_add3 rfl ((fr_own rfl rfl).trans (hs 46 (by kernel_rfl))) ((fr_own rfl rfl).trans (hs 47 (by kernel_rfl))) W1) ⟨Below.refl _ _, rfl⟩⟩) ?_
            refine .cons (fun f w' hI hs => ⟨wanted_none rfl, _, rfl, .val (rn_idx rfl ((fr_own rfl rfl).trans (hs 45 (by kernel_rfl))) ((fr_own rfl rfl).trans (hs 48 (by kernel_rfl))) (by omega)) ⟨Below.refl _ _, rfl⟩⟩) ?_
            refine .cons (fun f w' hI hs => ⟨wanted_none rfl, _, rfl, .val (rn_loadW rfl ((fr_own rfl rfl).trans (hs 49 (by kernel_rfl))) (hI.cR (by omega))) ⟨Below.refl _ _, rfl⟩⟩) ?_
            refine .cons (fun f w' hI hs => ⟨wanted_none rfl, _, rfl, .val (rn_move rfl) ⟨Below.refl _ _, fr_old rfl rfl⟩⟩) ?_
            refine .cons (fun f w' hI hs => ⟨wanted_none rfl, _, rfl, .val (rn_move rfl) ⟨Below.refl _ _, fr_old rfl rfl⟩⟩) ?_
            refine .cons (fun f w' hI hs => ⟨wanted_none rfl, _, rfl, .val (rn_move rfl) ⟨Below.refl _ _, fr_old rfl rfl⟩⟩) ?_
            refine .cons (fun f w' hI hs => ⟨wanted_none rfl, _, rfl, .val (rn_add3 rfl ((fr_own rfl rfl).trans (hs 52 (by kernel_rfl))) ((fr_own rfl rfl).trans (hs 53 (by kernel_rfl))) W1) ⟨Below.refl _ _, rfl⟩⟩) ?_
            refine .cons (fun f w' hI hs => ⟨wanted_none rfl, _, rfl, .val (rn_sub3 rfl ((fr_own rfl rfl).trans (hs 54 (by kernel_rfl))) rfl W2) ⟨Below.refl _ _, rfl⟩⟩) ?_
            refine .cons (fun f w' hI hs => ⟨wanted_none rfl, _, rfl, .val (rn_idx rfl ((fr_own rfl rfl).trans (hs 51 (by kernel_rfl))) ((fr_own rfl rfl).trans (hs 55 (by kernel_rfl))) (by omega)) ⟨Below.refl _ _, rfl⟩⟩) ?_
            refine .cons (fun f w' hI hs => ⟨wanted_none rfl, _, rfl, .val (rn_loadW rfl ((fr_own rfl rfl).trans (hs 56 (by kernel_rfl))) (hI.cR (by omega))) ⟨Below.refl _ _, rfl⟩⟩) ?_
            refine .cons (fun f w' hI hs => ⟨wanted_none rfl, _, rfl, .val (rn_move rfl) ⟨Below.refl _ _, fr_old rfl rfl⟩⟩) ?_
            refine .cons (fun f w' hI hs => ⟨wanted_none rfl, _, rfl, .val (rn_move rfl) ⟨Below.refl _ _, fr_old rfl rfl⟩⟩) ?_
            refine .cons (fun f w' hI hs => ⟨wanted_none rfl, _, rfl, .val (rn_move rfl) ⟨Below.refl _ _, fr_old rfl rfl⟩⟩) ?_
            refine .cons (fun f w' hI hs => ⟨wanted_none rfl, _, rfl, .val (rn_add3 rfl ((fr_own rfl rfl).trans (hs 59 (by kernel_rfl))) ((fr_own rfl rfl).trans (hs 60 (by kernel_rfl))) W1) ⟨Below.refl _ _, rfl⟩⟩) ?_
            refine .cons (fun f w' hI hs => ⟨wanted_none rfl, _, rfl, .val (rn_sub3 rfl ((fr_own rfl rfl).trans (hs 61 (by kernel_rfl))) rfl W3) ⟨Below.refl _ _, rfl⟩⟩) ?_
            refine .cons (fun f w' hI hs => ⟨wanted_none rfl, _, rfl, .val (rn_idx rfl ((fr_own rfl rfl).trans (hs 58 (by kernel_rfl))) ((fr_own rfl rfl).trans (hs 62 (by kernel_rfl))) (by omega)) ⟨Below.refl _ _, rfl⟩⟩) ?_
            refine .cons (fun f w' hI hs => ⟨wanted_none rfl, _, rfl, .val (rn_loadW rfl ((fr_own rfl rfl).trans (hs 63 (by kernel_rfl))) (hI.cR (by omega))) ⟨Below.refl _ _, rfl⟩⟩) ?_
            refine .cons (fun f w' hI hs => ⟨wanted_none rfl, _, rfl, .val (rn_move rfl) ⟨Below.refl _ _, fr_old rfl rfl⟩⟩) ?_
            refine .cons (fun f w' hI hs => ⟨wanted_none rfl, _, rfl, .val (rn_move rfl) ⟨Below.refl _ _, fr_old rfl rfl⟩⟩) ?_
            refine .cons (fun f w' hI hs => ⟨wanted_none rfl, _, rfl, .val (rn_sub3 rfl ((fr_own rfl rfl).trans (hs 66 (by kernel_rfl))) rfl W4) ⟨Below.refl _ _, rfl⟩⟩) ?_
            refine .cons (fun f w' hI hs => ⟨wanted_none rfl, _, rfl, .val (rn_idx rfl ((fr_own rfl rfl).trans (hs 65 (by kernel_rfl))) ((fr_own rfl rfl).trans (hs 67 (by kernel_rfl))) (by omega)) ⟨Below.refl _ _, rfl⟩⟩) ?_
            refine .cons (fun f w' hI hs => ⟨wanted_none rfl, _, rfl, .val (rn_loadW rfl ((fr_own rfl rfl).trans (hs 68 (by kernel_rfl))) (hI.cD (by omega))) ⟨Below.refl _ _, rfl⟩⟩) ?_
            refine .cons (fun f w' hI hs => ⟨wanted_none rfl, _, rfl, .val (rn_move rfl) ⟨Below.refl _ _, fr_old rfl rfl⟩⟩) ?_
            refine .cons (fun f w' hI hs => ⟨wanted_none rfl, _, rfl, .val (rn_move rfl) ⟨Below.refl _ _, fr_old rfl rfl⟩⟩) ?_
            refine .cons (fun f w' hI hs => ⟨wanted_none rfl, _, rfl, .val (rn_sub3 rfl ((fr_own rfl rfl).trans (hs 71 (by kernel_rfl))) rfl W5) ⟨Below.refl _ _, rfl⟩⟩) ?_
            refine .cons (fun f w' hI hs => ⟨wanted_none rfl, _, rfl, .val (rn_idx rfl ((fr_own rfl rfl).trans (hs 70 (by kernel_rfl))) ((fr_own rfl rfl).trans (hs 72 (by kernel_rfl))) (by omega)) ⟨Below.refl _ _, rfl⟩⟩) ?_
            refine .cons (fun f w' hI hs => ⟨wanted_none rfl, _, rfl, .val (rn_loadW rfl ((fr_own rfl rfl).trans (hs 73 (by kernel_rfl))) (hI.cD (by omega))) ⟨Below.refl _ _, rfl⟩⟩) ?_
            refine .cons (fun f w' hI hs => ⟨wanted_none rfl, _, rfl, ?_⟩) ?_
            · refine .inr (.inr ⟨161, _, rn_call5 rfl rfl cf161, ?_⟩)
              rw [fr_own (t := 50) rfl rfl, fr_own (t := 57) rfl rfl, fr_own (t := 64) rfl rfl, fr_own (t := 69) rfl rfl, fr_own (t := 74) rfl rfl]
              rw [show f 50 = _ from (hs 50 (by kernel_rfl)), show f 57 = _ from (hs 57 (by kernel_rfl)), show f 64 = _ from (hs 64 (by kernel_rfl)), show f 69 = _ from (hs 69 (by kernel_rfl)), show f 74 = _ from (hs 74 (by kernel_rfl))]
              exact (guessWord_any _ _ _ _ _ _ (WR.out.getD _) (WR.out.getD _) (WR.out.getD _) (WU.out.getD _) (WU.out.getD _) DP.out).mono fun _ _ ⟨hb, he⟩ => ⟨_, he, hb, by show _ = _; rw [HG.out]⟩
            refine .cons (fun f w' hI hs => ⟨wanted_none rfl, _, rfl, .val (rn_assign rfl) ⟨Below.refl _ _, (fr_own rfl rfl).trans (hs 75 (by kernel_rfl))⟩⟩) ?_
            exact .nil
          · intro f w' hI hk
            have h9 : f 9 = .int .u64 (g : Int) := hk 9 (by kernel_rfl)
            refine hK _ _ (Met.intro (hJ _ _ ?_))
            (repeat apply Exists.intro)
            refine ⟨?_, rfl⟩
            exact ⟨h9, hI⟩
        case rest =>
          obtain ⟨rfl, G1⟩ := hcut
          have G1 := Lib.hid G1
          obtain ⟨k, hk⟩ : ∃ k, n = k + 2 := ⟨n - 2, by omega⟩
          have GG := Lib.hid (show Uof rest i n / Dv ≤ g ∧ g ≤ Uof rest i n / Dv + 1 ∧ g < WB by
            have h := dw_guess (rest := rest) (ds := us.take n) (i := i) (k := k) (Dv := Dv) (by have := HL.out; omega) WR.out (fun x hx => WU.out x (List.mem_of_mem_take hx)) (by rw [List.length_take, HUL.out]; omega) HDV.out.symm (by
              rw [show (us.take n).getD (k + 1) 0 = us.getD (n - 1) 0 by rw [hk]; simp [List.getD_eq_getElem?_getD]]; exact TB.out) (by rw [← hk]; exact HH.out)
            rw [show (us.take n).getD (k + 1) 0 = us.getD (n - 1) 0 by rw [hk]; simp [List.getD_eq_getElem?_getD], show (us.take n).getD k 0 = us.getD (n - 2) 0 by rw [hk]; simp [List.getD_eq_getElem?_getD], show i + (k + 2) = i + n by omega, show i + (k + 1) = i + n - 1 by omega, show i + k = i + n - 2 by omega, ← hk, ← HG.out] at h
            exact h)
          clear hk
          have eA : (rest.take i).length = i := by rw [List.length_take, HL.out]; omega
          have eP : ((rest.drop i).take n).length = n := by rw [List.length_take, List.length_drop, HL.out]; omega
          have eD : (us.take n).length = n := by rw [List.length_take, HUL.out]; omega
          have wP : Wds ((rest.drop i).take n) := fun x hx => WR.out x (List.mem_of_mem_drop (List.mem_of_mem_take hx))
          have wD : Wds (us.take n) := fun x hx => WU.out x (List.mem_of_mem_take hx)
          have EA := Lib.hid eA; have EP := Lib.hid eP; have ED := Lib.hid eD; have WP := Lib.hid wP; have WD2 := Lib.hid wD
          clear eA eP eD wP wD
          go_upto_region 12 with fail
          go_cut [91] (fun v wc => ∃ out c, v = .bool (decide (((rest.getD (i + n) 0 : Nat) : Int) < ((c : Nat) : Int))) ∧ TM n i g Dv rest out c ∧ G6 w w1.heap.size w.heap.size w2.heap.size m n j0 (rest.take i ++ (out ++ rest.drop (i + n))) us (List.replicate (i + 1) 0 ++ tail) wc)
          case first =>
            rename_i J K' hJ hK
            refine wp_region_one DW12 (fun d v _ => CW12 w1.heap.size m n i g Dv rest (.slice (some ⟨w1.heap.size, 0, none⟩) (m + 1) (m + 1)) (.slice (some ⟨w.heap.size, 0, none⟩) n (n + 1)) d v)
              (G6 w w1.heap.size w.heap.size w2.heap.size m n j0 rest us (List.replicate (i + 1) 0 ++ tail))
              (fun w' => ∃ out c, TM n i g Dv rest out c ∧ G6 w w1.heap.size w.heap.size w2.heap.size m n j0 (rest.take i ++ (out ++ rest.drop (i + n))) us (List.replicate (i + 1) 0 ++ tail) w') 8 _ 84 rfl rfl (by kernel_rfl) (by kernel_rfl) (by kernel_rfl) (by kernel_rfl) (G1.out.keep (Below.refl _ _).drew) ?_ ?_ ?_ ?_
            · refine .cons (fun f w' hI hs => ⟨wanted_none rfl, _, rfl, .val (rn_move rfl) ⟨rfl, fr_old rfl rfl⟩⟩) ?_
              refine .cons (fun f w' hI hs => ⟨wanted_none rfl, _, rfl, .val (rn_move rfl) ⟨rfl, fr_old rfl rfl⟩⟩) ?_
              refine .cons (fun f w' hI hs => ⟨wanted_none rfl, _, rfl, .val (rn_move rfl) ⟨rfl, fr_old rfl rfl⟩⟩) ?_
              refine .cons (fun f w' hI hs => ⟨wanted_none rfl, _, rfl, .val (rn_move rfl) ⟨rfl, fr_old rfl rfl⟩⟩) ?_
              refine .cons (fun f w' hI hs => ⟨wanted_none rfl, _, rfl, .val (rn_add3 rfl ((fr_own rfl rfl).trans (hs 78 (by kernel_rfl))) ((fr_own rfl rfl).trans (hs 79 (by kernel_rfl))) W1.out) ⟨rfl, rfl⟩⟩) ?_
              refine .cons (fun f w' hI hs => ⟨wanted_none rfl, _, rfl, .val (rn_slice rfl ((fr_own rfl rfl).trans (hs 76 (by kernel_rfl))) ((fr_own rfl rfl).trans (hs 77 (by kernel_rfl))) ((fr_own rfl rfl).trans (hs 80 (by kernel_rfl))) (by omega) (by omega) (by omega)) ⟨rfl, rfl⟩⟩) ?_
              refine .cons (fun f w' hI hs => ⟨wanted_none rfl, _, rfl, .val (rn_move rfl) ⟨rfl, fr_old rfl rfl⟩⟩) ?_
              refine .cons (fun f w' hI hs => ⟨wanted_none rfl, _, rfl, .val (rn_move rfl) ⟨rfl, fr_old rfl rfl⟩⟩) ?_
              exact .nil
            · refine .cons (fun f w' hI hs => ⟨wanted_none rfl, _, rfl, .val (rn_move rfl) ⟨rfl, fr_old rfl rfl⟩⟩) ?_
              refine .cons (fun f w' hI hs => ⟨wanted_none rfl, _, rfl, .val (rn_move rfl) ⟨rfl, fr_old rfl rfl⟩⟩) ?_
              refine .cons (fun f w' hI hs => ⟨wanted_none rfl, _, rfl, .val (rn_move rfl) ⟨rfl, fr_old rfl rfl⟩⟩) ?_
              refine .cons (fun f w' hI hs => ⟨wanted_none rfl, _, rfl, .val (rn_add3 rfl ((fr_own rfl rfl).trans (hs 86 (by kernel_rfl))) ((fr_own rfl rfl).trans (hs 87 (by kernel_rfl))) W1.out) ⟨rfl, rfl⟩⟩) ?_
              refine .cons (fun f w' hI hs => ⟨wanted_none rfl, _, rfl, .val (rn_idx rfl ((fr_own rfl rfl).trans (hs 85 (by kernel_rfl))) ((fr_own rfl rfl).trans (hs 88 (by kernel_rfl))) (by omega)) ⟨rfl, rfl⟩⟩) ?_
              refine .cons (fun f w' hI hs => ⟨wanted_none rfl, _, rfl, .val (rn_loadW rfl ((fr_own rfl rfl).trans (hs 89 (by kernel_rfl))) (n := ((rest.getD (i + n) 0 : Nat) : Int)) ?_) ⟨rfl, rfl⟩⟩) ?_
              · rcases hI with hI | ⟨out, c, ht, hI⟩
                · exact hI.cR (by omega)
                · rw [hI.cR (by omega), getD_rest (by have := HL.out; omega) ht.1]
              refine .cons (fun f w' hI hs => ⟨wanted_none rfl, _, rfl, ?_⟩) ?_
              · obtain ⟨out, c, h84, ht⟩ : ∃ out c, f 84 = .int .u64 ((c : Nat) : Int) ∧ TM n i g Dv rest out c := hs 84 (by kernel_rfl)
                have h90 : f 90 = .int .u64 ((rest.getD (i + n) 0 : Nat) : Int) := hs 90 (by kernel_rfl)
                exact .val (rn_gtr24 rfl ((fr_own rfl rfl).trans h84) ((fr_own rfl rfl).trans h90) rfl) ⟨rfl, out, c, rfl, ht⟩
              exact .nil
            · intro f w' hI hs
              refine ⟨wanted_none rfl, .inr (.inr ⟨162, _, rn_call3 rfl rfl cf162, ?_⟩)⟩
              rw [fr_own (t := 81) rfl rfl, fr_own (t := 82) rfl rfl, fr_own (t := 83) rfl rfl]
              rw [show f 81 = .slice (some ⟨w1.heap.size, i, none⟩) (i + n - i) (m + 1 - i) from hs 81 (by kernel_rfl), show f 82 = .slice (some ⟨w.heap.size, 0, none⟩) n (n + 1) from hs 82 (by kernel_rfl), show f 83 = .int .u64 (g : Int) from hs 83 (by kernel_rfl)]
              have htm := takeMultiple_any w1.heap.size (m + 1 - i) g (n + 1) (m + 1) (some ⟨w.heap.size, 0, none⟩) (rest.take i) ((rest.drop i).take n) (rest.drop (i + n)) (us.take n) w' (by rw [split_rest]; exact hI.r) (by rw [EA.out, ED.out]; omega) (by rw [EP.out, ED.out]) WP.out WD2.out (hI.rd (by omega) HUL.out) GG.out.2.2 (by rw [ED.out]; omega)
              rw [EA.out, ED.out] at htm
              rw [show i + n - i = n by omega]
              refine htm.mono ?_
              rintro e w5 ⟨out, c, rfl, h1, h2, h3, h4, h5, h6, _⟩
              rw [ED.out] at h1 h4
              rw [← HDV.out] at h4
              have ht : TM n i g Dv rest out c := ⟨h1, h2, h3, h4⟩
              exact ⟨_, rfl, ⟨out, c, ht, hI.grown h6 h5 (by omega) (by omega) (by omega)⟩, ⟨out, c, rfl, ht⟩, fun _ _ _ _ _ h => h⟩
            · rintro f w' ⟨out, c, ht, hI⟩ hk
              obtain ⟨out', c', h91, ht'⟩ : ∃ out c, f 91 = .bool (decide (((rest.getD (i + n) 0 : Nat) : Int) < ((c : Nat) : Int))) ∧ TM n i g Dv rest out c := hk 91 (by kernel_rfl)
              obtain rfl := ht.uniq ht'
              refine hK _ _ (Met.intro (hJ _ _ ?_))
              (repeat apply Exists.intro)
              refine ⟨?_, rfl⟩
              exact ⟨out, c, h91, ht, hI⟩
          case rest =>
            obtain ⟨out, c, rfl, ht, G2⟩ := hcut
            have SG := Lib.hid (step_good (P := val ((rest.drop i).take n)) (top := rest.getD (i + n) 0) (D := Dv) (g := g) (out := val out) (c := c) (N := WB ^ n) (by rw [HDV.out, ← DVE.out]; exact Nat.mul_pos (Nat.pow_pos (by decide)) DP0.out) (by rw [HDV.out]; exact val_take_lt WU.out n) (by have := val_lt out ht.2.1; rw [ht.1] at this; exact this) ht.2.2.2 GG.out.1 GG.out.2.1)
            have HT := Lib.hid ht
            have hi1 : (i : Int) < (j0 : Int) + 1 := by omega
            have e9 : IntKind.i64.wrap ((i : Int) + (n : Int)) = (i : Int) + (n : Int) := IntWalk.i64_in _ (by omega)
            by_cases hc : rest.getD (i + n) 0 < c
            · rw [decide_eq_true (show ((rest.getD (i + n) 0 : Nat) : Int) < ((c : Nat) : Int) by omega)]
              obtain ⟨q1, q2⟩ := SG.out.2 hc
              have hg1 : 1 ≤ g := by rw [q1]; exact Nat.le_add_left _ _
              have e10 := subw g hg1 GG.out.2.2
              have HQ : Hid (g - 1 = Uof rest i n / Dv) := by show _ = _; rw [q1]; exact Nat.add_sub_cancel _ _
              have HQ2 := Lib.hid q2
              have HGW : Hid (Wd (g - 1)) := Nat.lt_of_le_of_lt (Nat.sub_le _ _) GG.out.2.2
              generalize g - 1 = g1 at *
              have G2 := Lib.hid G2
              clear hc hg1 q1 q2 ht SG
              go_wp2_with fail
              have ham := addMultiple_any w1.heap.size (m + 1 - i) 1 (n + 1) (m + 1) (some ⟨w.heap.size, 0, none⟩) (rest.take i) out (rest.drop (i + n)) (us.take n) wc G2.out.r (by rw [EA.out, ED.out]; omega) (by rw [HT.out.1, ED.out]) HT.out.2.1 WD2.out (G2.out.rd (by omega) HUL.out) (by unfold Wd WB; omega) (by rw [ED.out]; omega)
              rw [EA.out, ED.out, show ((1 : Nat) : Int) = 1 from rfl] at ham
              refine ham.mono ?_
              rintro e w5 ⟨out2, c2, rfl, k1, k2, k3, k4, k5, k6, _⟩
              rw [ED.out] at k1 k4
              rw [← HDV.out, Nat.one_mul] at k4
              have hr : val out2 = Uof rest i n % Dv := HQ2.out (val out2) c2 (by have := val_lt out2 k2; rw [k1] at this; exact this) k4
              have G3 := G2.out.grown k6 k5 (by omega) (by omega) (by omega)
              
              have HGR := Lib.hid hr
              have DN := Lib.hid (dw_next (rest := rest) (out := out2) (tail := tail) (i := i) (n := n) (Dv := Dv) (A := A) (q := g1) (by have := HL.out; omega) k1 HQ.out hr HV.out)
              have G4 := Lib.hid (G3.setQ g1 (by omega) (by omega) (by omega))
              have c3 := G3.q.cell (i := i) (by omega)
              have c4 := G3.q.frozen i
              obtain ⟨cv, hcv⟩ : ∃ cv, cv = wf (List.replicate (i + 1) 0 ++ tail) i := ⟨_, rfl⟩
              rw [← hcv] at c3
              have HK1 := Lib.hid k1
              have HK2 := Lib.hid k2
              clear hcv G3 hr k1 k2 k3 k4 k5 k6 ham
              go_wp2
              go_roundw
              case rel =>
                refine ⟨i, rest.take i ++ (out2 ++ rest.drop (i + n)), g1 :: tail, by omega, rfl, ?_, ?_, ?_, ?_, ?_, ?_, G4.out⟩
                · show _ = _; rw [DN.out.2.2, HL.out]
                · intro x hx
                  rcases List.mem_append.1 hx with hx | hx
                  · exact WR.out x (List.mem_of_mem_take hx)
                  · rcases List.mem_append.1 hx with hx | hx
                    · exact HK2.out x hx
                    · exact WR.out x (List.mem_of_mem_drop hx)
                · show _ = _; have := HTL.out; simp; omega
                · intro x hx
                  rcases List.mem_cons.1 hx with rfl | hx
                  · exact HGW.out
                  · exact HWT.out x hx
                · show _ < _; rw [DN.out.1, HGR.out]; exact Nat.mod_lt _ (by rw [HDV.out, ← DVE.out]; exact Nat.mul_pos (Nat.pow_pos (by decide)) DP0.out)
                · exact DN.out.2.1
              case measure => simp [intOf]
            · rw [decide_eq_false (show ¬ ((rest.getD (i + n) 0 : Nat) : Int) < ((c : Nat) : Int) by omega)]
              obtain ⟨q1, q2⟩ := SG.out.1 (by omega)
              have hr : val out = Uof rest i n % Dv := q2
              have HQ : Hid (g = Uof rest i n / Dv) := q1
              have G3 := G2
              
              have HGR := Lib.hid hr
              have DN := Lib.hid (dw_next (rest := rest) (out := out) (tail := tail) (i := i) (n := n) (Dv := Dv) (A := A) (q := g) (by have := HL.out; omega) ht.1 HQ.out hr HV.out)
              have G4 := Lib.hid (G3.setQ g (by omega) (by omega) (by omega))
              have c3 := G3.q.cell (i := i) (by omega)
              have c4 := G3.q.frozen i
              obtain ⟨cv, hcv⟩ : ∃ cv, cv = wf (List.replicate (i + 1) 0 ++ tail) i := ⟨_, rfl⟩
              rw [← hcv] at c3
              have HK1 := Lib.hid ht.1
              have HK2 := Lib.hid ht.2.1
              clear hcv G3 hr q1 q2 G2 ht
              go_wp2
              go_roundw
              case rel =>
                refine ⟨i, rest.take i ++ (out ++ rest.drop (i + n)), g :: tail, by omega, rfl, ?_, ?_, ?_, ?_, ?_, ?_, G4.out⟩
                · show _ = _; rw [DN.out.2.2, HL.out]
                · intro x hx
                  rcases List.mem_append.1 hx with hx | hx
                  · exact WR.out x (List.mem_of_mem_take hx)
                  · rcases List.mem_append.1 hx with hx | hx
                    · exact HK2.out x hx
                    · exact WR.out x (List.mem_of_mem_drop hx)
                · show _ = _; have := HTL.out; simp; omega
                · intro x hx
                  rcases List.mem_cons.1 hx with rfl | hx
                  · exact GG.out.2.2
                  · exact HWT.out x hx
                · show _ < _; rw [DN.out.1, HGR.out]; exact Nat.mod_lt _ (by rw [HDV.out, ← DVE.out]; exact Nat.mul_pos (Nat.pow_pos (by decide)) DP0.out)
                · exact DN.out.2.1
              case measure => simp [intOf]
end Go.Proofs.YtjjomjjgoceklaaGreat
