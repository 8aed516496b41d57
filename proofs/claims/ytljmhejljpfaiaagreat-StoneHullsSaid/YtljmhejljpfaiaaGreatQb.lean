import Derived.Test.YtljmhejljpfaiaaGreatQa
namespace Go.Proofs.YtljmhejljpfaiaaGreat
open Go.RowKit

/-! plain mathematics: both chains make up the hull -/
def fr2 (p q : Pt) : Int := (p.1 - q.1) * (p.1 - q.1) + (p.2 - q.2) * (p.2 - q.2)
/-- from p everything lies to the left of the way to s, and what lies on it is nearer -/
def Nx (P : List Pt) (p s : Pt) : Prop := s ≠ p ∧ ∀ q, q ∈ P → q ≠ p → 0 < D3 p s q ∨ (D3 p s q = 0 ∧ (q = s ∨ fr2 p q < fr2 p s))
theorem Nx.uniq {P : List Pt} {p s s' : Pt} (h : Nx P p s) (h' : Nx P p s') (hs : s ∈ P) (hs' : s' ∈ P) : s = s' := by
  have a := h.2 s' hs' h'.1
  have b := h'.2 s hs h.1
  rw [D3_swap] at b
  rcases a with a | ⟨a, a'⟩
  · rcases b with b | ⟨b, _⟩ <;> omega
  · rcases b with b | ⟨b, b'⟩
    · omega
    · rcases a' with a' | a'
      · exact a'.symm
      · rcases b' with b' | b'
        · exact b'
        · omega
theorem sq_nn (a : Int) : 0 ≤ a * a := by
  rcases Int.le_total 0 a with h | h
  · exact Int.mul_nonneg h h
  · have := Int.mul_nonneg (show 0 ≤ -a by omega) (show 0 ≤ -a by omega)
    rw [Int.neg_mul_neg] at this
    exact this
/-- what lies between two points of a line is nearer -/
theorem seg_far {b q c : Pt} (h1 : lxl b q) (h2 : lxl q c) (h0 : D3 b c q = 0) : fr2 b q < fr2 b c := by
  obtain ⟨w1, hw1⟩ : ∃ w, w = q.1 - b.1 := ⟨_, rfl⟩
  obtain ⟨w2, hw2⟩ : ∃ w, w = q.2 - b.2 := ⟨_, rfl⟩
  obtain ⟨y1, hy1⟩ : ∃ w, w = c.1 - q.1 := ⟨_, rfl⟩
  obtain ⟨y2, hy2⟩ : ∃ w, w = c.2 - q.2 := ⟨_, rfl⟩
  have e0 : w1 * y2 = w2 * y1 := by
    have : D3 b c q = y1 * w2 - w1 * y2 := by unfold D3; rw [hw1, hw2, hy1, hy2]; grind
    rw [this] at h0
    have := Int.mul_comm y1 w2
    omega
  have e1 : fr2 b q = w1 * w1 + w2 * w2 := by unfold fr2; rw [hw1, hw2]; grind
  have e2 : fr2 b c = fr2 b q + (y1 * y1 + y2 * y2) + 2 * (w1 * y1 + w2 * y2) := by rw [e1]; unfold fr2; rw [hw1, hw2, hy1, hy2]; grind
  have g1 : 0 < w2 ∨ (w2 = 0 ∧ 0 < w1) := by unfold lxl at h1; omega
  have g2 : 0 < y2 ∨ (y2 = 0 ∧ 0 < y1) := by unfold lxl at h2; omega
  have q1 := sq_nn y1
  have q2 := sq_nn y2
  have hd : 0 ≤ w1 * y1 + w2 * y2 := by
    rcases g1 with g1 | ⟨g1, g1'⟩
    · refine hnn g1 ?_
      have e : w2 * (w1 * y1 + w2 * y2) = y2 * (w1 * w1 + w2 * w2) := by
        have : w2 * (w1 * y1 + w2 * y2) = w1 * (w2 * y1) + w2 * w2 * y2 := by grind
        rw [this, ← e0]; grind
      rw [e]
      have := sq_nn w1
      have := sq_nn w2
      exact Int.mul_nonneg (by omega) (by omega)
    · rw [g1, Int.zero_mul] at e0
      have y0 : y2 = 0 := by
        rcases g2 with g2 | g2
        · have := Int.mul_pos g1' g2; omega
        · exact g2.1
      rw [g1, y0, Int.mul_zero, Int.add_zero]
      have : 0 < y1 := by omega
      exact Int.mul_nonneg (by omega) (by omega)
  have hy : 0 < y1 * y1 + y2 * y2 := by
    rcases g2 with g2 | ⟨g2, g2'⟩
    · have := Int.mul_pos g2 g2; omega
    · have := Int.mul_pos g2' g2'; omega
  omega
/-- along a list, its last point first -/
def NxAll (P : List Pt) : List Pt → Prop
  | c :: b :: t => Nx P b c ∧ NxAll P (b :: t)
  | _ => True
theorem edges_nx {P : List Pt} : ∀ (st : List Pt) (b c : Pt), EdgesOk P (c :: b :: st) → (∀ q, q ∈ P → D3 b c q = 0 → lxe q c) → (∀ q, q ∈ P → lxe ((c :: b :: st).getLast (by simp)) q) → NxAll P (c :: b :: st)
  | st, b, c, h, hT, hl => by
    have hlow : ∀ q, q ∈ P → D3 b c q = 0 → lxe b q := fun q hq h0 => by
      cases st with
      | nil => exact hl q hq
      | cons a r =>
        rcases lxe_total b q with k | k
        · exact k
        · exfalso
          have k1 := h.2.2.1 a r rfl
          have k2 := h.2.2.2.2.1 q hq
          rw [D3_crx] at k2
          rw [D3_crv] at k1
          have := tr_ns (lxl_hpv k) (lxl_hpv h.2.2.2.1) (lxl_hpv h.1) k2 k1
          rw [D3_crw] at h0
          omega
    refine ⟨⟨fun e => ?_, fun q hq hne => ?_⟩, ?_⟩
    · have := h.1; rw [e] at this; exact lxl_irr b this
    · have k := h.2.1 q hq
      rcases Int.lt_or_eq_of_le k with k | k
      · exact .inl k
      · refine .inr ⟨k.symm, ?_⟩
        have k1 := hlow q hq k.symm
        have k2 := hT q hq k.symm
        rcases k1 with k1 | k1
        · rcases k2 with k2 | k2
          · exact .inr (seg_far k1 k2 k.symm)
          · exact .inl k2
        · exact absurd k1.symm hne
    · cases st with
      | nil => trivial
      | cons a r =>
        refine edges_nx r a b h.2.2.2 (fun q hq h0 => ?_) (fun q hq => hl q hq)
        rcases lxe_total q b with k | k
        · exact k
        · exfalso
          have k1 := h.2.2.1 a r rfl
          have k2 := h.2.1 q hq
          rw [D3_crv] at k1
          rw [D3_crv'] at k2
          have := tr_ss (lxl_hpv h.2.2.2.1) (lxl_hpv h.1) (lxl_hpv k) k1 k2
          rw [← D3_crv] at this
          omega
/-! downward: everything turned by half a turn -/
def ngP (p : Pt) : Pt := (-p.1, -p.2)
theorem ngP_ngP (p : Pt) : ngP (ngP p) = p := by unfold ngP; simp
theorem ngP_inj {p q : Pt} (h : ngP p = ngP q) : p = q := by rw [← ngP_ngP p, h, ngP_ngP]
theorem D3_ng (a b c : Pt) : D3 (ngP a) (ngP b) (ngP c) = D3 a b c := by unfold D3 ngP; grind
theorem fr2_ng (a b : Pt) : fr2 (ngP a) (ngP b) = fr2 a b := by unfold fr2 ngP; grind
theorem lxl_ng {a b : Pt} : lxl (ngP a) (ngP b) ↔ lxl b a := by unfold lxl ngP; dsimp only; omega
theorem lxe_ng {a b : Pt} (h : lxe b a) : lxe (ngP a) (ngP b) := by
  rcases h with h | h
  · exact .inl (lxl_ng.2 h)
  · exact .inr (by rw [h])
theorem popC_ng : ∀ (st : List Pt) (p : Pt), popC (st.map ngP) (ngP p) = (popC st p).map ngP
  | [], _ => rfl
  | [_], _ => rfl
  | b :: a :: t, p => by
    show (if D3 (ngP a) (ngP b) (ngP p) ≤ 0 then popC ((a :: t).map ngP) (ngP p) else (b :: a :: t).map ngP) = (if D3 a b p ≤ 0 then popC (a :: t) p else b :: a :: t).map ngP
    rw [D3_ng, popC_ng (a :: t) p]
    split <;> rfl
theorem foldC_ng : ∀ (T st : List Pt), (T.map ngP).foldl addC (st.map ngP) = (T.foldl addC st).map ngP
  | [], _ => rfl
  | p :: T, st => by
    have : addC (st.map ngP) (ngP p) = (addC st p).map ngP := by show ngP p :: popC (st.map ngP) (ngP p) = _; rw [popC_ng]; rfl
    show (T.map ngP).foldl addC (addC (st.map ngP) (ngP p)) = _
    rw [this, foldC_ng T]; rfl
theorem chn_ng (T : List Pt) : chn (T.map ngP) = (chn T).map ngP := foldC_ng T []
theorem NxAll_ng {P : List Pt} : ∀ L, NxAll (P.map ngP) (L.map ngP) → NxAll P L
  | [], _ => trivial
  | [_], _ => trivial
  | c :: b :: t, h => by
    refine ⟨⟨fun e => h.1.1 (by rw [e]), fun q hq hne => ?_⟩, NxAll_ng (b :: t) h.2⟩
    have := h.1.2 (ngP q) (List.mem_map_of_mem hq) (fun e => hne (ngP_inj e))
    rw [D3_ng, fr2_ng, fr2_ng] at this
    rcases this with k | ⟨k, k'⟩
    · exact .inl k
    · exact .inr ⟨k, k'.imp ngP_inj id⟩
/-- a chain of points: one after the other -/
theorem edges_sorted {P : List Pt} : ∀ (st : List Pt) (c : Pt), EdgesOk P (c :: st) → (c :: st).Pairwise (fun a b => lxl b a)
  | [], c, _ => by simp
  | b :: t, c, h => by
    have ih := edges_sorted t b h.2.2.2
    refine List.pairwise_cons.2 ⟨fun x hx => ?_, ih⟩
    rcases List.mem_cons.1 hx with rfl | hx
    · exact h.1
    · exact lxl_trans ((List.pairwise_cons.1 ih).1 x hx) h.1
/-- what a point of a chain but the first is followed by -/
theorem nx_tail {P : List Pt} : ∀ (L : List Pt), NxAll P L → ∀ x, x ∈ L.tail → ∃ s, s ∈ L ∧ Nx P x s
  | [], _, x, hx => by simp at hx
  | [_], _, x, hx => by simp at hx
  | c :: b :: t, h, x, hx => by
    rcases List.mem_cons.1 hx with rfl | hx
    · exact ⟨c, by simp, h.1⟩
    · obtain ⟨s, h1, h2⟩ := nx_tail (b :: t) h.2 x hx
      exact ⟨s, List.mem_cons_of_mem _ h1, h2⟩
end Go.Proofs.YtljmhejljpfaiaaGreat
