import Derived.Test.YtljmhejljpfaiaaGreatM
import Derived.Test.YtljmhejljpfaiaaGreatA
namespace Go.Proofs.YtljmhejljpfaiaaGreat
open Go.RowKit

/-! plain mathematics: the hull of points in order -/
/-- a direction upward, or to the right -/
def hpv (u : Pt) : Prop := 0 < u.2 ∨ (u.2 = 0 ∧ 0 < u.1)
def crv (u v : Pt) : Int := u.1 * v.2 - u.2 * v.1
def dfv (a b : Pt) : Pt := (b.1 - a.1, b.2 - a.2)
theorem crv_id2 (u v w : Pt) : v.2 * crv u w = u.2 * crv v w + w.2 * crv u v := by unfold crv; grind
theorem D3_crv (a b q : Pt) : D3 a b q = crv (dfv a b) (dfv b q) := by unfold D3 crv dfv; grind
theorem D3_crv' (a b q : Pt) : D3 a b q = crv (dfv a b) (dfv a q) := by unfold D3 crv dfv; grind
theorem D3_crw (t p q : Pt) : D3 t p q = crv (dfv q t) (dfv t p) := by unfold D3 crv dfv; grind
theorem D3_crx (a b q : Pt) : D3 a b q = crv (dfv q b) (dfv a b) := by unfold D3 crv dfv; grind
theorem hpos {h X : Int} (hh : 0 < h) (hX : 0 < h * X) : 0 < X := by
  rcases Int.lt_or_le 0 X with q | q
  · exact q
  · have := Int.mul_nonneg (show 0 ≤ h by omega) (show 0 ≤ -X by omega)
    rw [Int.mul_neg] at this
    omega
theorem hnn {h X : Int} (hh : 0 < h) (hX : 0 ≤ h * X) : 0 ≤ X := by
  rcases Int.lt_or_le X 0 with q | q
  · have := Int.mul_pos hh (show 0 < -X by omega)
    rw [Int.mul_neg] at this
    omega
  · exact q
theorem hpv_nn {u : Pt} (h : hpv u) : 0 ≤ u.2 := by rcases h with h | h <;> omega
theorem tr_ss {u v w : Pt} (hu : hpv u) (hv : hpv v) (hw : hpv w) (h1 : 0 < crv u v) (h2 : 0 ≤ crv v w) : 0 < crv u w := by
  have id := crv_id2 u v w
  have u2 := hpv_nn hu
  have w2 := hpv_nn hw
  rcases hv with hv | ⟨hv, hv1⟩
  · refine hpos hv ?_
    have p1 := Int.mul_nonneg u2 h2
    rcases hw with hw | ⟨hw, hw1⟩
    · have := Int.mul_pos hw h1; omega
    · exfalso
      unfold crv at h2
      rw [hw, Int.mul_zero] at h2
      have := Int.mul_pos hv hw1
      omega
  · exfalso
    unfold crv at h1
    rw [hv, Int.mul_zero] at h1
    have := Int.mul_nonneg u2 (show 0 ≤ v.1 by omega)
    omega
theorem tr_nn {u v w : Pt} (hu : hpv u) (hv : hpv v) (hw : hpv w) (h1 : 0 ≤ crv u v) (h2 : 0 ≤ crv v w) : 0 ≤ crv u w := by
  have id := crv_id2 u v w
  have u2 := hpv_nn hu
  have w2 := hpv_nn hw
  rcases hv with hv | ⟨hv, hv1⟩
  · refine hnn hv ?_
    have p1 := Int.mul_nonneg u2 h2
    have p2 := Int.mul_nonneg w2 h1
    omega
  · unfold crv at h1
    rw [hv, Int.mul_zero] at h1
    rcases hu with hu | ⟨hu, hu1⟩
    · have := Int.mul_pos hu hv1; omega
    · unfold crv
      rw [hu, Int.zero_mul]
      have := Int.mul_nonneg (show 0 ≤ u.1 by omega) w2
      omega
theorem tr_ns {u v w : Pt} (hu : hpv u) (hv : hpv v) (hw : hpv w) (h1 : 0 ≤ crv u v) (h2 : 0 < crv v w) : 0 < crv u w := by
  have id := crv_id2 u v w
  have u2 := hpv_nn hu
  have w2 := hpv_nn hw
  rcases hv with hv | ⟨hv, hv1⟩
  · refine hpos hv ?_
    have p2 := Int.mul_nonneg w2 h1
    rcases hu with hu | ⟨hu, hu1⟩
    · have := Int.mul_pos hu h2; omega
    · rcases hw with hw | ⟨hw, hw1⟩
      · have e : crv u v = u.1 * v.2 := by unfold crv; rw [hu, Int.zero_mul]; omega
        have := Int.mul_pos hw (show 0 < crv u v by rw [e]; exact Int.mul_pos hu1 hv)
        have := Int.mul_nonneg u2 (show 0 ≤ crv v w by omega)
        omega
      · exfalso
        unfold crv at h2
        rw [hw, Int.mul_zero] at h2
        have := Int.mul_pos hv hw1
        omega
  · have e1 : crv v w = v.1 * w.2 := by unfold crv; rw [hv, Int.zero_mul]; omega
    rw [e1] at h2
    have w3 := hpos hv1 h2
    unfold crv at h1
    rw [hv, Int.mul_zero] at h1
    rcases hu with hu | ⟨hu, hu1⟩
    · have := Int.mul_pos hu hv1; omega
    · unfold crv
      rw [hu, Int.zero_mul]
      have := Int.mul_pos hu1 w3
      omega
/-- lower, or as low and farther left; or the same -/
def lxl (p q : Pt) : Prop := p.2 < q.2 ∨ (p.2 = q.2 ∧ p.1 < q.1)
def lxe (p q : Pt) : Prop := lxl p q ∨ p = q
theorem lxl_hpv {p q : Pt} (h : lxl p q) : hpv (dfv p q) := by unfold lxl at h; unfold hpv dfv; dsimp only; omega
theorem lxl_irr (p : Pt) : ¬ lxl p p := by unfold lxl; omega
theorem lxl_trans {p q r : Pt} (h1 : lxl p q) (h2 : lxl q r) : lxl p r := by unfold lxl at *; omega
theorem lxe_trans {p q r : Pt} (h1 : lxe p q) (h2 : lxe q r) : lxe p r := by
  rcases h1 with h1 | rfl
  · rcases h2 with h2 | rfl
    · exact .inl (lxl_trans h1 h2)
    · exact .inl h1
  · exact h2
theorem lxl_lxe {p q r : Pt} (h1 : lxl p q) (h2 : lxe q r) : lxl p r := by
  rcases h2 with h2 | rfl
  · exact lxl_trans h1 h2
  · exact h1
theorem lxe_lxl {p q r : Pt} (h1 : lxe p q) (h2 : lxl q r) : lxl p r := by
  rcases h1 with h1 | rfl
  · exact lxl_trans h1 h2
  · exact h2
theorem lxe_asymm {p q : Pt} (h1 : lxe p q) (h2 : lxe q p) : p = q := by
  rcases h1 with h1 | h1
  · exact absurd (lxl_lxe h1 h2) (lxl_irr p)
  · exact h1
theorem lxe_total (p q : Pt) : lxe p q ∨ lxl q p := by
  obtain ⟨a, b⟩ := p
  obtain ⟨c, d⟩ := q
  unfold lxe lxl
  dsimp only
  rw [Prod.mk.injEq]
  omega
/-- the chain, its last point first: points at which the way does not turn left are taken away -/
def popC : List Pt → Pt → List Pt
  | b :: a :: t, p => if D3 a b p ≤ 0 then popC (a :: t) p else b :: a :: t
  | l, _ => l
def addC (l : List Pt) (p : Pt) : List Pt := p :: popC l p
def chn (S : List Pt) : List Pt := S.foldl addC []
/-- what holds at a chain's edges -/
def EdgesOk (P : List Pt) : List Pt → Prop
  | c :: b :: t => lxl b c ∧ (∀ q, q ∈ P → 0 ≤ D3 b c q) ∧ (∀ a r, t = a :: r → 0 < D3 a b c) ∧ EdgesOk P (b :: t)
  | _ => True
/-- what is left after points were taken away -/
theorem pop_ok {P : List Pt} {p : Pt} (hp : ∀ q, q ∈ P → lxe q p) : ∀ (c : Pt) (st : List Pt), EdgesOk P (c :: st) → (∀ x, x ∈ c :: st → x ∈ P) → (∀ q, q ∈ P → lxe c q → 0 ≤ D3 c p q) →
    ∃ c' st', popC (c :: st) p = c' :: st' ∧ EdgesOk P (c' :: st') ∧ (∀ x, x ∈ c' :: st' → x ∈ c :: st) ∧ (∀ q, q ∈ P → lxe c' q → 0 ≤ D3 c' p q) ∧ (∀ a r, st' = a :: r → 0 < D3 a c' p) ∧ (c' :: st').getLast (by simp) = (c :: st).getLast (by simp)
  | c, [], h, _, hN => ⟨c, [], rfl, h, fun x hx => hx, hN, (fun a r e => by cases e), rfl⟩
  | c, a :: t, h, hm, hN => by
    by_cases hd : D3 a c p ≤ 0
    · have ha := hm a (by simp)
      have hc := hm c (by simp)
      have e : popC (c :: a :: t) p = popC (a :: t) p := by show (if D3 a c p ≤ 0 then popC (a :: t) p else c :: a :: t) = _; rw [if_pos hd]
      obtain ⟨c', st', h1, h2, h3, h4, h5, h6⟩ := pop_ok hp a t h.2.2.2 (fun x hx => hm x (List.mem_cons_of_mem _ hx)) (fun q hq hq2 => by
        rcases hq2 with hq2 | rfl
        · rw [D3_crv' a p q]
          have hap : lxl a p := lxl_lxe h.1 (hp c hc)
          refine tr_nn (lxl_hpv hap) (lxl_hpv h.1) (lxl_hpv hq2) ?_ ?_
          · rw [D3_crv'] at hd
            have : crv (dfv a p) (dfv a c) = -crv (dfv a c) (dfv a p) := by unfold crv; grind
            omega
          · rw [← D3_crv']; exact h.2.1 q hq
        · rw [D3_same1]; omega)
      exact ⟨c', st', e.trans h1, h2, fun x hx => List.mem_cons_of_mem _ (h3 x hx), h4, h5, h6.trans (by simp)⟩
    · have e : popC (c :: a :: t) p = c :: a :: t := by show (if D3 a c p ≤ 0 then popC (a :: t) p else c :: a :: t) = _; rw [if_neg hd]
      refine ⟨c, a :: t, e, h, fun x hx => hx, hN, fun a' r er => ?_, rfl⟩
      cases er
      omega
/-- a new point lies to the left of the edges that are left -/
theorem edges_new {P : List Pt} {p : Pt} (hp : ∀ q, q ∈ P → lxe q p) : ∀ (c : Pt) (st : List Pt), EdgesOk P (c :: st) → (∀ x, x ∈ c :: st → x ∈ P) → (∀ a r, st = a :: r → 0 < D3 a c p) → EdgesOk (P ++ [p]) (c :: st)
  | _, [], _, _, _ => trivial
  | c, b :: t, h, hm, h0 => by
    have hb := h0 b t rfl
    refine ⟨h.1, fun q hq => ?_, h.2.2.1, edges_new hp b t h.2.2.2 (fun x hx => hm x (List.mem_cons_of_mem _ hx)) fun a r e => ?_⟩
    · rcases List.mem_append.1 hq with hq | hq
      · exact h.2.1 q hq
      · obtain rfl := List.mem_singleton.1 hq
        omega
    · subst e
      have h1 := h.2.2.1 a r rfl
      have hab : lxl a b := h.2.2.2.1
      have hbp : lxl b p := lxl_lxe h.1 (hp c (hm c (by simp)))
      rw [D3_crv]
      rw [D3_crv] at h1
      rw [D3_crv'] at hb
      exact tr_ss (lxl_hpv hab) (lxl_hpv h.1) (lxl_hpv hbp) h1 (by omega)
/-- the chain of points in order: its last and first point, its edges; or all points are one -/
structure Upc (P : List Pt) (st : List Pt) : Prop where
  ex : ∃ c r, st = c :: r ∧ (∀ q, q ∈ P → lxe q c) ∧ (∀ x, x ∈ c :: r → x ∈ P) ∧ ((∃ b, r = [b] ∧ b = c ∧ ∀ q, q ∈ P → q = c) ∨ (EdgesOk P (c :: r) ∧ ∀ q, q ∈ P → lxe ((c :: r).getLast (by simp)) q))
theorem upc_one (p : Pt) : Upc [p] [p] := ⟨p, [], rfl, fun q hq => by obtain rfl := List.mem_singleton.1 hq; exact .inr rfl, fun x hx => hx, .inr ⟨trivial, fun q hq => by obtain rfl := List.mem_singleton.1 hq; exact .inr rfl⟩⟩
theorem Upc.add {P st : List Pt} (h : Upc P st) {p : Pt} (hp : ∀ q, q ∈ P → lxe q p) : Upc (P ++ [p]) (addC st p) := by
  obtain ⟨c, r, rfl, h1, h2, h3⟩ := h.ex
  have hc := h2 c (by simp)
  have hpp : ∀ q, q ∈ P ++ [p] → lxe q p := fun q hq => by
    rcases List.mem_append.1 hq with hq | hq
    · exact hp q hq
    · obtain rfl := List.mem_singleton.1 hq; exact .inr rfl
  rcases h3 with ⟨b, rfl, rfl, hall⟩ | ⟨h3, hlast⟩
  · have e : addC [b, b] p = [p, b] := by
      show p :: (if D3 b b p ≤ 0 then popC [b] p else [b, b]) = _
      rw [if_pos (by rw [D3_same0]; omega)]; rfl
    rw [e]
    refine ⟨p, [b], rfl, hpp, fun x hx => ?_, ?_⟩
    · simp only [List.mem_cons, List.not_mem_nil, or_false] at hx
      rcases hx with rfl | rfl
      · simp
      · exact List.mem_append_left _ hc
    · rcases hp b hc with hl | rfl
      · refine .inr ⟨⟨hl, fun q hq => ?_, (fun a r e => by cases e), trivial⟩, fun q hq => ?_⟩
        · rcases List.mem_append.1 hq with hq | hq
          · rw [hall q hq, D3_same1]; omega
          · obtain rfl := List.mem_singleton.1 hq; rw [D3_same]; omega
        · show lxe b q
          rcases List.mem_append.1 hq with hq | hq
          · exact .inr (hall q hq).symm
          · obtain rfl := List.mem_singleton.1 hq; exact .inl hl
      · refine .inl ⟨b, rfl, rfl, fun q hq => ?_⟩
        rcases List.mem_append.1 hq with hq | hq
        · exact hall q hq
        · exact List.mem_singleton.1 hq
  · obtain ⟨c', st', e1, e2, e3, e4, e5, e6⟩ := pop_ok hp c r h3 h2 (fun q hq hq2 => by
      rw [lxe_asymm (h1 q hq) hq2, D3_same1]; omega)
    have ea : addC (c :: r) p = p :: c' :: st' := by show p :: popC (c :: r) p = _; rw [e1]
    rw [ea]
    have hm' : ∀ x, x ∈ c' :: st' → x ∈ P := fun x hx => h2 x (e3 x hx)
    have hc' := hm' c' (by simp)
    refine ⟨p, c' :: st', rfl, hpp, fun x hx => ?_, ?_⟩
    · rcases List.mem_cons.1 hx with rfl | hx
      · simp
      · exact List.mem_append_left _ (hm' x hx)
    · rcases hp c' hc' with hl | rfl
      · refine .inr ⟨⟨hl, fun q hq => ?_, fun a r e => e5 a r e, edges_new hp c' st' e2 hm' e5⟩, fun q hq => ?_⟩
        · rcases List.mem_append.1 hq with hq | hq
          · rcases lxe_total c' q with hcq | hqc
            · exact e4 q hq hcq
            · cases st' with
              | nil =>
                have := hlast q hq
                rw [← e6] at this
                exact absurd (lxl_lxe hqc this) (lxl_irr q)
              | cons a t =>
                have k1 := e5 a t rfl
                have k2 := e2.2.1 q hq
                rw [D3_crw]
                rw [D3_crx] at k2
                rw [D3_crv] at k1
                have := tr_ns (lxl_hpv hqc) (lxl_hpv e2.1) (lxl_hpv hl) k2 k1
                omega
          · obtain rfl := List.mem_singleton.1 hq; rw [D3_same]; omega
        · rw [List.getLast_cons (by simp), e6]
          rcases List.mem_append.1 hq with hq | hq
          · exact hlast q hq
          · obtain rfl := List.mem_singleton.1 hq
            have := hlast c' hc'
            exact .inl (lxe_lxl this hl)
      · cases st' with
        | nil =>
          refine .inl ⟨c', rfl, rfl, fun q hq => ?_⟩
          rcases List.mem_append.1 hq with hq | hq
          · have := hlast q hq
            rw [← e6] at this
            exact lxe_asymm (hp q hq) this
          · exact List.mem_singleton.1 hq
        | cons a t =>
          have := e5 a t rfl
          rw [D3_same] at this
          omega
theorem upc_all : ∀ (T P st : List Pt), Upc P st → (∀ q p, q ∈ P → p ∈ T → lxe q p) → T.Pairwise lxe → Upc (P ++ T) (T.foldl addC st)
  | [], P, st, h, _, _ => by rw [List.append_nil]; exact h
  | p :: T, P, st, h, hq, hs => by
    have := upc_all T (P ++ [p]) (addC st p) (h.add fun q k => hq q p k (by simp)) (fun q p' h1 h2 => by
      rcases List.mem_append.1 h1 with h1 | h1
      · exact hq q p' h1 (List.mem_cons_of_mem _ h2)
      · obtain rfl := List.mem_singleton.1 h1
        exact (List.pairwise_cons.1 hs).1 p' h2) (List.pairwise_cons.1 hs).2
    rw [List.append_assoc] at this
    exact this
/-- the way along points in order -/
theorem chn_upc {p : Pt} {T : List Pt} (hs : (p :: T).Pairwise lxe) : Upc (p :: T) (chn (p :: T)) :=
  upc_all T [p] [p] (upc_one p) (fun q p' h1 h2 => by obtain rfl := List.mem_singleton.1 h1; exact (List.pairwise_cons.1 hs).1 p' h2) (List.pairwise_cons.1 hs).2
end Go.Proofs.YtljmhejljpfaiaaGreat
