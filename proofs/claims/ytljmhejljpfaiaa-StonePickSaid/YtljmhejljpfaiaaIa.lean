import Derived.Test.YtljmhejljpfaiaaGa
import Derived.Test.YtljmhejljpfaiaaFf
namespace Go.Proofs.Ytljmhejljpfaiaa
open Go.RowKit Go.Shelf

/-! plain mathematics: areas of the two parts of a cut -/
def cr2 (a b : Pt) : Int := a.1 * b.2 - b.1 * a.2
theorem cr2_self (a : Pt) : cr2 a a = 0 := by unfold cr2; omega
theorem cr2_swap (a b : Pt) : cr2 a b + cr2 b a = 0 := by unfold cr2; omega
theorem cr2_on {a b c : Pt} (h : D3 a b c = 0) : cr2 a c + cr2 c b = cr2 a b := by
  unfold D3 at h; unfold cr2; grind
/-- along a list of points -/
def pth : List Pt → Int
  | a :: b :: t => cr2 a b + pth (b :: t)
  | _ => 0
theorem pth_cons (a b : Pt) (t : List Pt) : pth (a :: b :: t) = cr2 a b + pth (b :: t) := rfl
theorem pth_join (x : Pt) (t : List Pt) : ∀ s : List Pt, pth (s ++ x :: t) = pth (s ++ [x]) + pth (x :: t)
  | [] => by show pth (x :: t) = 0 + pth (x :: t); omega
  | [a] => by show cr2 a x + pth (x :: t) = (cr2 a x + 0) + pth (x :: t); omega
  | a :: b :: s => by
    have := pth_join x t (b :: s)
    show cr2 a b + pth (b :: s ++ x :: t) = (cr2 a b + pth (b :: s ++ [x])) + pth (x :: t)
    omega
theorem rsm_shift (f : Nat → Int) : ∀ k, rsm f (k + 1) = f 0 + rsm (fun i => f (i + 1)) k
  | 0 => by show 0 + f 0 = f 0 + 0; omega
  | k + 1 => by
    have := rsm_shift f k
    show rsm f (k + 1) + f (k + 1) = f 0 + (rsm (fun i => f (i + 1)) k + f (k + 1))
    omega
theorem rsm_congr {f g : Nat → Int} : ∀ k, (∀ i, i < k → f i = g i) → rsm f k = rsm g k
  | 0, _ => rfl
  | k + 1, h => by
    show rsm f k + f k = rsm g k + g k
    rw [rsm_congr k (fun i hi => h i (by omega)), h k (by omega)]
theorem rsm_add (f : Nat → Int) (a : Nat) : ∀ b, rsm f (a + b) = rsm f a + rsm (fun i => f (a + i)) b
  | 0 => by show rsm f a = rsm f a + 0; omega
  | b + 1 => by
    have := rsm_add f a b
    show rsm f (a + b) + f (a + b) = rsm f a + (rsm (fun i => f (a + i)) b + f (a + b))
    omega
/-- along the corners from the one with an index on, around -/
def pI (l : List Pt) (a k : Nat) : Int := rsm (fun m => cr2 (pc l (a + m)) (pc l (a + m + 1))) k
theorem pI_add (l : List Pt) (a x y : Nat) : pI l a (x + y) = pI l a x + pI l (a + x) y := by
  unfold pI
  rw [rsm_add]
  congr 1
  exact rsm_congr y fun i _ => by rw [Nat.add_assoc a x i]
theorem pI_one (l : List Pt) (a : Nat) : pI l a 1 = cr2 (pc l a) (pc l (a + 1)) := by
  show 0 + cr2 (pc l (a + 0)) (pc l (a + 0 + 1)) = _
  rw [Nat.add_zero]; omega
theorem pI_behind (l : List Pt) (i : Nat) : ∀ k, pth (behind l i (k + 1)) = pI l (i + 1) k
  | 0 => rfl
  | k + 1 => by
    have ih := pI_behind l (i + 1) k
    rw [behind_succ, behind_succ, pth_cons, ← behind_succ, ih, Nat.add_comm k 1, pI_add, pI_one]
theorem pI_round (l : List Pt) : ∀ a, pI l a l.length = pI l 0 l.length
  | 0 => rfl
  | a + 1 => by
    have ih := pI_round l a
    have h1 := pI_add l a 1 l.length
    have h2 := pI_add l a l.length 1
    rw [Nat.add_comm l.length 1] at h2
    rw [h1, pI_one, pI_one] at h2
    have e : cr2 (pc l (a + l.length)) (pc l (a + l.length + 1)) = cr2 (pc l a) (pc l (a + 1)) := by
      rw [pc_add, show a + l.length + 1 = a + 1 + l.length by omega, pc_add]
    rw [e] at h2
    omega
theorem tw_pI (l : List Pt) : tw l = pI l 0 l.length := by
  rw [tw_rsm]
  unfold pI
  refine rsm_congr _ fun i hi => ?_
  rw [Nat.zero_add, pc_lt hi, pc_nx]
  rfl
theorem tw_at (l : List Pt) (a : Nat) : tw l = pI l a l.length := by rw [tw_pI, pI_round l a]
/-- of a list with its first point -/
theorem tw_pth (a : Pt) (t : List Pt) : tw (a :: t) = pth ((a :: t) ++ [a]) := by
  have gen : ∀ (l : List Pt), rsm (fun i => cr2 (l.getD i (0, 0)) (l.getD (i + 1) (0, 0))) (l.length - 1) = pth l := by
    intro l
    induction l with
    | nil => rfl
    | cons x l ih =>
      cases l with
      | nil => rfl
      | cons y l =>
        show rsm _ (l.length + 1) = _
        rw [rsm_shift, pth_cons]
        congr 1
  have h := gen ((a :: t) ++ [a])
  rw [← h, tw_rsm]
  have e : ((a :: t) ++ [a]).length - 1 = (a :: t).length := by simp
  rw [e]
  refine rsm_congr _ fun i hi => ?_
  have e1 : ((a :: t) ++ [a]).getD i (0, 0) = (a :: t).getD i (0, 0) := by
    simp only [List.getD_eq_getElem?_getD]
    rw [List.getElem?_append_left hi]
  have e2 : ((a :: t) ++ [a]).getD (i + 1) (0, 0) = (a :: t).getD (nx (a :: t).length i) (0, 0) := by
    simp only [List.getD_eq_getElem?_getD]
    rcases Nat.lt_or_ge (i + 1) (a :: t).length with q | q
    · rw [List.getElem?_append_left q]
      unfold nx
      rw [Nat.mod_eq_of_lt q]
    · have : i + 1 = (a :: t).length := by omega
      rw [List.getElem?_append_right q, this, Nat.sub_self]
      unfold nx
      rw [this, Nat.mod_self]
      rfl
  rw [e1, e2]
  rfl
theorem tw_rot (x : Pt) (ys : List Pt) : tw (x :: ys) = tw (ys ++ [x]) := by
  cases ys with
  | nil => rfl
  | cons y ys =>
    rw [tw_pth]
    show pth (x :: y :: (ys ++ [x])) = tw (y :: (ys ++ [x]))
    rw [tw_pth, pth_cons]
    have := pth_join x [y] (y :: ys)
    have e : y :: (ys ++ [x]) ++ [y] = (y :: ys) ++ x :: [y] := by simp
    rw [e, this]
    show cr2 x y + pth (y :: ys ++ [x]) = pth (y :: ys ++ [x]) + (cr2 x y + 0)
    omega
/-- a part, corner by corner -/
theorem Ct.area {l : List Pt} {p q : Pt} {i d : Nat} (h : Ct l p q i d) :
    tw (([q] ++ (behind l i d).filter (fun c => decide (c ≠ p))) ++ [p]) = cr2 q (pc l (i + 1)) + pI l (i + 1) (d - 1) + cr2 (pc l (i + d)) p + cr2 p q := by
  obtain ⟨k, rfl⟩ : ∃ k, d = k + 1 := ⟨d - 1, by have := h.hd; omega⟩
  have hn := h.hn
  -- no corner but the last one may be p
  have hne : ∀ m, 1 ≤ m → m ≤ k → pc l (i + m) ≠ p := fun m h1 h2 e => by
    have h5 := h.tr.cyc (i + m) (i + (k + 1)) (i + (k + 1) + 1) (by omega) (by omega) (by omega)
    rw [e, D3_rot, h.hp.2.2] at h5
    omega
  have hB : behind l i (k + 1) = behind l i k ++ [pc l (i + (k + 1))] := by
    rw [behind_add]
    show _ ++ [pc l (i + k + 1 + 0)] = _
    rw [show i + k + 1 + 0 = i + (k + 1) by omega]
  have hF : (behind l i k).filter (fun c => decide (c ≠ p)) = behind l i k := List.filter_eq_self.2 fun c hc => by
    obtain ⟨m, h1, h2, e⟩ := behind_mem.1 hc
    have := hne m h1 h2
    rw [e] at this
    simpa using this
  have hT : pth (q :: behind l i (k + 1)) = cr2 q (pc l (i + 1)) + pI l (i + 1) k := by
    rw [← pI_behind, behind_succ, pth_cons]
  show tw (q :: ((behind l i (k + 1)).filter (fun c => decide (c ≠ p)) ++ [p])) = _
  rw [tw_pth, Nat.add_sub_cancel]
  have key : pth (q :: ((behind l i (k + 1)).filter (fun c => decide (c ≠ p)) ++ [p])) = cr2 q (pc l (i + 1)) + pI l (i + 1) k + cr2 (pc l (i + (k + 1))) p := by
    rw [hB, List.filter_append, hF]
    by_cases hp : pc l (i + (k + 1)) = p
    · have : [pc l (i + (k + 1))].filter (fun c => decide (c ≠ p)) = [] := by rw [hp]; simp
      rw [this, List.append_nil, hp, cr2_self]
      rw [← hT, hB, hp]
      omega
    · have : [pc l (i + (k + 1))].filter (fun c => decide (c ≠ p)) = [pc l (i + (k + 1))] := by simp [hp]
      rw [this]
      have e : q :: (behind l i k ++ [pc l (i + (k + 1))] ++ [p]) = (q :: behind l i k) ++ pc l (i + (k + 1)) :: [p] := by simp
      rw [e, pth_join]
      have e2 : (q :: behind l i k) ++ [pc l (i + (k + 1))] = q :: behind l i (k + 1) := by rw [hB]; rfl
      rw [e2, hT]
      show _ + (cr2 _ _ + 0) = _
      omega
  have e : q :: ((behind l i (k + 1)).filter (fun c => decide (c ≠ p)) ++ [p]) ++ [q] = (q :: (behind l i (k + 1)).filter (fun c => decide (c ≠ p))) ++ p :: [q] := by simp
  rw [e, pth_join]
  have e2 : (q :: (behind l i (k + 1)).filter (fun c => decide (c ≠ p))) ++ [p] = q :: ((behind l i (k + 1)).filter (fun c => decide (c ≠ p)) ++ [p]) := rfl
  rw [e2, key]
  show _ + (cr2 p q + 0) = _
  omega
theorem Ct.areas {l : List Pt} {p q : Pt} {i d : Nat} (h : Ct l p q i d) :
    tw (([q] ++ (behind l i d).filter (fun c => decide (c ≠ p))) ++ [p]) + tw (([p] ++ (behind l (i + d) (l.length - d)).filter (fun c => decide (c ≠ q))) ++ [q]) = tw l := by
  have hd := h.hd; have hn := h.hn
  have h1 := h.area
  have h2 := h.swap.area
  have e1 := cr2_on h.hq.2.2
  have e2 := cr2_on h.hp.2.2
  have e3 : i + d + (l.length - d) = i + l.length := by omega
  rw [e3, pc_add] at h2
  have e4 : pI l (i + 1) l.length = pI l (i + 1) (d - 1) + cr2 (pc l (i + d)) (pc l (i + d + 1)) + pI l (i + d + 1) (l.length - d - 1) + cr2 (pc l i) (pc l (i + 1)) := by
    have e : l.length = (d - 1) + (1 + ((l.length - d - 1) + 1)) := by omega
    have e9 : pI l (i + 1) l.length = pI l (i + 1) ((d - 1) + (1 + ((l.length - d - 1) + 1))) := by rw [← e]
    rw [e9, pI_add, pI_add, pI_add, pI_one, pI_one]
    have a1 : i + 1 + (d - 1) = i + d := by omega
    have a2 : i + d + 1 + (l.length - d - 1) = i + l.length := by omega
    rw [a1, a2, show i + l.length + 1 = i + 1 + l.length by omega, pc_add, pc_add]
    omega
  have e5 := tw_at l (i + 1)
  have e6 := cr2_swap p q
  rw [h1, h2, e5, e4]
  omega
/-- both parts weigh what the whole does -/
theorem areas {l : List Pt} {p q : Pt} (ht : Tr l) (h3 : 3 ≤ l.length) (hp : IsP l p.1 p.2) (hq : IsP l q.1 q.2) (hc : CanC l p.1 p.2 q.1 q.2) : tw (partL l q p) + tw (partL l p q) = tw l := by
  have h := ct_of ht h3 hp hq hc
  have h1 := h.areas
  have hi : eo l q < l.length := eo_isp hq
  have hj : eo l p < l.length := eo_isp hp
  have w1 := wkR_behind l p (dist l.length (eo l q) (eo l p)) (eo l q)
  have w2 := wkR_behind l q (dist l.length (eo l p) (eo l q)) (eo l p)
  rw [Nat.mod_eq_of_lt hi] at w1
  rw [Nat.mod_eq_of_lt hj] at w2
  have hne : eo l q ≠ eo l p := fun e => by have := h.hd; unfold dist at this; rw [e] at this; simp at this
  have ed : l.length - dist l.length (eo l q) (eo l p) = dist l.length (eo l p) (eo l q) := by unfold dist; split <;> split <;> omega
  have eb : ∀ k, behind l (eo l q + dist l.length (eo l q) (eo l p)) k = behind l (eo l p) k := fun k => by
    unfold behind
    refine List.map_congr_left fun m _ => ?_
    obtain ⟨_, _, d3⟩ := dist_to hi hj hne
    unfold pc
    rw [show eo l q + dist l.length (eo l q) (eo l p) + 1 + m = (eo l q + dist l.length (eo l q) (eo l p)) + (1 + m) by omega, ← Nat.mod_add_mod, d3, Nat.add_assoc]
  rw [eb, ed] at h1
  unfold partL
  rw [w1, w2]
  exact h1
theorem tw_left {l : List Pt} {p q : Pt} (ht : Tr l) (h3 : 3 ≤ l.length) (hp : IsP l p.1 p.2) (hq : IsP l q.1 q.2) (hc : CanC l p.1 p.2 q.1 q.2) : tw (leftR l p q) = tw (partL l q p) := by
  obtain ⟨ys, h1, h2⟩ := leftR_eq ht h3 hp hq hc
  rw [h1, h2, tw_rot]
/-! plain mathematics: each border point is listed once -/
theorem edge_ne {l : List Pt} (ht : Tr l) (h3 : 3 ≤ l.length) {i : Nat} (_hi : i < l.length) : ¬ (px l (nx l.length i) = px l i ∧ pz l (nx l.length i) = pz l i) := fun ⟨e1, e2⟩ => by
  have h := ht.inj h3 (a := i) (b := i + 1) (by omega) (by omega)
  rw [pc_lt _hi, pc_nx, e1, e2] at h
  exact h rfl
theorem step_le {s : Int} {k g : Nat} (h : k ≤ g) (a : Int) : Bt (a + k * s) a (a + g * s) := by
  unfold Bt
  rcases Int.le_total 0 s with hs | hs
  · have h1 : (0 : Int) ≤ k * s := Int.mul_nonneg (by omega) hs
    have h2 : (k : Int) * s ≤ g * s := Int.mul_le_mul_of_nonneg_right (by omega) hs
    omega
  · have h1 : (k : Int) * s ≤ 0 := Int.mul_nonpos_of_nonneg_of_nonpos (by omega) hs
    have h2 : (g : Int) * s ≤ k * s := Int.mul_le_mul_of_nonpos_right (by omega) hs
    omega
theorem ept_hit {l : List Pt} (ht : Tr l) (h3 : 3 ≤ l.length) {i k : Nat} (hi : i < l.length) (hk : k < snE l i) : OnE (pc l i) (pc l (i + 1)) (ept l i k) ∧ ept l i k ≠ pc l (i + 1) := by
  have hx := sxE_mul l i
  have hz := szE_mul l i
  have hne := edge_ne ht h3 hi
  rw [pc_lt hi, pc_nx]
  generalize px l (nx l.length i) = bx at *
  generalize pz l (nx l.length i) = bz at *
  unfold ept
  generalize sxE l i = sx at *
  generalize szE l i = sz at *
  generalize snE l i = g at *
  generalize px l i = ax at *
  generalize pz l i = az at *
  have e1 : bx = ax + g * sx := by omega
  have e2 : bz = az + g * sz := by omega
  subst e1 e2
  refine ⟨⟨step_le (by omega) ax, step_le (by omega) az, ?_⟩, ?_⟩
  · unfold D3; dsimp only; grind
  · intro e
    have f1 := congrArg Prod.fst e; have f2 := congrArg Prod.snd e
    dsimp only at f1 f2
    have g1 : ((g : Int) - k) * sx = 0 := by rw [Int.sub_mul]; omega
    have g2 : ((g : Int) - k) * sz = 0 := by rw [Int.sub_mul]; omega
    have h1 : sx = 0 := by rcases Int.mul_eq_zero.1 g1 with h | h; omega; exact h
    have h2 : sz = 0 := by rcases Int.mul_eq_zero.1 g2 with h | h; omega; exact h
    subst h1 h2
    exact hne (by simp)
theorem range_of {a s : Int} {k : Int} {g : Nat} (hs : s ≠ 0) (h : Bt (a + k * s) a (a + g * s)) : 0 ≤ k ∧ k ≤ g := by
  unfold Bt at h
  rcases Int.lt_or_gt_of_ne hs with q | q
  · constructor
    · rcases Int.lt_or_le k 0 with r | r
      · have := Int.mul_pos_of_neg_of_neg r q
        have h2 : (0 : Int) ≤ -(g * s) := by have := Int.mul_nonpos_of_nonneg_of_nonpos (show (0 : Int) ≤ g by omega) (Int.le_of_lt q); omega
        omega
      · exact r
    · rcases Int.lt_or_le (g : Int) k with r | r
      · have := Int.mul_lt_mul_of_neg_right r q
        have h2 : (g : Int) * s ≤ 0 := Int.mul_nonpos_of_nonneg_of_nonpos (by omega) (Int.le_of_lt q)
        omega
      · exact r
  · constructor
    · rcases Int.lt_or_le k 0 with r | r
      · have := Int.mul_neg_of_neg_of_pos r q
        have h2 : (0 : Int) ≤ g * s := Int.mul_nonneg (by omega) (Int.le_of_lt q)
        omega
      · exact r
    · rcases Int.lt_or_le (g : Int) k with r | r
      · have := Int.mul_lt_mul_of_pos_right r q
        have h2 : (0 : Int) ≤ g * s := Int.mul_nonneg (by omega) (Int.le_of_lt q)
        omega
      · exact r
theorem hit_ept {l : List Pt} (ht : Tr l) (h3 : 3 ≤ l.length) {i : Nat} (hi : i < l.length) {r : Pt} (h : OnE (pc l i) (pc l (i + 1)) r) (hne : r ≠ pc l (i + 1)) : ∃ k, k < snE l i ∧ r = ept l i k := by
  have hx := sxE_mul l i
  have hz := szE_mul l i
  have hd := edge_ne ht h3 hi
  have hg : snE l i = Nat.gcd (px l (nx l.length i) - px l i).natAbs (pz l (nx l.length i) - pz l i).natAbs := rfl
  rw [pc_lt hi, pc_nx] at h
  rw [pc_nx] at hne
  obtain ⟨r1, r2⟩ := r
  unfold ept
  generalize px l (nx l.length i) = bx at *
  generalize pz l (nx l.length i) = bz at *
  generalize sxE l i = sx at *
  generalize szE l i = sz at *
  generalize snE l i = g at *
  generalize px l i = ax at *
  generalize pz l i = az at *
  have e1 : bx = ax + g * sx := by omega
  have e2 : bz = az + g * sz := by omega
  subst e1 e2
  have hs : ¬ (sx = 0 ∧ sz = 0) := fun ⟨h1, h2⟩ => hd (by subst h1 h2; simp)
  have hgp : 0 < g := by
    rcases Nat.eq_zero_or_pos g with e | e
    · subst e; exact absurd (by simp) hd
    · exact e
  have hcop : Nat.gcd sx.natAbs sz.natAbs = 1 := by
    have e1 : (ax + g * sx - ax).natAbs = g * sx.natAbs := by rw [show ax + g * sx - ax = g * sx by omega, Int.natAbs_mul, Int.natAbs_natCast]
    have e2 : (az + g * sz - az).natAbs = g * sz.natAbs := by rw [show az + g * sz - az = g * sz by omega, Int.natAbs_mul, Int.natAbs_natCast]
    rw [e1, e2, Nat.gcd_mul_left] at hg
    have : g * 1 = g * Nat.gcd sx.natAbs sz.natAbs := by omega
    exact (Nat.eq_of_mul_eq_mul_left hgp this).symm
  obtain ⟨b1, b2, b3⟩ := h
  dsimp only at b1 b2
  obtain ⟨u, hu⟩ : ∃ u, u = r1 - ax := ⟨_, rfl⟩
  obtain ⟨v, hv⟩ : ∃ v, v = r2 - az := ⟨_, rfl⟩
  have hc : sx * v = u * sz := by
    unfold D3 at b3
    dsimp only at b3
    have : (g : Int) * (sx * v - u * sz) = 0 := by subst hu hv; grind
    rcases Int.mul_eq_zero.1 this with h | h
    · omega
    · omega
  obtain ⟨k, hk1, hk2⟩ : ∃ k : Int, u = k * sx ∧ v = k * sz := by
    by_cases h0 : sx = 0
    · subst h0
      have h1 : sz.natAbs = 1 := by simpa using hcop
      have h2 : u * sz = 0 := by rw [← hc]; simp
      have h4 : u = 0 := by rcases Int.mul_eq_zero.1 h2 with h | h; exact h; omega
      rcases Int.natAbs_eq sz with q | q <;> rw [h1] at q
      · exact ⟨v, by simp [h4], by rw [q]; simp⟩
      · exact ⟨-v, by simp [h4], by rw [q]; simp⟩
    · have hdv : sx.natAbs ∣ u.natAbs := by
        have : sx.natAbs ∣ sz.natAbs * u.natAbs := by
          rw [← Int.natAbs_mul, Int.mul_comm sz u, ← hc, Int.natAbs_mul]
          exact Nat.dvd_mul_right _ _
        exact Nat.Coprime.dvd_of_dvd_mul_left hcop this
      obtain ⟨k, hk⟩ := Int.natAbs_dvd_natAbs.1 hdv
      refine ⟨k, by rw [hk, Int.mul_comm], ?_⟩
      rw [hk, Int.mul_assoc] at hc
      exact Int.eq_of_mul_eq_mul_left h0 hc
  have f1 : r1 = ax + k * sx := by omega
  have f2 : r2 = az + k * sz := by omega
  have hr : 0 ≤ k ∧ k ≤ g := by
    by_cases h0 : sx = 0
    · exact range_of (fun h => hs ⟨h0, h⟩) (f2 ▸ b2)
    · exact range_of h0 (f1 ▸ b1)
  obtain ⟨m, rfl⟩ : ∃ m : Nat, k = (m : Int) := ⟨k.toNat, by omega⟩
  refine ⟨m, ?_, by rw [f1, f2]⟩
  have : m ≠ g := fun e => hne (by rw [f1, f2, e])
  omega
theorem bp_mem {l : List Pt} (ht : Tr l) (h3 : 3 ≤ l.length) (r : Pt) : r ∈ bp l ↔ IsP l r.1 r.2 := by
  unfold bp bpE
  rw [List.mem_flatMap]
  constructor
  · rintro ⟨⟨i, hi⟩, _, hm⟩
    unfold eps at hm
    obtain ⟨k, hk, rfl⟩ := List.mem_map.1 hm
    have h := ept_hit ht h3 hi (List.mem_range.1 hk)
    exact ⟨i, hi, (hit_iff hi).2 ⟨h.2, h.1⟩⟩
  · rintro ⟨i, hi, h⟩
    have h := (hit_iff hi).1 h
    obtain ⟨k, hk, e⟩ := hit_ept ht h3 hi h.2 h.1
    refine ⟨⟨i, hi⟩, List.mem_finRange _, ?_⟩
    unfold eps
    exact List.mem_map.2 ⟨k, List.mem_range.2 hk, e.symm⟩
theorem hit_once {l : List Pt} (ht : Tr l) (h3 : 3 ≤ l.length) {i j : Nat} (hij : i < j) (hj : j < l.length) {p : Pt} (h1 : OnE (pc l i) (pc l (i + 1)) p) (h2 : p ≠ pc l (i + 1)) (h4 : OnE (pc l j) (pc l (j + 1)) p) (h5 : p ≠ pc l (j + 1)) : False := by
  obtain ⟨A, B, m1⟩ := h1.mx
  obtain ⟨C, E, m2⟩ := h4.mx
  have hA := m1.na h2
  have hC := m2.na h5
  have e1 := m1.d3 (pc l j) (pc l (j + 1))
  rw [D3_rot, h4.2.2, Int.mul_zero] at e1
  have t1 := ht.cyc0 (a := i) (b := j) (c := j + 1) (by omega) (by omega) (by omega)
  have t2 := ht.cyc0 (a := i + 1) (b := j) (c := j + 1) (by omega) (by omega) (by omega)
  have u2 := Int.mul_nonneg m1.hb t2
  rcases Nat.lt_or_ge (j + 1) (i + l.length) with q | q
  · have := Int.mul_pos hA (ht.cyc i j (j + 1) hij (by omega) q)
    omega
  · have e2 := m2.d3 (pc l i) (pc l (i + 1))
    rw [D3_rot, h1.2.2, Int.mul_zero] at e2
    have s1 := ht.cyc i (i + 1) j (by omega) (by omega) (by omega)
    rw [D3_rot, D3_rot] at s1
    have s2 := ht.cyc0 (a := i) (b := i + 1) (c := j + 1) (by omega) (by omega) (by omega)
    rw [D3_rot, D3_rot] at s2
    have := Int.mul_pos hC s1
    have := Int.mul_nonneg m2.hb s2
    omega
theorem bp_nodup {l : List Pt} (ht : Tr l) (h3 : 3 ≤ l.length) : (bp l).Nodup := by
  unfold bp bpE List.Nodup
  rw [List.pairwise_flatMap]
  refine ⟨fun i _ => ?_, ?_⟩
  · unfold eps
    rw [List.pairwise_map]
    refine List.Pairwise.imp_of_mem (R := fun a b => a < b) (fun {a b} _ _ hlt e => ?_) List.pairwise_lt_range
    have hne := edge_ne ht h3 i.2
    have hx := sxE_mul l i.1
    have hz := szE_mul l i.1
    unfold ept at e
    have f1 := congrArg Prod.fst e; have f2 := congrArg Prod.snd e
    dsimp only at f1 f2
    have g1 : ((b : Int) - a) * sxE l i.1 = 0 := by rw [Int.sub_mul]; omega
    have g2 : ((b : Int) - a) * szE l i.1 = 0 := by rw [Int.sub_mul]; omega
    have h1 : sxE l i.1 = 0 := by rcases Int.mul_eq_zero.1 g1 with h | h; omega; exact h
    have h2 : szE l i.1 = 0 := by rcases Int.mul_eq_zero.1 g2 with h | h; omega; exact h
    rw [h1, Int.mul_zero] at hx
    rw [h2, Int.mul_zero] at hz
    exact hne ⟨by omega, by omega⟩
  · have hp : (List.finRange l.length).Pairwise (fun a b => a.1 < b.1) := by
      refine List.pairwise_iff_getElem.2 fun a b ha hb hab => ?_
      simpa using hab
    refine hp.imp fun {a b} hab x hx y hy e => ?_
    unfold eps at hx hy
    obtain ⟨k1, hk1, rfl⟩ := List.mem_map.1 hx
    obtain ⟨k2, hk2, e2⟩ := List.mem_map.1 hy
    have r1 := ept_hit ht h3 a.2 (List.mem_range.1 hk1)
    have r2 := ept_hit ht h3 b.2 (List.mem_range.1 hk2)
    rw [e2, ← e] at r2
    exact hit_once ht h3 hab b.2 r1.1 r1.2 r2.1 r2.2
/-! the order behind a point -/
theorem ost_no {p : Pt} : ∀ (L : List Pt) (a c : List Pt), p ∉ L → (L.foldl (ostep p) (a, false, c)) = (a ++ L, false, c)
  | [], a, c, _ => by simp
  | q :: L, a, c, h => by
    have hq : q ≠ p := fun e => h (e ▸ List.mem_cons_self)
    have hL : p ∉ L := fun e => h (List.mem_cons_of_mem _ e)
    rw [List.foldl_cons]
    have : ostep p (a, false, c) q = (a ++ [q], false, c) := by unfold ostep; rw [if_neg hq, if_pos rfl]
    rw [this, ost_no L _ _ hL]
    simp
theorem ost_yes {p : Pt} : ∀ (L : List Pt) (a c : List Pt), p ∉ L → (L.foldl (ostep p) (a, true, c)) = (a, true, c ++ L)
  | [], a, c, _ => by simp
  | q :: L, a, c, h => by
    have hq : q ≠ p := fun e => h (e ▸ List.mem_cons_self)
    have hL : p ∉ L := fun e => h (List.mem_cons_of_mem _ e)
    rw [List.foldl_cons]
    have : ostep p (a, true, c) q = (a, true, c ++ [q]) := by unfold ostep; rw [if_neg hq, if_neg (by simp)]
    rw [this, ost_yes L _ _ hL]
    simp
theorem oth_split {l : List Pt} {p : Pt} (ht : Tr l) (h3 : 3 ≤ l.length) (hp : IsP l p.1 p.2) : ∃ X Y, bp l = X ++ p :: Y ∧ p ∉ X ∧ p ∉ Y ∧ oth l p = Y ++ X := by
  obtain ⟨X, Y, e⟩ := List.append_of_mem ((bp_mem ht h3 p).2 hp)
  have hn := bp_nodup ht h3
  rw [e] at hn
  have h1 := List.nodup_append.1 hn
  have hX : p ∉ X := fun h => h1.2.2 _ h _ List.mem_cons_self rfl
  have hY : p ∉ Y := (List.nodup_cons.1 h1.2.1).1
  refine ⟨X, Y, e, hX, hY, ?_⟩
  unfold oth ost
  rw [e, List.foldl_append, ost_no X _ _ hX, List.foldl_cons]
  have : ostep p ([] ++ X, false, []) p = (X, true, []) := by unfold ostep; rw [if_pos rfl]; simp
  rw [this, ost_yes Y _ _ hY]
  simp
/-- the last index at which a point stands, among the first k -/
def ixL (L : List Pt) (p : Pt) : Nat → Nat
  | 0 => 0
  | k + 1 => if L.getD k (0, 0) = p then k else ixL L p k
theorem ixL_lt (L : List Pt) (p : Pt) (h : 0 < L.length) : ∀ k, k ≤ L.length → ixL L p k < L.length
  | 0, _ => h
  | k + 1, hk => by
    unfold ixL
    split
    · omega
    · exact ixL_lt L p h k (by omega)
theorem ixL_split {X Y : List Pt} {p : Pt} (hY : p ∉ Y) : ∀ k, X.length + 1 + k ≤ (X ++ p :: Y).length → ixL (X ++ p :: Y) p (X.length + 1 + k) = X.length
  | 0, _ => by
    show (if _ then _ else _) = _
    rw [if_pos (by simp)]
  | k + 1, hk => by
    show (if (X ++ p :: Y).getD (X.length + 1 + k) (0, 0) = p then _ else ixL _ _ _) = _
    rw [if_neg]
    · exact ixL_split hY k (by omega)
    intro e
    rw [List.length_append, List.length_cons] at hk
    have h1 : k < Y.length := by omega
    have : (X ++ p :: Y).getD (X.length + 1 + k) (0, 0) = Y[k] := by
      rw [List.getD_eq_getElem?_getD, List.getElem?_append_right (by omega), show X.length + 1 + k - X.length = k + 1 by omega, List.getElem?_cons_succ, List.getElem?_eq_getElem h1]
      rfl
    rw [this] at e
    exact hY (e ▸ List.getElem_mem h1)
/-- the points behind an index, around, of those that are wanted, the first k -/
def ouR (L : List Pt) (a : Nat) (f : Pt → Bool) : Nat → List Pt
  | 0 => []
  | k + 1 => ouR L a f k ++ (if f (L.getD ((a + (k + 1)) % L.length) (0, 0)) then [L.getD ((a + (k + 1)) % L.length) (0, 0)] else [])
theorem ouR_filter (L : List Pt) (a : Nat) (f : Pt → Bool) : ∀ k, ouR L a f k = ((List.range k).map fun i => L.getD ((a + (i + 1)) % L.length) (0, 0)).filter f
  | 0 => rfl
  | k + 1 => by
    unfold ouR
    rw [ouR_filter L a f k, List.range_succ, List.map_append, List.filter_append]
    congr 1
    cases h : f (L.getD ((a + (k + 1)) % L.length) (0, 0)) with
    | true => rw [List.map_singleton, List.filter_cons_of_pos h]; rfl
    | false => rw [List.map_singleton, List.filter_cons_of_neg (by rw [h]; exact Bool.false_ne_true)]; rfl
theorem rot_split (X Y : List Pt) (p : Pt) : ((List.range (X.length + Y.length)).map fun i => (X ++ p :: Y).getD ((X.length + (i + 1)) % (X ++ p :: Y).length) (0, 0)) = Y ++ X := by
  refine List.ext_getElem (by simp; omega) fun i h1 h2 => ?_
  rw [List.length_map, List.length_range] at h1
  rw [List.getElem_map, List.getElem_range]
  have hl : (X ++ p :: Y).length = X.length + Y.length + 1 := by simp; omega
  rw [hl]
  rcases Nat.lt_or_ge i Y.length with q | q
  · rw [Nat.mod_eq_of_lt (by omega), List.getElem_append_left q, List.getD_eq_getElem?_getD, List.getElem?_append_right (by omega), show X.length + (i + 1) - X.length = i + 1 by omega, List.getElem?_cons_succ, List.getElem?_eq_getElem q]
    rfl
  · rw [List.getElem_append_right q]
    have e : (X.length + (i + 1)) % (X.length + Y.length + 1) = i - Y.length := by
      rw [show X.length + (i + 1) = (i - Y.length) + (X.length + Y.length + 1) by omega, Nat.add_mod_right, Nat.mod_eq_of_lt (by omega)]
    rw [e, List.getD_eq_getElem?_getD, List.getElem?_append_left (by omega), List.getElem?_eq_getElem (by omega)]
    rfl
/-- the reference's list is the program's -/
theorem ouR_oth {l : List Pt} {p : Pt} (ht : Tr l) (h3 : 3 ≤ l.length) (hp : IsP l p.1 p.2) (f : Pt → Bool) : ouR (bp l) (ixL (bp l) p (bp l).length) f ((bp l).length - 1) = (oth l p).filter f := by
  obtain ⟨X, Y, e, hX, hY, ho⟩ := oth_split ht h3 hp
  have hl : (X ++ p :: Y).length = X.length + 1 + Y.length := by simp; omega
  have hi := ixL_split (X := X) hY Y.length (by omega)
  rw [← hl] at hi
  rw [ouR_filter, ho, e, hi]
  have := rot_split X Y p
  rw [show (X ++ p :: Y).length - 1 = X.length + Y.length by omega, this]
end Go.Proofs.Ytljmhejljpfaiaa
