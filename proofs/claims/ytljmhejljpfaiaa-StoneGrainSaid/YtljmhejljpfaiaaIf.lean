import Derived.Test.YtljmhejljpfaiaaGa
import Derived.Test.YtljmhejljpfaiaaFf
import Derived.Test.YtljmhejljpfaiaaGd
import Derived.Test.YtljmhejljpfaiaaGf
import Derived.Test.YtljmhejljpfaiaaDi
import Derived.Test.YtljmhejljpfaiaaGg
import Derived.Test.YtljmhejljpfaiaaBs
import Derived.Test.YtljmhejljpfaiaaCe
namespace Go.Proofs.Ytljmhejljpfaiaa
open Go.RowKit Go.Shelf

/-! plain mathematics: areas of the two parts of a cut -/
def cr2 (a b : Pt) : Int := a.1 * b.2 - b.1 * a.2
theorem cr2_self (a : Pt) : cr2 a a = 0 := by unfold cr2; omega
theorem cr2_swap (a b : Pt) : cr2 a b + cr2 b a = 0 := by unfold cr2; omega
theorem cr2_on {a b c : Pt} (h : D3 a b c = 0) : cr2 a c + cr2 c b = cr2 a b := by
  unfold D3 at h; unfold cr2; grind
/-- along a list of points -/
def pth : List Pt → Int
  | a :: b :: t => cr2 a b + pth (b :: t)
  | _ => 0
theorem pth_cons (a b : Pt) (t : List Pt) : pth (a :: b :: t) = cr2 a b + pth (b :: t) := rfl
theorem pth_join (x : Pt) (t : List Pt) : ∀ s : List Pt, pth (s ++ x :: t) = pth (s ++ [x]) + pth (x :: t)
  | [] => by show pth (x :: t) = 0 + pth (x :: t); omega
  | [a] => by show cr2 a x + pth (x :: t) = (cr2 a x + 0) + pth (x :: t); omega
  | a :: b :: s => by
    have := pth_join x t (b :: s)
    show cr2 a b + pth (b :: s ++ x :: t) = (cr2 a b + pth (b :: s ++ [x])) + pth (x :: t)
    omega
theorem rsm_shift (f : Nat → Int) : ∀ k, rsm f (k + 1) = f 0 + rsm (fun i => f (i + 1)) k
  | 0 => by show 0 + f 0 = f 0 + 0; omega
  | k + 1 => by
    have := rsm_shift f k
    show rsm f (k + 1) + f (k + 1) = f 0 + (rsm (fun i => f (i + 1)) k + f (k + 1))
    omega
theorem rsm_congr {f g : Nat → Int} : ∀ k, (∀ i, i < k → f i = g i) → rsm f k = rsm g k
  | 0, _ => rfl
  | k + 1, h => by
    show rsm f k + f k = rsm g k + g k
    rw [rsm_congr k (fun i hi => h i (by omega)), h k (by omega)]
theorem rsm_add (f : Nat → Int) (a : Nat) : ∀ b, rsm f (a + b) = rsm f a + rsm (fun i => f (a + i)) b
  | 0 => by show rsm f a = rsm f a + 0; omega
  | b + 1 => by
    have := rsm_add f a b
    show rsm f (a + b) + f (a + b) = rsm f a + (rsm (fun i => f (a + i)) b + f (a + b))
    omega
/-- along the corners from the one with an index on, around -/
def pI (l : List Pt) (a k : Nat) : Int := rsm (fun m => cr2 (pc l (a + m)) (pc l (a + m + 1))) k
theorem pI_add (l : List Pt) (a x y : Nat) : pI l a (x + y) = pI l a x + pI l (a + x) y := by
  unfold pI
  rw [rsm_add]
  congr 1
  exact rsm_congr y fun i _ => by rw [Nat.add_assoc a x i]
theorem pI_one (l : List Pt) (a : Nat) : pI l a 1 = cr2 (pc l a) (pc l (a + 1)) := by
  show 0 + cr2 (pc l (a + 0)) (pc l (a + 0 + 1)) = _
  rw [Nat.add_zero]; omega
theorem pI_behind (l : List Pt) (i : Nat) : ∀ k, pth (behind l i (k + 1)) = pI l (i + 1) k
  | 0 => rfl
  | k + 1 => by
    have ih := pI_behind l (i + 1) k
    rw [behind_succ, behind_succ, pth_cons, ← behind_succ, ih, Nat.add_comm k 1, pI_add, pI_one]
theorem pI_round (l : List Pt) : ∀ a, pI l a l.length = pI l 0 l.length
  | 0 => rfl
  | a + 1 => by
    have ih := pI_round l a
    have h1 := pI_add l a 1 l.length
    have h2 := pI_add l a l.length 1
    rw [Nat.add_comm l.length 1] at h2
    rw [h1, pI_one, pI_one] at h2
    have e : cr2 (pc l (a + l.length)) (pc l (a + l.length + 1)) = cr2 (pc l a) (pc l (a + 1)) := by
      rw [pc_add, show a + l.length + 1 = a + 1 + l.length by omega, pc_add]
    rw [e] at h2
    omega
theorem tw_pI (l : List Pt) : tw l = pI l 0 l.length := by
  rw [tw_rsm]
  unfold pI
  refine rsm_congr _ fun i hi => ?_
  rw [Nat.zero_add, pc_lt hi, pc_nx]
  rfl
theorem tw_at (l : List Pt) (a : Nat) : tw l = pI l a l.length := by rw [tw_pI, pI_round l a]
/-- of a list with its first point -/
theorem tw_pth (a : Pt) (t : List Pt) : tw (a :: t) = pth ((a :: t) ++ [a]) := by
  have gen : ∀ (l : List Pt), rsm (fun i => cr2 (l.getD i (0, 0)) (l.getD (i + 1) (0, 0))) (l.length - 1) = pth l := by
    intro l
    induction l with
    | nil => rfl
    | cons x l ih =>
      cases l with
      | nil => rfl
      | cons y l =>
        show rsm _ (l.length + 1) = _
        rw [rsm_shift, pth_cons]
        congr 1
  have h := gen ((a :: t) ++ [a])
  rw [← h, tw_rsm]
  have e : ((a :: t) ++ [a]).length - 1 = (a :: t).length := by simp
  rw [e]
  refine rsm_congr _ fun i hi => ?_
  have e1 : ((a :: t) ++ [a]).getD i (0, 0) = (a :: t).getD i (0, 0) := by
    simp only [List.getD_eq_getElem?_getD]
    rw [List.getElem?_append_left hi]
  have e2 : ((a :: t) ++ [a]).getD (i + 1) (0, 0) = (a :: t).getD (nx (a :: t).length i) (0, 0) := by
    simp only [List.getD_eq_getElem?_getD]
    rcases Nat.lt_or_ge (i + 1) (a :: t).length with q | q
    · rw [List.getElem?_append_left q]
      unfold nx
      rw [Nat.mod_eq_of_lt q]
    · have : i + 1 = (a :: t).length := by omega
      rw [List.getElem?_append_right q, this, Nat.sub_self]
      unfold nx
      rw [this, Nat.mod_self]
      rfl
  rw [e1, e2]
  rfl
theorem tw_rot (x : Pt) (ys : List Pt) : tw (x :: ys) = tw (ys ++ [x]) := by
  cases ys with
  | nil => rfl
  | cons y ys =>
    rw [tw_pth]
    show pth (x :: y :: (ys ++ [x])) = tw (y :: (ys ++ [x]))
    rw [tw_pth, pth_cons]
    have := pth_join x [y] (y :: ys)
    have e : y :: (ys ++ [x]) ++ [y] = (y :: ys) ++ x :: [y] := by simp
    rw [e, this]
    show cr2 x y + pth (y :: ys ++ [x]) = pth (y :: ys ++ [x]) + (cr2 x y + 0)
    omega
/-- a part, corner by corner -/
theorem Ct.area {l : List Pt} {p q : Pt} {i d : Nat} (h : Ct l p q i d) :
    tw (([q] ++ (behind l i d).filter (fun c => decide (c ≠ p))) ++ [p]) = cr2 q (pc l (i + 1)) + pI l (i + 1) (d - 1) + cr2 (pc l (i + d)) p + cr2 p q := by
  obtain ⟨k, rfl⟩ : ∃ k, d = k + 1 := ⟨d - 1, by have := h.hd; omega⟩
  have hn := h.hn
  -- no corner but the last one may be p
  have hne : ∀ m, 1 ≤ m → m ≤ k → pc l (i + m) ≠ p := fun m h1 h2 e => by
    have h5 := h.tr.cyc (i + m) (i + (k + 1)) (i + (k + 1) + 1) (by omega) (by omega) (by omega)
    rw [e, D3_rot, h.hp.2.2] at h5
    omega
  have hB : behind l i (k + 1) = behind l i k ++ [pc l (i + (k + 1))] := by
    rw [behind_add]
    show _ ++ [pc l (i + k + 1 + 0)] = _
    rw [show i + k + 1 + 0 = i + (k + 1) by omega]
  have hF : (behind l i k).filter (fun c => decide (c ≠ p)) = behind l i k := List.filter_eq_self.2 fun c hc => by
    obtain ⟨m, h1, h2, e⟩ := behind_mem.1 hc
    have := hne m h1 h2
    rw [e] at this
    simpa using this
  have hT : pth (q :: behind l i (k + 1)) = cr2 q (pc l (i + 1)) + pI l (i + 1) k := by
    rw [← pI_behind, behind_succ, pth_cons]
  show tw (q :: ((behind l i (k + 1)).filter (fun c => decide (c ≠ p)) ++ [p])) = _
  rw [tw_pth, Nat.add_sub_cancel]
  have key : pth (q :: ((behind l i (k + 1)).filter (fun c => decide (c ≠ p)) ++ [p])) = cr2 q (pc l (i + 1)) + pI l (i + 1) k + cr2 (pc l (i + (k + 1))) p := by
    rw [hB, List.filter_append, hF]
    by_cases hp : pc l (i + (k + 1)) = p
    · have : [pc l (i + (k + 1))].filter (fun c => decide (c ≠ p)) = [] := by rw [hp]; simp
      rw [this, List.append_nil, hp, cr2_self]
      rw [← hT, hB, hp]
      omega
    · have : [pc l (i + (k + 1))].filter (fun c => decide (c ≠ p)) = [pc l (i + (k + 1))] := by simp [hp]
      rw [this]
      have e : q :: (behind l i k ++ [pc l (i + (k + 1))] ++ [p]) = (q :: behind l i k) ++ pc l (i + (k + 1)) :: [p] := by simp
      rw [e, pth_join]
      have e2 : (q :: behind l i k) ++ [pc l (i + (k + 1))] = q :: behind l i (k + 1) := by rw [hB]; rfl
      rw [e2, hT]
      show _ + (cr2 _ _ + 0) = _
      omega
  have e : q :: ((behind l i (k + 1)).filter (fun c => decide (c ≠ p)) ++ [p]) ++ [q] = (q :: (behind l i (k + 1)).filter (fun c => decide (c ≠ p))) ++ p :: [q] := by simp
  rw [e, pth_join]
  have e2 : (q :: (behind l i (k + 1)).filter (fun c => decide (c ≠ p))) ++ [p] = q :: ((behind l i (k + 1)).filter (fun c => decide (c ≠ p)) ++ [p]) := rfl
  rw [e2, key]
  show _ + (cr2 p q + 0) = _
  omega
theorem Ct.areas {l : List Pt} {p q : Pt} {i d : Nat} (h : Ct l p q i d) :
    tw (([q] ++ (behind l i d).filter (fun c => decide (c ≠ p))) ++ [p]) + tw (([p] ++ (behind l (i + d) (l.length - d)).filter (fun c => decide (c ≠ q))) ++ [q]) = tw l := by
  have hd := h.hd; have hn := h.hn
  have h1 := h.area
  have h2 := h.swap.area
  have e1 := cr2_on h.hq.2.2
  have e2 := cr2_on h.hp.2.2
  have e3 : i + d + (l.length - d) = i + l.length := by omega
  rw [e3, pc_add] at h2
  have e4 : pI l (i + 1) l.length = pI l (i + 1) (d - 1) + cr2 (pc l (i + d)) (pc l (i + d + 1)) + pI l (i + d + 1) (l.length - d - 1) + cr2 (pc l i) (pc l (i + 1)) := by
    have e : l.length = (d - 1) + (1 + ((l.length - d - 1) + 1)) := by omega
    have e9 : pI l (i + 1) l.length = pI l (i + 1) ((d - 1) + (1 + ((l.length - d - 1) + 1))) := by rw [← e]
    rw [e9, pI_add, pI_add, pI_add, pI_one, pI_one]
    have a1 : i + 1 + (d - 1) = i + d := by omega
    have a2 : i + d + 1 + (l.length - d - 1) = i + l.length := by omega
    rw [a1, a2, show i + l.length + 1 = i + 1 + l.length by omega, pc_add, pc_add]
    omega
  have e5 := tw_at l (i + 1)
  have e6 := cr2_swap p q
  rw [h1, h2, e5, e4]
  omega
/-- both parts weigh what the whole does -/
theorem areas {l : List Pt} {p q : Pt} (ht : Tr l) (h3 : 3 ≤ l.length) (hp : IsP l p.1 p.2) (hq : IsP l q.1 q.2) (hc : CanC l p.1 p.2 q.1 q.2) : tw (partL l q p) + tw (partL l p q) = tw l := by
  have h := ct_of ht h3 hp hq hc
  have h1 := h.areas
  have hi : eo l q < l.length := eo_isp hq
  have hj : eo l p < l.length := eo_isp hp
  have w1 := wkR_behind l p (dist l.length (eo l q) (eo l p)) (eo l q)
  have w2 := wkR_behind l q (dist l.length (eo l p) (eo l q)) (eo l p)
  rw [Nat.mod_eq_of_lt hi] at w1
  rw [Nat.mod_eq_of_lt hj] at w2
  have hne : eo l q ≠ eo l p := fun e => by have := h.hd; unfold dist at this; rw [e] at this; simp at this
  have ed : l.length - dist l.length (eo l q) (eo l p) = dist l.length (eo l p) (eo l q) := by unfold dist; split <;> split <;> omega
  have eb : ∀ k, behind l (eo l q + dist l.length (eo l q) (eo l p)) k = behind l (eo l p) k := fun k => by
    unfold behind
    refine List.map_congr_left fun m _ => ?_
    obtain ⟨_, _, d3⟩ := dist_to hi hj hne
    unfold pc
    rw [show eo l q + dist l.length (eo l q) (eo l p) + 1 + m = (eo l q + dist l.length (eo l q) (eo l p)) + (1 + m) by omega, ← Nat.mod_add_mod, d3, Nat.add_assoc]
  rw [eb, ed] at h1
  unfold partL
  rw [w1, w2]
  exact h1
theorem tw_left {l : List Pt} {p q : Pt} (ht : Tr l) (h3 : 3 ≤ l.length) (hp : IsP l p.1 p.2) (hq : IsP l q.1 q.2) (hc : CanC l p.1 p.2 q.1 q.2) : tw (leftR l p q) = tw (partL l q p) := by
  obtain ⟨ys, h1, h2⟩ := leftR_eq ht h3 hp hq hc
  rw [h1, h2, tw_rot]
/-! plain mathematics: each border point is listed once -/
theorem edge_ne {l : List Pt} (ht : Tr l) (h3 : 3 ≤ l.length) {i : Nat} (_hi : i < l.length) : ¬ (px l (nx l.length i) = px l i ∧ pz l (nx l.length i) = pz l i) := fun ⟨e1, e2⟩ => by
  have h := ht.inj h3 (a := i) (b := i + 1) (by omega) (by omega)
  rw [pc_lt _hi, pc_nx, e1, e2] at h
  exact h rfl
theorem step_le {s : Int} {k g : Nat} (h : k ≤ g) (a : Int) : Bt (a + k * s) a (a + g * s) := by
  unfold Bt
  rcases Int.le_total 0 s with hs | hs
  · have h1 : (0 : Int) ≤ k * s := Int.mul_nonneg (by omega) hs
    have h2 : (k : Int) * s ≤ g * s := Int.mul_le_mul_of_nonneg_right (by omega) hs
    omega
  · have h1 : (k : Int) * s ≤ 0 := Int.mul_nonpos_of_nonneg_of_nonpos (by omega) hs
    have h2 : (g : Int) * s ≤ k * s := Int.mul_le_mul_of_nonpos_right (by omega) hs
    omega
theorem ept_hit {l : List Pt} (ht : Tr l) (h3 : 3 ≤ l.length) {i k : Nat} (hi : i < l.length) (hk : k < snE l i) : OnE (pc l i) (pc l (i + 1)) (ept l i k) ∧ ept l i k ≠ pc l (i + 1) := by
  have hx := sxE_mul l i
  have hz := szE_mul l i
  have hne := edge_ne ht h3 hi
  rw [pc_lt hi, pc_nx]
  generalize px l (nx l.length i) = bx at *
  generalize pz l (nx l.length i) = bz at *
  unfold ept
  generalize sxE l i = sx at *
  generalize szE l i = sz at *
  generalize snE l i = g at *
  generalize px l i = ax at *
  generalize pz l i = az at *
  have e1 : bx = ax + g * sx := by omega
  have e2 : bz = az + g * sz := by omega
  subst e1 e2
  refine ⟨⟨step_le (by omega) ax, step_le (by omega) az, ?_⟩, ?_⟩
  · unfold D3; dsimp only; grind
  · intro e
    have f1 := congrArg Prod.fst e; have f2 := congrArg Prod.snd e
    dsimp only at f1 f2
    have g1 : ((g : Int) - k) * sx = 0 := by rw [Int.sub_mul]; omega
    have g2 : ((g : Int) - k) * sz = 0 := by rw [Int.sub_mul]; omega
    have h1 : sx = 0 := by rcases Int.mul_eq_zero.1 g1 with h | h; omega; exact h
    have h2 : sz = 0 := by rcases Int.mul_eq_zero.1 g2 with h | h; omega; exact h
    subst h1 h2
    exact hne (by simp)
theorem range_of {a s : Int} {k : Int} {g : Nat} (hs : s ≠ 0) (h : Bt (a + k * s) a (a + g * s)) : 0 ≤ k ∧ k ≤ g := by
  unfold Bt at h
  rcases Int.lt_or_gt_of_ne hs with q | q
  · constructor
    · rcases Int.lt_or_le k 0 with r | r
      · have := Int.mul_pos_of_neg_of_neg r q
        have h2 : (0 : Int) ≤ -(g * s) := by have := Int.mul_nonpos_of_nonneg_of_nonpos (show (0 : Int) ≤ g by omega) (Int.le_of_lt q); omega
        omega
      · exact r
    · rcases Int.lt_or_le (g : Int) k with r | r
      · have := Int.mul_lt_mul_of_neg_right r q
        have h2 : (g : Int) * s ≤ 0 := Int.mul_nonpos_of_nonneg_of_nonpos (by omega) (Int.le_of_lt q)
        omega
      · exact r
  · constructor
    · rcases Int.lt_or_le k 0 with r | r
      · have := Int.mul_neg_of_neg_of_pos r q
        have h2 : (0 : Int) ≤ g * s := Int.mul_nonneg (by omega) (Int.le_of_lt q)
        omega
      · exact r
    · rcases Int.lt_or_le (g : Int) k with r | r
      · have := Int.mul_lt_mul_of_pos_right r q
        have h2 : (0 : Int) ≤ g * s := Int.mul_nonneg (by omega) (Int.le_of_lt q)
        omega
      · exact r
theorem hit_ept {l : List Pt} (ht : Tr l) (h3 : 3 ≤ l.length) {i : Nat} (hi : i < l.length) {r : Pt} (h : OnE (pc l i) (pc l (i + 1)) r) (hne : r ≠ pc l (i + 1)) : ∃ k, k < snE l i ∧ r = ept l i k := by
  have hx := sxE_mul l i
  have hz := szE_mul l i
  have hd := edge_ne ht h3 hi
  have hg : snE l i = Nat.gcd (px l (nx l.length i) - px l i).natAbs (pz l (nx l.length i) - pz l i).natAbs := rfl
  rw [pc_lt hi, pc_nx] at h
  rw [pc_nx] at hne
  obtain ⟨r1, r2⟩ := r
  unfold ept
  generalize px l (nx l.length i) = bx at *
  generalize pz l (nx l.length i) = bz at *
  generalize sxE l i = sx at *
  generalize szE l i = sz at *
  generalize snE l i = g at *
  generalize px l i = ax at *
  generalize pz l i = az at *
  have e1 : bx = ax + g * sx := by omega
  have e2 : bz = az + g * sz := by omega
  subst e1 e2
  have hs : ¬ (sx = 0 ∧ sz = 0) := fun ⟨h1, h2⟩ => hd (by subst h1 h2; simp)
  have hgp : 0 < g := by
    rcases Nat.eq_zero_or_pos g with e | e
    · subst e; exact absurd (by simp) hd
    · exact e
  have hcop : Nat.gcd sx.natAbs sz.natAbs = 1 := by
    have e1 : (ax + g * sx - ax).natAbs = g * sx.natAbs := by rw [show ax + g * sx - ax = g * sx by omega, Int.natAbs_mul, Int.natAbs_natCast]
    have e2 : (az + g * sz - az).natAbs = g * sz.natAbs := by rw [show az + g * sz - az = g * sz by omega, Int.natAbs_mul, Int.natAbs_natCast]
    rw [e1, e2, Nat.gcd_mul_left] at hg
    have : g * 1 = g * Nat.gcd sx.natAbs sz.natAbs := by omega
    exact (Nat.eq_of_mul_eq_mul_left hgp this).symm
  obtain ⟨b1, b2, b3⟩ := h
  dsimp only at b1 b2
  obtain ⟨u, hu⟩ : ∃ u, u = r1 - ax := ⟨_, rfl⟩
  obtain ⟨v, hv⟩ : ∃ v, v = r2 - az := ⟨_, rfl⟩
  have hc : sx * v = u * sz := by
    unfold D3 at b3
    dsimp only at b3
    have : (g : Int) * (sx * v - u * sz) = 0 := by subst hu hv; grind
    rcases Int.mul_eq_zero.1 this with h | h
    · omega
    · omega
  obtain ⟨k, hk1, hk2⟩ : ∃ k : Int, u = k * sx ∧ v = k * sz := by
    by_cases h0 : sx = 0
    · subst h0
      have h1 : sz.natAbs = 1 := by simpa using hcop
      have h2 : u * sz = 0 := by rw [← hc]; simp
      have h4 : u = 0 := by rcases Int.mul_eq_zero.1 h2 with h | h; exact h; omega
      rcases Int.natAbs_eq sz with q | q <;> rw [h1] at q
      · exact ⟨v, by simp [h4], by rw [q]; simp⟩
      · exact ⟨-v, by simp [h4], by rw [q]; simp⟩
    · have hdv : sx.natAbs ∣ u.natAbs := by
        have : sx.natAbs ∣ sz.natAbs * u.natAbs := by
          rw [← Int.natAbs_mul, Int.mul_comm sz u, ← hc, Int.natAbs_mul]
          exact Nat.dvd_mul_right _ _
        exact Nat.Coprime.dvd_of_dvd_mul_left hcop this
      obtain ⟨k, hk⟩ := Int.natAbs_dvd_natAbs.1 hdv
      refine ⟨k, by rw [hk, Int.mul_comm], ?_⟩
      rw [hk, Int.mul_assoc] at hc
      exact Int.eq_of_mul_eq_mul_left h0 hc
  have f1 : r1 = ax + k * sx := by omega
  have f2 : r2 = az + k * sz := by omega
  have hr : 0 ≤ k ∧ k ≤ g := by
    by_cases h0 : sx = 0
    · exact range_of (fun h => hs ⟨h0, h⟩) (f2 ▸ b2)
    · exact range_of h0 (f1 ▸ b1)
  obtain ⟨m, rfl⟩ : ∃ m : Nat, k = (m : Int) := ⟨k.toNat, by omega⟩
  refine ⟨m, ?_, by rw [f1, f2]⟩
  have : m ≠ g := fun e => hne (by rw [f1, f2, e])
  omega
theorem bp_mem {l : List Pt} (ht : Tr l) (h3 : 3 ≤ l.length) (r : Pt) : r ∈ bp l ↔ IsP l r.1 r.2 := by
  unfold bp bpE
  rw [List.mem_flatMap]
  constructor
  · rintro ⟨⟨i, hi⟩, _, hm⟩
    unfold eps at hm
    obtain ⟨k, hk, rfl⟩ := List.mem_map.1 hm
    have h := ept_hit ht h3 hi (List.mem_range.1 hk)
    exact ⟨i, hi, (hit_iff hi).2 ⟨h.2, h.1⟩⟩
  · rintro ⟨i, hi, h⟩
    have h := (hit_iff hi).1 h
    obtain ⟨k, hk, e⟩ := hit_ept ht h3 hi h.2 h.1
    refine ⟨⟨i, hi⟩, List.mem_finRange _, ?_⟩
    unfold eps
    exact List.mem_map.2 ⟨k, List.mem_range.2 hk, e.symm⟩
theorem hit_once {l : List Pt} (ht : Tr l) (h3 : 3 ≤ l.length) {i j : Nat} (hij : i < j) (hj : j < l.length) {p : Pt} (h1 : OnE (pc l i) (pc l (i + 1)) p) (h2 : p ≠ pc l (i + 1)) (h4 : OnE (pc l j) (pc l (j + 1)) p) (h5 : p ≠ pc l (j + 1)) : False := by
  obtain ⟨A, B, m1⟩ := h1.mx
  obtain ⟨C, E, m2⟩ := h4.mx
  have hA := m1.na h2
  have hC := m2.na h5
  have e1 := m1.d3 (pc l j) (pc l (j + 1))
  rw [D3_rot, h4.2.2, Int.mul_zero] at e1
  have t1 := ht.cyc0 (a := i) (b := j) (c := j + 1) (by omega) (by omega) (by omega)
  have t2 := ht.cyc0 (a := i + 1) (b := j) (c := j + 1) (by omega) (by omega) (by omega)
  have u2 := Int.mul_nonneg m1.hb t2
  rcases Nat.lt_or_ge (j + 1) (i + l.length) with q | q
  · have := Int.mul_pos hA (ht.cyc i j (j + 1) hij (by omega) q)
    omega
  · have e2 := m2.d3 (pc l i) (pc l (i + 1))
    rw [D3_rot, h1.2.2, Int.mul_zero] at e2
    have s1 := ht.cyc i (i + 1) j (by omega) (by omega) (by omega)
    rw [D3_rot, D3_rot] at s1
    have s2 := ht.cyc0 (a := i) (b := i + 1) (c := j + 1) (by omega) (by omega) (by omega)
    rw [D3_rot, D3_rot] at s2
    have := Int.mul_pos hC s1
    have := Int.mul_nonneg m2.hb s2
    omega
theorem bp_nodup {l : List Pt} (ht : Tr l) (h3 : 3 ≤ l.length) : (bp l).Nodup := by
  unfold bp bpE List.Nodup
  rw [List.pairwise_flatMap]
  refine ⟨fun i _ => ?_, ?_⟩
  · unfold eps
    rw [List.pairwise_map]
    refine List.Pairwise.imp_of_mem (R := fun a b => a < b) (fun {a b} _ _ hlt e => ?_) List.pairwise_lt_range
    have hne := edge_ne ht h3 i.2
    have hx := sxE_mul l i.1
    have hz := szE_mul l i.1
    unfold ept at e
    have f1 := congrArg Prod.fst e; have f2 := congrArg Prod.snd e
    dsimp only at f1 f2
    have g1 : ((b : Int) - a) * sxE l i.1 = 0 := by rw [Int.sub_mul]; omega
    have g2 : ((b : Int) - a) * szE l i.1 = 0 := by rw [Int.sub_mul]; omega
    have h1 : sxE l i.1 = 0 := by rcases Int.mul_eq_zero.1 g1 with h | h; omega; exact h
    have h2 : szE l i.1 = 0 := by rcases Int.mul_eq_zero.1 g2 with h | h; omega; exact h
    rw [h1, Int.mul_zero] at hx
    rw [h2, Int.mul_zero] at hz
    exact hne ⟨by omega, by omega⟩
  · have hp : (List.finRange l.length).Pairwise (fun a b => a.1 < b.1) := by
      refine List.pairwise_iff_getElem.2 fun a b ha hb hab => ?_
      simpa using hab
    refine hp.imp fun {a b} hab x hx y hy e => ?_
    unfold eps at hx hy
    obtain ⟨k1, hk1, rfl⟩ := List.mem_map.1 hx
    obtain ⟨k2, hk2, e2⟩ := List.mem_map.1 hy
    have r1 := ept_hit ht h3 a.2 (List.mem_range.1 hk1)
    have r2 := ept_hit ht h3 b.2 (List.mem_range.1 hk2)
    rw [e2, ← e] at r2
    exact hit_once ht h3 hab b.2 r1.1 r1.2 r2.1 r2.2
/-! the order behind a point -/
theorem ost_no {p : Pt} : ∀ (L : List Pt) (a c : List Pt), p ∉ L → (L.foldl (ostep p) (a, false, c)) = (a ++ L, false, c)
  | [], a, c, _ => by simp
  | q :: L, a, c, h => by
    have hq : q ≠ p := fun e => h (e ▸ List.mem_cons_self)
    have hL : p ∉ L := fun e => h (List.mem_cons_of_mem _ e)
    rw [List.foldl_cons]
    have : ostep p (a, false, c) q = (a ++ [q], false, c) := by unfold ostep; rw [if_neg hq, if_pos rfl]
    rw [this, ost_no L _ _ hL]
    simp
theorem ost_yes {p : Pt} : ∀ (L : List Pt) (a c : List Pt), p ∉ L → (L.foldl (ostep p) (a, true, c)) = (a, true, c ++ L)
  | [], a, c, _ => by simp
  | q :: L, a, c, h => by
    have hq : q ≠ p := fun e => h (e ▸ List.mem_cons_self)
    have hL : p ∉ L := fun e => h (List.mem_cons_of_mem _ e)
    rw [List.foldl_cons]
    have : ostep p (a, true, c) q = (a, true, c ++ [q]) := by unfold ostep; rw [if_neg hq, if_neg (by simp)]
    rw [this, ost_yes L _ _ hL]
    simp
theorem oth_split {l : List Pt} {p : Pt} (ht : Tr l) (h3 : 3 ≤ l.length) (hp : IsP l p.1 p.2) : ∃ X Y, bp l = X ++ p :: Y ∧ p ∉ X ∧ p ∉ Y ∧ oth l p = Y ++ X := by
  obtain ⟨X, Y, e⟩ := List.append_of_mem ((bp_mem ht h3 p).2 hp)
  have hn := bp_nodup ht h3
  rw [e] at hn
  have h1 := List.nodup_append.1 hn
  have hX : p ∉ X := fun h => h1.2.2 _ h _ List.mem_cons_self rfl
  have hY : p ∉ Y := (List.nodup_cons.1 h1.2.1).1
  refine ⟨X, Y, e, hX, hY, ?_⟩
  unfold oth ost
  rw [e, List.foldl_append, ost_no X _ _ hX, List.foldl_cons]
  have : ostep p ([] ++ X, false, []) p = (X, true, []) := by unfold ostep; rw [if_pos rfl]; simp
  rw [this, ost_yes Y _ _ hY]
  simp
/-- the last index at which a point stands, among the first k -/
def ixL (L : List Pt) (p : Pt) : Nat → Nat
  | 0 => 0
  | k + 1 => if L.getD k (0, 0) = p then k else ixL L p k
theorem ixL_lt (L : List Pt) (p : Pt) (h : 0 < L.length) : ∀ k, k ≤ L.length → ixL L p k < L.length
  | 0, _ => h
  | k + 1, hk => by
    unfold ixL
    split
    · omega
    · exact ixL_lt L p h k (by omega)
theorem ixL_split {X Y : List Pt} {p : Pt} (hY : p ∉ Y) : ∀ k, X.length + 1 + k ≤ (X ++ p :: Y).length → ixL (X ++ p :: Y) p (X.length + 1 + k) = X.length
  | 0, _ => by
    show (if _ then _ else _) = _
    rw [if_pos (by simp)]
  | k + 1, hk => by
    show (if (X ++ p :: Y).getD (X.length + 1 + k) (0, 0) = p then _ else ixL _ _ _) = _
    rw [if_neg]
    · exact ixL_split hY k (by omega)
    intro e
    rw [List.length_append, List.length_cons] at hk
    have h1 : k < Y.length := by omega
    have : (X ++ p :: Y).getD (X.length + 1 + k) (0, 0) = Y[k] := by
      rw [List.getD_eq_getElem?_getD, List.getElem?_append_right (by omega), show X.length + 1 + k - X.length = k + 1 by omega, List.getElem?_cons_succ, List.getElem?_eq_getElem h1]
      rfl
    rw [this] at e
    exact hY (e ▸ List.getElem_mem h1)
/-- the points behind an index, around, of those that are wanted, the first k -/
def ouR (L : List Pt) (a : Nat) (f : Pt → Bool) : Nat → List Pt
  | 0 => []
  | k + 1 => ouR L a f k ++ (if f (L.getD ((a + (k + 1)) % L.length) (0, 0)) then [L.getD ((a + (k + 1)) % L.length) (0, 0)] else [])
theorem ouR_filter (L : List Pt) (a : Nat) (f : Pt → Bool) : ∀ k, ouR L a f k = ((List.range k).map fun i => L.getD ((a + (i + 1)) % L.length) (0, 0)).filter f
  | 0 => rfl
  | k + 1 => by
    unfold ouR
    rw [ouR_filter L a f k, List.range_succ, List.map_append, List.filter_append]
    congr 1
    cases h : f (L.getD ((a + (k + 1)) % L.length) (0, 0)) with
    | true => rw [List.map_singleton, List.filter_cons_of_pos h]; rfl
    | false => rw [List.map_singleton, List.filter_cons_of_neg (by rw [h]; exact Bool.false_ne_true)]; rfl
theorem rot_split (X Y : List Pt) (p : Pt) : ((List.range (X.length + Y.length)).map fun i => (X ++ p :: Y).getD ((X.length + (i + 1)) % (X ++ p :: Y).length) (0, 0)) = Y ++ X := by
  refine List.ext_getElem (by simp; omega) fun i h1 h2 => ?_
  rw [List.length_map, List.length_range] at h1
  rw [List.getElem_map, List.getElem_range]
  have hl : (X ++ p :: Y).length = X.length + Y.length + 1 := by simp; omega
  rw [hl]
  rcases Nat.lt_or_ge i Y.length with q | q
  · rw [Nat.mod_eq_of_lt (by omega), List.getElem_append_left q, List.getD_eq_getElem?_getD, List.getElem?_append_right (by omega), show X.length + (i + 1) - X.length = i + 1 by omega, List.getElem?_cons_succ, List.getElem?_eq_getElem q]
    rfl
  · rw [List.getElem_append_right q]
    have e : (X.length + (i + 1)) % (X.length + Y.length + 1) = i - Y.length := by
      rw [show X.length + (i + 1) = (i - Y.length) + (X.length + Y.length + 1) by omega, Nat.add_mod_right, Nat.mod_eq_of_lt (by omega)]
    rw [e, List.getD_eq_getElem?_getD, List.getElem?_append_left (by omega), List.getElem?_eq_getElem (by omega)]
    rfl
/-- the reference's list is the program's -/
theorem ouR_oth {l : List Pt} {p : Pt} (ht : Tr l) (h3 : 3 ≤ l.length) (hp : IsP l p.1 p.2) (f : Pt → Bool) : ouR (bp l) (ixL (bp l) p (bp l).length) f ((bp l).length - 1) = (oth l p).filter f := by
  obtain ⟨X, Y, e, hX, hY, ho⟩ := oth_split ht h3 hp
  have hl : (X ++ p :: Y).length = X.length + 1 + Y.length := by simp; omega
  have hi := ixL_split (X := X) hY Y.length (by omega)
  rw [← hl] at hi
  rw [ouR_filter, ho, e, hi]
  have := rot_split X Y p
  rw [show (X ++ p :: Y).length - 1 = X.length + Y.length by omega, this]
end Go.Proofs.Ytljmhejljpfaiaa
namespace Go.Proofs.Ytljmhejljpfaiaa
set_option maxRecDepth 100000
open Go.RowKit Go.Shelf

/-! the reference's Outcomes -/
theorem OwnR.at' {w : World} {base : Nat} {v : Value} {l : List Pt} (h : OwnR w base v l) (h3 : 0 < l.length) : ∃ g c, v = .slice (Option.some ⟨g, 0, Option.none⟩) l.length c ∧ Row w g 0 l ∧ base ≤ g := by
  rcases h.row with ⟨_, h0⟩ | ⟨g, c, h1, hr, hb, _⟩
  · subst h0; simp at h3
  · exact ⟨g, c, h1, hr, hb⟩
theorem ouR_len (L : List Pt) (a : Nat) (f : Pt → Bool) : ∀ k, (ouR L a f k).length ≤ k
  | 0 => Nat.le_refl _
  | k + 1 => by
    have := ouR_len L a f k
    unfold ouR
    rw [List.length_append]
    split
    · simp; omega
    · simp; omega
theorem bp_len2 {l : List Pt} (ht : Tr l) (h3 : 3 ≤ l.length) (h12 : l.length ≤ 12) (hx : Bx l) : (bp l).length ≤ 24000 := by
  have h1 := rbp_len hx l.length (Nat.le_refl _)
  rw [rbp_bp (fun i hi => edge_ne ht h3 hi)] at h1
  have : l.length * 2000 ≤ 12 * 2000 := Nat.mul_le_mul_right _ h12
  omega
theorem bp_bx {l : List Pt} (ht : Tr l) (h3 : 3 ≤ l.length) (hx : Bx l) : Bx (bp l) := fun i hi => by
  have h := (bp_mem ht h3 _).1 (mem_p hi)
  exact h.bd hx
theorem okq_eq (l : List Pt) (gx gz x z t fx fz u v off al : Int) (bc : Bool) (hc : bc = true ↔ CanC l x z fx fz) (hu : fx - x = u) (hv : fz - z = v) (ho : u * gz - v * gx = off) (ha : u * gx + v * gz = al) :
    okq l gx gz (x, z) t (fx, fz) = (bc && decide (100 * (off.natAbs : Int) ≤ t * (al.natAbs : Int))) := by
  have e : canB l (x, z) (fx, fz) = bc := by
    rw [Bool.eq_iff_iff, canB_iff]
    exact hc.symm
  unfold okq agr
  rw [e]
  dsimp only
  rw [hu, hv, ho, ha, Bool.and_comm]
set_option maxHeartbeats 16000000 in
theorem routcomes_any (nm : ByteArray) (b o c : Nat) (l : List Pt) (dp dn gx gz x z t : Int) (w : World) (hr : Row w b o l) (h3 : 3 ≤ l.length) (h12 : l.length ≤ 12) (hx : Bx l) (ht : Tr l) (hp : IsP l x z)
    (hg : (-100 ≤ gx ∧ gx ≤ 100) ∧ (-100 ≤ gz ∧ gz ≤ 100)) (htt : 0 ≤ t ∧ t ≤ 100) :
    Calls Try.prog 40 #[.agg (c6 nm (.slice (some ⟨b, o, none⟩) l.length c) dp dn gx gz), .agg #[.int .i64 x, .int .i64 z], .int .i64 t] w fun e w' =>
      (∃ v, e = .returned v ∧ OwnR w' w.heap.size v (outc l gx gz (x, z) t)) ∧ Below w.heap.size w w' := by
  obtain ⟨i0, hi, hz0, hz1, hz2⟩ := info_parts Try.info24
  have HBO := Lib.hid (fun W (k : Below w.heap.size w W) => rborder_any b o c l W (hr.keep k) (by omega) h12 hx (fun i hi => edge_ne ht h3 hi))
  have hpb := hp.bd hx
  have HAP := Lib.hid (fun W (k : Below w.heap.size w W) fx fz (hf : (0 ≤ fx ∧ fx ≤ 2000) ∧ (0 ≤ fz ∧ fz ≤ 2000)) => apart_any b o c l x z fx fz W (hr.keep k) (by omega) (by omega) hx (by unfold Sm; omega) (by unfold Sm; omega))
  have HOK := Lib.hid (okq_eq l gx gz x z t)
  have HOU := Lib.hid (ouR_oth ht h3 (p := (x, z)) hp (okq l gx gz (x, z) t))
  have HOC : Hid (outc l gx gz (x, z) t = (oth l (x, z)).filter (okq l gx gz (x, z) t)) := rfl
  have hlen := bp_len2 ht h3 h12 hx
  have hpos : 0 < (bp l).length := List.length_pos_of_mem ((bp_mem ht h3 (x, z)).2 hp)
  have HBX := Lib.hid (bp_bx ht h3 hx)
  have HIX0 : Hid (ixL (bp l) (x, z) 0 = 0) := rfl
  have HIX : Hid (∀ k, ixL (bp l) (x, z) (k + 1) = if (bp l).getD k (0, 0) = (x, z) then k else ixL (bp l) (x, z) k) := fun _ => rfl
  have HIXL := Lib.hid (ixL_lt (bp l) (x, z) hpos)
  have HR0 : Hid (∀ a, ouR (bp l) a (okq l gx gz (x, z) t) 0 = []) := fun _ => rfl
  have HRS : Hid (∀ a k, ouR (bp l) a (okq l gx gz (x, z) t) (k + 1) = ouR (bp l) a (okq l gx gz (x, z) t) k ++ (if okq l gx gz (x, z) t ((bp l).getD ((a + (k + 1)) % (bp l).length) (0, 0)) then [(bp l).getD ((a + (k + 1)) % (bp l).length) (0, 0)] else [])) := fun _ _ => rfl
  have HRL := Lib.hid (fun a => ouR_len (bp l) a (okq l gx gz (x, z) t))
  have HPG : Hid (∀ i, (bp l).getD i (0, 0) = (px (bp l) i, pz (bp l) i)) := fun _ => rfl
  have hbw := hr.lt (by omega)
  clear hr hx ht hp h3
  generalize okq l gx gz (x, z) t = OKF at *
  generalize ouR (bp l) = OU at *
  generalize ixL (bp l) (x, z) = IX at *
  generalize outc l gx gz (x, z) t = OC at *
  generalize bp l = L at *
  obtain ⟨m, hm⟩ : ∃ m, m = L.length := ⟨_, rfl⟩
  rw [← hm] at hlen hpos HOU HIXL HRS
  have HM := Lib.hid hm
  clear hm
  have k0 := bl2 w (.cells (c6 nm (.slice (some ⟨b, o, none⟩) l.length c) dp dn gx gz) 26) (.cells #[.int .i64 x, .int .i64 z] 24)
  have b0 : Blk w.heap.size (c6 nm (.slice (some ⟨b, o, none⟩) l.length c) dp dn gx gz) 26 ((w.alloc (.cells (c6 nm (.slice (some ⟨b, o, none⟩) l.length c) dp dn gx gz) 26)).alloc (.cells #[.int .i64 x, .int .i64 z] 24)) ∧ B2 (w.heap.size + 1) x z ((w.alloc (.cells (c6 nm (.slice (some ⟨b, o, none⟩) l.length c) dp dn gx gz) 26)).alloc (.cells #[.int .i64 x, .int .i64 z] 24)) :=
    ⟨(Blk.new w _ 26).alloc _, ⟨by simp [go_sem], by simp [go_sem], by simp [go_sem], by simp [go_sem]⟩⟩
  have hsz : ((w.alloc (.cells (c6 nm (.slice (some ⟨b, o, none⟩) l.length c) dp dn gx gz) 26)).alloc (.cells #[.int .i64 x, .int .i64 z] 24)).heap.size = w.heap.size + 2 := by simp
  have s1 := b0.1.cell (i := 1) rfl
  go_enter Try.func40, Try.ntmps40
  go_wp2_with fail
  refine (HBO.out _ k0).mono ?_
  rintro e w1 ⟨⟨v, rfl, ho⟩, hb1⟩
  obtain ⟨g7, c7, rfl, hr7, hg7⟩ := ho.at' (by rw [← HM.out]; exact hpos)
  rw [← HM.out]
  have hlt7 := hr7.lt (by rw [← HM.out]; exact hpos)
  have HB1 : Hid (∀ W, Below w1.heap.size w1 W → Blk w.heap.size (c6 nm (.slice (some ⟨b, o, none⟩) l.length c) dp dn gx gz) 26 W ∧ B2 (w.heap.size + 1) x z W ∧ Row W g7 0 L ∧ Below w.heap.size w W) := fun W k => ⟨(b0.1.below hb1).below k, (b0.2.keep hb1).keep k, hr7.keep k, Below.thru k0 k0.size (Below.thru hb1 hb1.size k)⟩
  have hw1 : w.heap.size + 2 ≤ w1.heap.size := by have := hb1.size; omega
  clear b0 k0 hsz s1 ho hb1 hr7 hg7 HBO
  go_wp2
  go_loopw [9, 8] (fun i f wr => ∃ k : Nat, k ≤ m ∧ i = .int .i64 k ∧ f = .int .i64 (IX k : Nat) ∧ Below w1.heap.size w1 wr) (fun i _ _ => m - (intOf i).toNat)
  case atStart => exact ⟨0, Nat.zero_le _, rfl, by rw [HIX0.out]; rfl, Below.refl _ _⟩
  case round =>
    obtain ⟨k, hk, rfl, rfl, hB⟩ := hrel
    by_cases hkn : k < m
    · have HIK := Lib.hid (HIX.out k)
      rw [HPG.out] at HIK
      have q9 := HB1.out _ hB
      obtain ⟨ckx, ckz⟩ := q9.2.2.1 k (by rw [← HM.out]; exact hkn)
      simp only [Nat.zero_add] at ckx ckz
      have kkx := cell_regrown ckx
      have kkz := cell_regrown ckz
      have kx := cell_regrown q9.2.1.1
      have kz := cell_regrown q9.2.1.2.1
      clear ckx ckz q9
      generalize px L k = fx at *
      generalize pz L k = fz at *
      have hcase : ¬ fx = x ∨ (fx = x ∧ ¬ fz = z) ∨ (fx = x ∧ fz = z) := by
        by_cases e1 : fx = x
        · by_cases e2 : fz = z
          · exact .inr (.inr ⟨e1, e2⟩)
          · exact .inr (.inl ⟨e1, e2⟩)
        · exact .inl e1
      have HNE : Hid ((¬ fx = x ∨ (fx = x ∧ ¬ fz = z)) → IX (k + 1) = IX k) := fun h => by
        rw [HIK.out, if_neg]
        intro e
        have e1 := congrArg Prod.fst e; have e2 := congrArg Prod.snd e
        dsimp only at e1 e2
        rcases h with h | ⟨_, h⟩
        · exact h e1
        · exact h e2
      rcases hcase with h | ⟨rfl, h⟩ | ⟨rfl, rfl⟩
      · have HL2 := Lib.hid (HNE.out (.inl h))
        go_wp2_with fail
        refine wp_region_quiet_below (by kernel_rfl) (by kernel_rfl) ?_
        repeat (any_goals (first | go_big_quiet_step (fail) | quiet_step (fail)))
        refine wpQuiet_nil ?_
        intro _ hw'
        obtain ⟨⟨dq1, osq1⟩, hw''⟩ := hw'
        subst hw''
        have hBq := Below.thru hB hB.size (below_regrown wr dq1 osq1)
        clear kkx kkz kx kz
        generalize Sort.grow (redrawn wr dq1) osq1 = w2 at *
        go_wp2
        go_roundw
        case rel => exact ⟨k + 1, by omega, by go_num, by rw [HL2.out], hBq⟩
        case measure => simp [intOf]; omega
      · have HL2 := Lib.hid (HNE.out (.inr ⟨rfl, h⟩))
        go_wp2_with fail
        refine wp_region_quiet_below (by kernel_rfl) (by kernel_rfl) ?_
        repeat (any_goals (first | go_big_quiet_step (fail) | quiet_step (fail)))
        refine wpQuiet_nil ?_
        intro _ hw'
        obtain ⟨⟨dq1, osq1⟩, hw''⟩ := hw'
        subst hw''
        have hBq := Below.thru hB hB.size (below_regrown wr dq1 osq1)
        clear kkx kkz kx kz
        generalize Sort.grow (redrawn wr dq1) osq1 = w2 at *
        go_wp2
        go_roundw
        case rel => exact ⟨k + 1, by omega, by go_num, by rw [HL2.out], hBq⟩
        case measure => simp [intOf]; omega
      · have HL2 : Hid (IX (k + 1) = k) := by show _ = _; rw [HIK.out, if_pos rfl]
        clear HNE
        go_wp2_with fail
        refine wp_region_quiet_below (by kernel_rfl) (by kernel_rfl) ?_
        repeat (any_goals (first | go_big_quiet_step (fail) | quiet_step (fail)))
        refine wpQuiet_nil ?_
        intro _ hw'
        obtain ⟨⟨dq1, osq1⟩, hw''⟩ := hw'
        subst hw''
        have hBq := Below.thru hB hB.size (below_regrown wr dq1 osq1)
        clear kkx kkz kx kz
        generalize Sort.grow (redrawn wr dq1) osq1 = w2 at *
        go_wp2
        go_roundw
        case rel => exact ⟨k + 1, by omega, by go_num, by rw [HL2.out], hBq⟩
        case measure => simp [intOf]; omega
    · obtain rfl : k = m := by omega
      have hfn := HIXL.out k (Nat.le_refl _)
      have HB2 := Lib.hid hB
      obtain ⟨f, hf⟩ : ∃ f, f = IX k := ⟨_, rfl⟩
      rw [← hf] at hfn HOU ⊢
      clear hf HIX HIX0 HIXL
      go_wp2
      obtain ⟨wo, hwo⟩ : ∃ wo : World, wo = wr := ⟨_, rfl⟩
      rw [← hwo] at HB2 ⊢
      clear hB hwo
      go_loopw [11, 12, 13, 14, 15, 16, 10] (fun i _ _ _ _ _ v wr => ∃ j : Nat, j + 1 ≤ k ∧ i = .int .i64 ((j : Int) + 1) ∧ Hid (OwnR wr w1.heap.size v (OU f OKF j)) ∧ Hid (Below w1.heap.size w1 wr)) (fun i _ _ _ _ _ _ _ => k - (intOf i).toNat)
      case atStart => exact ⟨0, by omega, rfl, by rw [HR0.out]; exact World.ownsRow_nil _ _ _ _, HB2.out⟩
      case round =>
        obtain ⟨j, hj, rfl, HO, HB⟩ := hrel
        by_cases hjk : j + 1 < k
        · have hm : (f + (j + 1)) % k < k := Nat.mod_lt _ hpos
          have hr' : ((f : Int) + ((j : Int) + 1)) % (k : Int) = (((f + (j + 1)) % k : Nat) : Int) := by rw [Int.natCast_emod]; congr 1
          have h0 : ¬ (k : Int) = 0 := by omega
          have hk9 : ¬ k = 0 := by omega
          have HL1 := Lib.hid (HRS.out f j)
          have q9 := HB1.out _ HB.out
          obtain ⟨jj, hjj⟩ : ∃ jj, jj = (f + (j + 1)) % k := ⟨_, rfl⟩
          rw [← hjj, HPG.out] at HL1
          rw [← hjj] at hm hr'
          clear hjj
          obtain ⟨ckx, ckz⟩ := q9.2.2.1 jj (by rw [← HM.out]; exact hm)
          simp only [Nat.zero_add] at ckx ckz
          have hbf := HBX.out jj (by rw [← HM.out]; exact hm)
          generalize px L jj = fx at *
          generalize pz L jj = fz at *
          have hlen9 := HRL.out f j
          have HW := Lib.hid HO.out
          have hwr := HB.out.size
          have S5 : Hid (Blk w.heap.size (c6 nm (.slice (some ⟨b, o, none⟩) l.length c) dp dn gx gz) 26 (wr.alloc (.cells #[.int .i64 fx, .int .i64 fz] 24)) ∧ B2 (w.heap.size + 1) x z (wr.alloc (.cells #[.int .i64 fx, .int .i64 fz] 24)) ∧ B2 wr.heap.size fx fz (wr.alloc (.cells #[.int .i64 fx, .int .i64 fz] 24)) ∧ Below wr.heap.size wr (wr.alloc (.cells #[.int .i64 fx, .int .i64 fz] 24))) :=
            ⟨q9.1.below (bl1 _ _), q9.2.1.keep (bl1 _ _), ⟨by simp [go_sem], by simp [go_sem], by simp [go_sem], by simp [go_sem]⟩, bl1 _ _⟩
          clear q9
          obtain ⟨u, hu⟩ : ∃ u, u = fx - x := ⟨_, rfl⟩
          obtain ⟨v, hv⟩ : ∃ v, v = fz - z := ⟨_, rfl⟩
          have hbu : -2000 ≤ u ∧ u ≤ 2000 := by omega
          have hbv : -2000 ≤ v ∧ v ≤ 2000 := by omega
          have e1 : fx - x = u := hu.symm
          have e2 : fz - z = v := hv.symm
          have v1 := IntWalk.i64_in (fx - x) (by omega)
          have v2 := IntWalk.i64_in (fz - z) (by omega)
          clear hu hv
          go_wp2_with fail
          generalize wr.alloc (.cells #[.int .i64 fx, .int .i64 fz] 24) = w5 at *
          clear ckx ckz
          have r1 := cell_regrown S5.out.2.1.1
          have r2 := cell_regrown S5.out.2.1.2.1
          have r3 := cell_regrown S5.out.2.2.1.1
          have r4 := cell_regrown S5.out.2.2.1.2.1
          refine wp_region_quiet_below (by kernel_rfl) (by kernel_rfl) ?_
          repeat (any_goals (first | go_big_quiet_step (fail) | quiet_step (fail)))
          refine wpQuiet_nil ?_
          intro _ hw'
          obtain ⟨⟨dq1, osq1⟩, hw''⟩ := hw'
          subst hw''
          have S6 : Hid (Blk w.heap.size (c6 nm (.slice (some ⟨b, o, none⟩) l.length c) dp dn gx gz) 26 (Sort.grow (redrawn w5 dq1) osq1) ∧ B2 (w.heap.size + 1) x z (Sort.grow (redrawn w5 dq1) osq1) ∧ B2 wr.heap.size fx fz (Sort.grow (redrawn w5 dq1) osq1) ∧ Below wr.heap.size wr (Sort.grow (redrawn w5 dq1) osq1)) := ⟨S5.out.1.below (below_regrown w5 dq1 osq1), S5.out.2.1.keep (below_regrown w5 dq1 osq1), S5.out.2.2.1.keep (below_regrown w5 dq1 osq1), Below.thru S5.out.2.2.2 S5.out.2.2.2.size (below_regrown w5 dq1 osq1)⟩
          clear r1 r2 r3 r4 S5
          generalize Sort.grow (redrawn w5 dq1) osq1 = w6 at *
          have hm1 := mul_sm (a := u) (b := gz) (A := 2000) (B := 100) hbu hg.2 (by omega)
          have hm2 := mul_sm (a := v) (b := gx) (A := 2000) (B := 100) hbv hg.1 (by omega)
          have hm3 := mul_sm (a := u) (b := gx) (A := 2000) (B := 100) hbu hg.1 (by omega)
          have hm4 := mul_sm (a := v) (b := gz) (A := 2000) (B := 100) hbv hg.2 (by omega)
          have y1 := IntWalk.i64_in (u * gz) (by omega)
          have y2 := IntWalk.i64_in (v * gx) (by omega)
          have y3 := IntWalk.i64_in (u * gx) (by omega)
          have y4 := IntWalk.i64_in (v * gz) (by omega)
          have HQ := Lib.hid (fun off al bc hc => HOK.out fx fz u v off al bc hc e1 e2)
          generalize hp1 : u * gz = m1 at *
          generalize hp2 : v * gx = m2 at *
          generalize hp3 : u * gx = m3 at *
          generalize hp4 : v * gz = m4 at *
          have y5 := IntWalk.i64_in (m1 - m2) (by omega)
          have y6 := IntWalk.i64_in (m3 + m4) (by omega)
          generalize hp5 : m1 - m2 = off at *
          generalize hp6 : m3 + m4 = al at *
          have hbo : -400000 ≤ off ∧ off ≤ 400000 := by omega
          have hba : -400000 ≤ al ∧ al ≤ 400000 := by omega
          have r4 := cell_regrown (S6.out.1.cell (i := 4) rfl)
          have r5 := cell_regrown (S6.out.1.cell (i := 5) rfl)
          have HQ2 := Lib.hid (fun bc hc => HQ.out off al bc hc rfl rfl)
          clear HQ hm1 hm2 hm3 hm4
          go_wp2_with fail
          refine wp_region_quiet_below (by kernel_rfl) (by kernel_rfl) ?_
          repeat (any_goals (first | go_big_quiet_step (fail) | quiet_step (fail)))
          refine wpQuiet_nil ?_
          intro _ hw'
          obtain ⟨⟨dq2, osq2⟩, hw''⟩ := hw'
          subst hw''
          have S7 : Hid (Blk w.heap.size (c6 nm (.slice (some ⟨b, o, none⟩) l.length c) dp dn gx gz) 26 (Sort.grow (redrawn w6 dq2) osq2) ∧ B2 (w.heap.size + 1) x z (Sort.grow (redrawn w6 dq2) osq2) ∧ B2 wr.heap.size fx fz (Sort.grow (redrawn w6 dq2) osq2) ∧ Below wr.heap.size wr (Sort.grow (redrawn w6 dq2) osq2)) := ⟨S6.out.1.below (below_regrown w6 dq2 osq2), S6.out.2.1.keep (below_regrown w6 dq2 osq2), S6.out.2.2.1.keep (below_regrown w6 dq2 osq2), Below.thru S6.out.2.2.2 S6.out.2.2.2.size (below_regrown w6 dq2 osq2)⟩
          clear r4 r5 S6 y1 y2 y3 y4 y5 y6 hp1 hp2 hp3 hp4 hp5 hp6 e1 e2 v1 v2
          generalize Sort.grow (redrawn w6 dq2) osq2 = w7 at *
          have KW7 := Lib.hid (Below.thru (HB1.out _ HB.out).2.2.2 (HB1.out _ HB.out).2.2.2.size S7.out.2.2.2)
          go_upto_region 15 with fail
          go_cut [98] (fun cc wx => cc = .bool (OKF (fx, fz)) ∧ Hid (Below w7.heap.size w7 wx))
          case first =>
            rename_i J K' hJ hK
            have s1 := S7.out.1.cell (i := 1) rfl
            obtain ⟨p0, p1, _, _⟩ := S7.out.2.1
            obtain ⟨r0, r1, _, _⟩ := S7.out.2.2.1
            go_wp2_with fail
            refine (HAP.out w7 KW7.out fx fz hbf).mono ?_
            rintro e w8 ⟨⟨bc, rfl, hbc⟩, hb8⟩
            have K8 := Lib.hid hb8
            have HBC := Lib.hid (HQ2.out bc hbc)
            clear hbc hb8 s1 p0 p1 r0 r1
            cases bc with
            | false =>
              have HBF : Hid (OKF (fx, fz) = false) := by show _ = _; rw [HBC.out]; rfl
              go_wp2
              all_goals
                refine Met.intro (hJ _ _ ?_)
                (repeat apply Exists.intro)
                refine ⟨⟨by rw [HBF.out], K8.out⟩, rfl⟩
            | true =>
              have HBT : Hid (OKF (fx, fz) = decide (100 * (off.natAbs : Int) ≤ t * (al.natAbs : Int))) := by show _ = _; rw [HBC.out, Bool.true_and]
              have n1 := IntWalk.i64_in (-off) (by omega)
              have n2 := IntWalk.i64_in (-al) (by omega)
              have ht1 := mul_sm (a := t) (b := al) (A := 100) (B := 400000) (by omega) hba (by omega)
              have ht2 := mul_sm (a := t) (b := -al) (A := 100) (B := 400000) (by omega) (by omega) (by omega)
              have n3 := IntWalk.i64_in (100 * off) (by omega)
              have n4 := IntWalk.i64_in (100 * -off) (by omega)
              have n5 := IntWalk.i64_in (t * al) (by omega)
              have n6 := IntWalk.i64_in (t * -al) (by omega)
              clear HBC HQ2 HAP
              by_cases o1 : off < -off
              · have a1 : (off.natAbs : Int) = -off := by omega
                by_cases o2 : al < -al
                · have a2 : (al.natAbs : Int) = -al := by omega
                  have HA := Lib.hid (And.intro a1 a2)
                  clear a1 a2
                  go_wp2
                  all_goals
                    refine Met.intro (hJ _ _ ?_)
                    (repeat apply Exists.intro)
                    refine ⟨⟨by rw [HBT.out, HA.out.1, HA.out.2], K8.out⟩, rfl⟩
                · have a2 : (al.natAbs : Int) = al := by omega
                  have HA := Lib.hid (And.intro a1 a2)
                  clear a1 a2
                  go_wp2
                  all_goals
                    refine Met.intro (hJ _ _ ?_)
                    (repeat apply Exists.intro)
                    refine ⟨⟨by rw [HBT.out, HA.out.1, HA.out.2], K8.out⟩, rfl⟩
              · have a1 : (off.natAbs : Int) = off := by omega
                by_cases o2 : al < -al
                · have a2 : (al.natAbs : Int) = -al := by omega
                  have HA := Lib.hid (And.intro a1 a2)
                  clear a1 a2
                  go_wp2
                  all_goals
                    refine Met.intro (hJ _ _ ?_)
                    (repeat apply Exists.intro)
                    refine ⟨⟨by rw [HBT.out, HA.out.1, HA.out.2], K8.out⟩, rfl⟩
                · have a2 : (al.natAbs : Int) = al := by omega
                  have HA := Lib.hid (And.intro a1 a2)
                  clear a1 a2
                  go_wp2
                  all_goals
                    refine Met.intro (hJ _ _ ?_)
                    (repeat apply Exists.intro)
                    refine ⟨⟨by rw [HBT.out, HA.out.1, HA.out.2], K8.out⟩, rfl⟩
          obtain ⟨rfl, HWC⟩ := hcut
          have hb9 := Below.thru S7.out.2.2.2 S7.out.2.2.2.size HWC.out
          obtain ⟨d0, d1, _, _⟩ := S7.out.2.2.1.keep HWC.out
          have hown9 : wc.ownsRow w1.heap.size 24 2 u10 (OU f OKF j).length (cls (OU f OKF j)) := own_of HW.out (fun g cap hv ⟨cur, hg⟩ => hb9.block g (Array.getElem?_eq_some_iff.1 hg).1)
          have HON : Hid (OwnR wc w1.heap.size u10 (OU f OKF j)) := hown9
          have HBN := Lib.hid (HB.out.trans (hb9.mono hwr))
          have hsz9 : w1.heap.size ≤ wc.heap.size := Nat.le_trans hwr hb9.size
          clear S7 HWC hb9 HQ2 HAP HOK
          cases hq : OKF (fx, fz) with
          | true =>
            have HL2 : Hid (OU f OKF (j + 1) = OU f OKF j ++ [(fx, fz)]) := by show _ = _; rw [HL1.out, hq]; rfl
            clear hq
            go_wp2_with (at_builtin; refine wpList_append_own _ rfl (.tmp 99) (.tmp 101) 22 rfl w1.heap.size 24 i0 (.agg #[.int .i64 0, .int .i64 0]) 2 16 Try.underlying22' hi hz0 hz1 hz2 rfl (by decide) _ _ _ rfl (hown9.alloc _) ⟨wc.heap.size, 0, none⟩ 1 1 [.int .i64 fx, .int .i64 fz] rfl rfl two_new (by simp [Value.oneCell']) (by unfold maxLen; omega) (by omega) (by simp; omega) ?_; intro v' w9 hown' hgrow _)
            have hBg : Below w1.heap.size wc w9 := ((Below.refl _ _).alloc (by omega) _).grown hgrow (by simp; omega) (fun r e => (hown9.lt r e).1)
            go_wp2
            go_roundw
            case rel =>
              refine ⟨j + 1, by omega, by go_num, ?_, HBN.out.trans hBg⟩
              rw [HL2.out]
              show World.ownsRow _ _ _ _ _ _ _
              rw [List.length_append, cls_snoc]
              exact hown'
            case measure => simp [intOf]; omega
          | false =>
            have HL2 : Hid (OU f OKF (j + 1) = OU f OKF j) := by show _ = _; rw [HL1.out, hq]; simp
            clear hq hown9
            go_wp2
            go_roundw
            case rel => exact ⟨j + 1, by omega, by go_num, by rw [HL2.out]; exact HON.out, HBN.out⟩
            case measure => simp [intOf]; omega
        · obtain ⟨q, rfl⟩ : ∃ q, k = q + 1 := ⟨k - 1, by omega⟩
          obtain rfl : j = q := by omega
          have HFI : Hid (OwnR wr w.heap.size u10 OC) := OwnR.base (by rw [HOC.out, ← HOU.out]; exact HO.out) (by omega)
          have HKK := Lib.hid (HB1.out _ HB.out).2.2.2
          go_wp2
          go_ret
          exact ⟨⟨_, rfl, HFI.out⟩, HKK.out⟩
end Go.Proofs.Ytljmhejljpfaiaa
namespace Go.Proofs.Ytljmhejljpfaiaa
set_option maxRecDepth 100000
open Go.RowKit Go.Shelf

/-! the reference's Sure -/
theorem tw_fan (l : List Pt) : ∀ j, pI l 0 j + cr2 (pc l j) (pc l 0) = rsm (fun k => D3 (pc l 0) (pc l k) (pc l (k + 1))) j
  | 0 => by show 0 + cr2 (pc l 0) (pc l 0) = 0; rw [cr2_self]; rfl
  | j + 1 => by
    have ih := tw_fan l j
    have e1 := pI_add l 0 j 1
    rw [pI_one, Nat.zero_add] at e1
    have e2 : D3 (pc l 0) (pc l j) (pc l (j + 1)) = cr2 (pc l j) (pc l (j + 1)) + cr2 (pc l (j + 1)) (pc l 0) - cr2 (pc l j) (pc l 0) := by unfold D3 cr2; grind
    show _ = rsm (fun k => D3 (pc l 0) (pc l k) (pc l (k + 1))) j + D3 (pc l 0) (pc l j) (pc l (j + 1))
    rw [e1, e2]
    omega
theorem rsm_nn {f : Nat → Int} : ∀ j, (∀ k, k < j → 0 ≤ f k) → 0 ≤ rsm f j
  | 0, _ => Int.le_refl _
  | j + 1, h => by
    have := rsm_nn j fun k hk => h k (by omega)
    have := h j (by omega)
    show 0 ≤ rsm f j + f j
    omega
theorem tw_nn {l : List Pt} (ht : Tr l) : 0 ≤ tw l := by
  have h := tw_fan l l.length
  have e : pc l l.length = pc l 0 := by have := pc_add l 0; rwa [Nat.zero_add] at this
  rw [e, cr2_self] at h
  have h2 : 0 ≤ rsm (fun k => D3 (pc l 0) (pc l k) (pc l (k + 1))) l.length := rsm_nn _ fun k hk => ht.cyc0 (by omega) (by omega) (by omega)
  rw [tw_pI]
  omega
/-- the least of the first k -/
def sur (f : Pt → Int) (L : List Pt) : Nat → Int
  | 0 => -1
  | k + 1 => if sur f L k < 0 ∨ f (px L k, pz L k) < sur f L k then f (px L k, pz L k) else sur f L k
/-- what the reference compares -/
def grR (l : List Pt) (p q : Pt) : Int := max (tw (leftR l p q)) (tw (leftR l q p))
/-- what the program does -/
def grP (l : List Pt) (p q : Pt) : Int := max (tw (partL l p q)) (tw l - tw (partL l p q))
theorem CanC.swap {l : List Pt} {x1 z1 x2 z2 : Int} (h : CanC l x1 z1 x2 z2) : CanC l x2 z2 x1 z1 := fun i hi => by
  have := h i hi
  unfold both at *
  rw [Bool.and_comm]
  exact this
theorem gr_eq {l : List Pt} {p q : Pt} (ht : Tr l) (h3 : 3 ≤ l.length) (hp : IsP l p.1 p.2) (hq : IsP l q.1 q.2) (hc : CanC l p.1 p.2 q.1 q.2) : grR l p q = grP l p q := by
  unfold grR grP
  rw [tw_left ht h3 hp hq hc, tw_left ht h3 hq hp hc.swap]
  have := areas ht h3 hp hq hc
  omega
theorem grP_nn {l : List Pt} (ht : Tr l) (p q : Pt) : 0 ≤ grP l p q := by
  have := tw_nn ht
  unfold grP
  omega
theorem sur_congr {f g : Pt → Int} {L : List Pt} (h : ∀ q, q ∈ L → f q = g q) : ∀ k, k ≤ L.length → sur f L k = sur g L k
  | 0, _ => rfl
  | k + 1, hk => by
    unfold sur
    rw [sur_congr h k (by omega), h _ (mem_p (by omega))]
set_option maxHeartbeats 16000000 in
theorem rsure_any (nm : ByteArray) (b o c g cq : Nat) (l Q : List Pt) (dp dn gx gz x z : Int) (w : World) (hr : Row w b o l) (hq : Row w g 0 Q) (h3 : 3 ≤ l.length) (h12 : l.length ≤ 12) (hx : Bx l) (ht : Tr l) (hp : IsP l x z)
    (hQ : ∀ q, q ∈ Q → IsP l q.1 q.2 ∧ CanC l x z q.1 q.2) (hQ0 : 0 < Q.length) (hQl : Q.length ≤ 30000) :
    Calls Try.prog 41 #[.agg (c6 nm (.slice (some ⟨b, o, none⟩) l.length c) dp dn gx gz), .agg #[.int .i64 x, .int .i64 z], .slice (some ⟨g, 0, none⟩) Q.length cq] w fun e w' => e = .returned (.int .i64 (sur (grR l (x, z)) Q Q.length)) ∧ Below w.heap.size w w' := by
  have HR := Lib.hid hr; have HRQ := Lib.hid hq; have HQ := Lib.hid hQ
  have hpb := hp.bd hx
  have HLF := Lib.hid (fun W (k : Below w.heap.size w W) fx fz (hf : (0 ≤ fx ∧ fx ≤ 2000) ∧ (0 ≤ fz ∧ fz ≤ 2000)) => left_any b o c l x z fx fz W (hr.keep k) (by omega) (by omega) hx (by unfold Sm; omega) (by unfold Sm; omega))
  have HRG := Lib.hid (fun W (k : Below w.heap.size w W) fx fz (hf : (0 ≤ fx ∧ fx ≤ 2000) ∧ (0 ≤ fz ∧ fz ≤ 2000)) => left_any b o c l fx fz x z W (hr.keep k) (by omega) (by omega) hx (by unfold Sm; omega) (by unfold Sm; omega))
  have HT := Lib.hid (fun fx fz (h : IsP l fx fz ∧ CanC l x z fx fz) W g c (hrow : Row W g 0 (leftR l (x, z) (fx, fz))) => rtwice_any g 0 c (leftR l (x, z) (fx, fz)) W hrow (by have := leftR_two l (x, z) (fx, fz); omega) (by
    have e := (stl_left (p := (x, z)) (q := (fx, fz)) ht h3 hp h.1 h.2).2
    have := partL_len l (fx, fz) (x, z) (eo_isp h.1) (eo_isp hp)
    omega) (leftR_bx (p := (x, z)) (q := (fx, fz)) ht h3 hx hp h.1 h.2))
  have HU := Lib.hid (fun fx fz (h : IsP l fx fz ∧ CanC l x z fx fz) W g c (hrow : Row W g 0 (leftR l (fx, fz) (x, z))) => rtwice_any g 0 c (leftR l (fx, fz) (x, z)) W hrow (by have := leftR_two l (fx, fz) (x, z); omega) (by
    have e := (stl_left (p := (fx, fz)) (q := (x, z)) ht h3 h.1 hp h.2.swap).2
    have := partL_len l (x, z) (fx, fz) (eo_isp hp) (eo_isp h.1)
    omega) (leftR_bx (p := (fx, fz)) (q := (x, z)) ht h3 hx h.1 hp h.2.swap))
  have HBQ : Hid (∀ q : Pt, q ∈ Q → (0 ≤ q.1 ∧ q.1 ≤ 2000) ∧ (0 ≤ q.2 ∧ q.2 ≤ 2000)) := fun q hq => (hQ q hq).1.bd hx
  have HS0 : Hid (sur (grR l (x, z)) Q 0 = -1) := rfl
  have HSS : Hid (∀ k, sur (grR l (x, z)) Q (k + 1) = if sur (grR l (x, z)) Q k < 0 ∨ grR l (x, z) (px Q k, pz Q k) < sur (grR l (x, z)) Q k then grR l (x, z) (px Q k, pz Q k) else sur (grR l (x, z)) Q k) := fun _ => rfl
  have HMP : Hid (∀ k, k < Q.length → (px Q k, pz Q k) ∈ Q) := fun k hk => mem_p hk
  have HGR : Hid (∀ fx fz, grR l (x, z) (fx, fz) = max (tw (leftR l (x, z) (fx, fz))) (tw (leftR l (fx, fz) (x, z)))) := fun _ _ => rfl
  have hbw := hr.lt (by omega)
  have hgw := hq.lt hQ0
  clear hr hq hx ht hp hQ h3
  generalize sur (grR l (x, z)) Q = SU at *
  obtain ⟨m, hm⟩ : ∃ m, m = Q.length := ⟨_, rfl⟩
  rw [← hm] at hQ0 hQl HMP ⊢
  have HM := Lib.hid hm
  clear hm
  have k0 : Below w.heap.size w ((w.alloc (.cells (c6 nm (.slice (some ⟨b, o, none⟩) l.length c) dp dn gx gz) 26)).alloc (.cells #[.int .i64 x, .int .i64 z] 24)) := bl2 w _ _
  have b0 : Blk w.heap.size (c6 nm (.slice (some ⟨b, o, none⟩) l.length c) dp dn gx gz) 26 ((w.alloc (.cells (c6 nm (.slice (some ⟨b, o, none⟩) l.length c) dp dn gx gz) 26)).alloc (.cells #[.int .i64 x, .int .i64 z] 24)) ∧ B2 (w.heap.size + 1) x z ((w.alloc (.cells (c6 nm (.slice (some ⟨b, o, none⟩) l.length c) dp dn gx gz) 26)).alloc (.cells #[.int .i64 x, .int .i64 z] 24)) := ⟨(Blk.new w _ 26).alloc _, ⟨by simp [go_sem], by simp [go_sem], by simp [go_sem], by simp [go_sem]⟩⟩
  go_enter Try.func41, Try.ntmps41
  go_wp2
  generalize ((w.alloc (.cells (c6 nm (.slice (some ⟨b, o, none⟩) l.length c) dp dn gx gz) 26)).alloc (.cells #[.int .i64 x, .int .i64 z] 24)) = w0 at *
  have HBS : Hid (∀ W, Below w0.heap.size w0 W → Blk w.heap.size (c6 nm (.slice (some ⟨b, o, none⟩) l.length c) dp dn gx gz) 26 W ∧ B2 (w.heap.size + 1) x z W ∧ Below w.heap.size w W) := fun W k => ⟨b0.1.below k, b0.2.keep k, Below.thru k0 k0.size k⟩
  clear b0 k0
  go_loopw [8, 9, 7] (fun i _ v wr => ∃ k : Nat, k ≤ m ∧ i = .int .i64 k ∧ v = .int .i64 (SU k) ∧ Below w0.heap.size w0 wr) (fun i _ _ _ => m - (intOf i).toNat)
  case atStart => exact ⟨0, Nat.zero_le _, rfl, by rw [HS0.out], Below.refl _ _⟩
  case round =>
    obtain ⟨k, hk, rfl, rfl, hB⟩ := hrel
    by_cases hkm : k < m
    · have HSK := Lib.hid (HSS.out k)
      have hmem := HMP.out k hkm
      have hvc := HQ.out _ hmem
      have hbd := HBQ.out _ hmem
      have KB := Lib.hid hB
      have HRK : Hid (∀ W, Below wr.heap.size wr W → Row W g 0 Q) := fun W kk => HRQ.out.keep (HBS.out W (Below.thru KB.out KB.out.size kk)).2.2
      have HCL : Hid (∀ W, Below wr.heap.size wr W → W.cell? ⟨g, k * 2, none⟩ = some (.int .i64 (px Q k)) ∧ W.cell? ⟨g, k * 2 + 1, none⟩ = some (.int .i64 (pz Q k))) := fun W kk => by
        have h := HRK.out W kk k (by rw [← HM.out]; exact hkm)
        simp only [Nat.zero_add] at h
        exact h
      dsimp only at hvc hbd
      generalize px Q k = fx at *
      generalize pz Q k = fz at *
      have HC : Hid (∀ W, Below wr.heap.size wr W → W.cell? ⟨w.heap.size, 1, none⟩ = some (.slice (some ⟨b, o, none⟩) l.length c) ∧ W.cell? ⟨w.heap.size + 1, 0, none⟩ = some (.int .i64 x) ∧ W.cell? ⟨w.heap.size + 1, 1, none⟩ = some (.int .i64 z) ∧ W.cell? ⟨g, k * 2, none⟩ = some (.int .i64 fx) ∧ W.cell? ⟨g, k * 2 + 1, none⟩ = some (.int .i64 fz)) := fun W kk => by
        have h := HBS.out W (Below.thru KB.out KB.out.size kk)
        exact ⟨h.1.cell (i := 1) rfl, h.2.1.1, h.2.1.2.1, (HCL.out W kk).1, (HCL.out W kk).2⟩
      have HL1 := Lib.hid (fun W (kk : Below wr.heap.size wr W) => HLF.out W (HBS.out W (Below.thru KB.out KB.out.size kk)).2.2 fx fz hbd)
      have HL2 := Lib.hid (fun W (kk : Below wr.heap.size wr W) => HRG.out W (HBS.out W (Below.thru KB.out KB.out.size kk)).2.2 fx fz hbd)
      have HT1 := Lib.hid (HT.out fx fz hvc)
      have HT2 := Lib.hid (HU.out fx fz hvc)
      have HG1 := Lib.hid (HGR.out fx fz)
      clear hmem hvc hbd HRK HCL HT HU HLF HRG HGR
      go_upto_region 5 with fail
      go_cut [9] (fun v wc => v = .int .i64 (grR l (x, z) (fx, fz)) ∧ Hid (Below wr.heap.size wr wc))
      case first =>
        rename_i J K' hJ hK
        have k0 : Below wr.heap.size wr wr.drew := (Below.refl _ _).drew
        have q0 := HC.out _ k0
        have hgl1 : (leftR l (x, z) (fx, fz)).length = (leftR l (x, z) (fx, fz)).length := rfl
        generalize hta : tw (leftR l (x, z) (fx, fz)) = ta at *
        generalize htb : tw (leftR l (fx, fz) (x, z)) = tb at *
        clear hta htb hgl1
        by_cases hlt : ta < tb
        · have HFE : Hid (grR l (x, z) (fx, fz) = tb) := by show _ = _; rw [HG1.out]; omega
          go_region_held3 (fun W => W.cell? ⟨w.heap.size, 1, none⟩ = some (.slice (some ⟨b, o, none⟩) l.length c) ∧ W.cell? ⟨w.heap.size + 1, 0, none⟩ = some (.int .i64 x) ∧ W.cell? ⟨w.heap.size + 1, 1, none⟩ = some (.int .i64 z) ∧ W.cell? ⟨g, k * 2, none⟩ = some (.int .i64 fx) ∧ W.cell? ⟨g, k * 2 + 1, none⟩ = some (.int .i64 fz))
            (first | (with_reducible exact q4) | (with_reducible exact q3) | (with_reducible exact q2) | (with_reducible exact q1) | (with_reducible exact q0))
            (first
              | (go_at_call 46; (with_reducible refine (HL1.out wr.drew k0).mono ?_); rintro e w6 ⟨⟨v6, rfl, ho6⟩, hb6⟩
                 have k1 := Below.thru k0 k0.size hb6; have q1 := HC.out _ k1; obtain ⟨g1, c1, rfl, hr6, -⟩ := OwnR.at' ho6 (by have := leftR_two l (x, z) (fx, fz); omega); have O6 := Lib.hid hr6; clear ho6 hb6 hr6)
              | (go_at_call 26; (with_reducible refine (HT1.out w6 _ _ O6.out).mono ?_); rintro e w7 ⟨rfl, hb7⟩
                 have k2 := Below.thru k1 k1.size hb7; have q2 := HC.out _ k2; clear hb7)
              | (go_at_call 46; (with_reducible refine (HL2.out w7 k2).mono ?_); rintro e w8 ⟨⟨v8, rfl, ho8⟩, hb8⟩
                 have k3 := Below.thru k2 k2.size hb8; have q3 := HC.out _ k3; obtain ⟨g2, c2, rfl, hr8, -⟩ := OwnR.at' ho8 (by have := leftR_two l (fx, fz) (x, z); omega); have O8 := Lib.hid hr8; clear ho8 hb8 hr8)
              | (go_at_call 26; (with_reducible refine (HT2.out w8 _ _ O8.out).mono ?_); rintro e w9 ⟨rfl, hb9⟩
                 have k4 := Below.thru k3 k3.size hb9; have q4 := HC.out _ k4; have K4 := Lib.hid k4; clear hb9))
          all_goals
            refine hK _ _ (Met.intro (hJ _ _ ?_))
            (repeat apply Exists.intro)
            refine ⟨⟨by (rw [HFE.out]; try rw [if_neg (by omega)]), K4.out⟩, rfl⟩
        · have HFE : Hid (grR l (x, z) (fx, fz) = ta) := by show _ = _; rw [HG1.out]; omega
          go_region_held3 (fun W => W.cell? ⟨w.heap.size, 1, none⟩ = some (.slice (some ⟨b, o, none⟩) l.length c) ∧ W.cell? ⟨w.heap.size + 1, 0, none⟩ = some (.int .i64 x) ∧ W.cell? ⟨w.heap.size + 1, 1, none⟩ = some (.int .i64 z) ∧ W.cell? ⟨g, k * 2, none⟩ = some (.int .i64 fx) ∧ W.cell? ⟨g, k * 2 + 1, none⟩ = some (.int .i64 fz))
            (first | (with_reducible exact q4) | (with_reducible exact q3) | (with_reducible exact q2) | (with_reducible exact q1) | (with_reducible exact q0))
            (first
              | (go_at_call 46; (with_reducible refine (HL1.out wr.drew k0).mono ?_); rintro e w6 ⟨⟨v6, rfl, ho6⟩, hb6⟩
                 have k1 := Below.thru k0 k0.size hb6; have q1 := HC.out _ k1; obtain ⟨g1, c1, rfl, hr6, -⟩ := OwnR.at' ho6 (by have := leftR_two l (x, z) (fx, fz); omega); have O6 := Lib.hid hr6; clear ho6 hb6 hr6)
              | (go_at_call 26; (with_reducible refine (HT1.out w6 _ _ O6.out).mono ?_); rintro e w7 ⟨rfl, hb7⟩
                 have k2 := Below.thru k1 k1.size hb7; have q2 := HC.out _ k2; clear hb7)
              | (go_at_call 46; (with_reducible refine (HL2.out w7 k2).mono ?_); rintro e w8 ⟨⟨v8, rfl, ho8⟩, hb8⟩
                 have k3 := Below.thru k2 k2.size hb8; have q3 := HC.out _ k3; obtain ⟨g2, c2, rfl, hr8, -⟩ := OwnR.at' ho8 (by have := leftR_two l (fx, fz) (x, z); omega); have O8 := Lib.hid hr8; clear ho8 hb8 hr8)
              | (go_at_call 26; (with_reducible refine (HT2.out w8 _ _ O8.out).mono ?_); rintro e w9 ⟨rfl, hb9⟩
                 have k4 := Below.thru k3 k3.size hb9; have q4 := HC.out _ k4; have K4 := Lib.hid k4; clear hb9))
          all_goals
            refine hK _ _ (Met.intro (hJ _ _ ?_))
            (repeat apply Exists.intro)
            refine ⟨⟨by (rw [HFE.out]; try rw [if_neg (by omega)]), K4.out⟩, rfl⟩
      obtain ⟨rfl, HWC⟩ := hcut
      have hB2 := Below.thru KB.out KB.out.size HWC.out
      clear HC HL1 HL2 HT1 HT2 HWC hB
      generalize grR l (x, z) (fx, fz) = n at *
      generalize SU k = sk at *
      have hcs : sk < 0 ∨ (¬ sk < 0 ∧ n < sk) ∨ (¬ sk < 0 ∧ ¬ n < sk) := by omega
      rcases hcs with u1 | ⟨u1, u2⟩ | ⟨u1, u2⟩
      · have HE : Hid (SU (k + 1) = n) := by show _ = _; rw [HSK.out, if_pos (.inl u1)]
        go_wp2
        go_roundw
        case rel => exact ⟨k + 1, by omega, by go_num, by rw [HE.out], hB2⟩
        case measure => simp [intOf]; omega
      · have HE : Hid (SU (k + 1) = n) := by show _ = _; rw [HSK.out, if_pos (.inr u2)]
        go_wp2
        go_roundw
        case rel => exact ⟨k + 1, by omega, by go_num, by rw [HE.out], hB2⟩
        case measure => simp [intOf]; omega
      · have HE : Hid (SU (k + 1) = sk) := by show _ = _; rw [HSK.out, if_neg (fun h => h.elim u1 u2)]
        go_wp2
        go_roundw
        case rel => exact ⟨k + 1, by omega, by go_num, by rw [HE.out], hB2⟩
        case measure => simp [intOf]; omega
    · obtain rfl : k = m := by omega
      have HK := Lib.hid (HBS.out _ hB).2.2
      go_wp2
      go_ret
      exact ⟨rfl, HK.out⟩
end Go.Proofs.Ytljmhejljpfaiaa
namespace Go.Proofs.Ytljmhejljpfaiaa
set_option maxRecDepth 100000
open Go.RowKit Go.Shelf
attribute [local go_sem] Oper.semAt_some

/-! the iterators once more: what they hand over are border points -/
abbrev Bq9 (l : List Pt) := { p : Pt // IsP l p.1 p.2 }
def valsR {l : List Pt} (c : List (Bq9 l)) : List Pt := c.map (·.1)
theorem valsR_snoc {l : List Pt} (c : List (Bq9 l)) (x : Bq9 l) : valsR (c ++ [x]) = valsR c ++ [x.1] := by simp [valsR]
theorem valsR_length {l : List Pt} (c : List (Bq9 l)) : (valsR c).length = c.length := by simp [valsR]
def encR {l : List Pt} (p : Bq9 l) : Array Value := #[.agg #[.int .i64 p.1.1, .int .i64 p.1.2]]
set_option maxHeartbeats 4000000 in
theorem points1R (n lr : Nat) (Bs : List Nat) (Be b o c : Nat) (l : List Pt) (h3 : 0 < l.length) (h12 : l.length ≤ 1000000) (hx : Bx l)
    (hd : ∀ i, i < l.length → ¬ (px l (nx l.length i) = px l i ∧ pz l (nx l.length i) = pz l i)) (htr : Tr l) (h33 : 3 ≤ l.length)
    (J Jx : List (Bq9 l) → World → Prop) (W : World) (hJ : Bears W.heap.size Bs J) (hJx : Bears W.heap.size Bs Jx)
    (hY : ∀ m pre x W1, J pre W1 → Sane Bs W1 → pre.length < l.length * 2000 → YieldAt Fence.wide m Try.prog lr (encR x) W1 fun e W' =>
      (e = .returned (.bool true) ∧ J (pre ++ [x]) W' ∧ KO W.heap.size Bs W1 W') ∨ (e = .returned (.bool false) ∧ Jx (pre ++ [x]) W' ∧ KO W.heap.size Bs W1 W'))
    (hE : Ed Bs Be b o c l W) (h0 : J [] W) :
    CallsIn Fence.wide n Try.prog 103 #[.func (.yield lr) #[] #[], .pointer (some ⟨Be, 0, none⟩)] W fun e W' => (∃ v, e = .returned v) ∧ ((∃ xs, valsR xs = bp l ∧ J xs W') ∨ (∃ pre, Jx pre W')) := by
  have HJ := Lib.hid hJ; have HJX := Lib.hid hJx; have HY := Lib.hid hY; have HE := Lib.hid hE; have H0 := Lib.hid h0; have HX := Lib.hid hx; have HD := Lib.hid hd
  have hbe := hE.box.lt
  have hbr := hE.row.lt h3
  have hB1 : Below W.heap.size W (W.alloc (.cells #[.func (.yield lr) #[] #[]] 114)) := bl1 W _
  have cb : (W.alloc (.cells #[.func (.yield lr) #[] #[]] 114)).cell? ⟨Be, 0, none⟩ = some (.slice (some ⟨b, o, none⟩) l.length c) := (hB1.cell (p := ⟨Be, 0, none⟩) hbe).trans hE.box.cell
  clear hJ hJx hY hE h0 hx hd hB1
  refine callsIn_of_wp_marks Try.func103 rfl trivial ?_ rfl
  simp only [Try.ntmps103, List.size_toArray, List.length_cons, List.length_nil, Nat.reduceAdd, Nat.reduceSub, Array.replicate_succ, Array.replicate_zero, List.push_toArray, List.append_toArray, List.nil_append, List.cons_append]
  gi_wp2_with fail
  refine ⟨trivial, (fun h => by cases h), ?_⟩
  refine (callsIn_wide.2 (edgesv_any _ _ _ _)).mono ?_
  rintro e w' ⟨rfl, rfl⟩
  gi_wp2
  have hB0 : Below W.heap.size W ((W.alloc (.cells #[.func (.yield lr) #[] #[]] 114)).alloc (.cells #[.slice (some ⟨b, o, none⟩) l.length c] 85)) := bl2 W _ _
  have hYb : Yb W.heap.size lr ((W.alloc (.cells #[.func (.yield lr) #[] #[]] 114)).alloc (.cells #[.slice (some ⟨b, o, none⟩) l.length c] 85)) :=
    (Below.heap_alloc _ _ _ (by simp)).trans (World.alloc_heap_new W _)
  have hNy : Nc Bs W.heap.size ((W.alloc (.cells #[.func (.yield lr) #[] #[]] 114)).alloc (.cells #[.slice (some ⟨b, o, none⟩) l.length c] 85)) :=
    (Nc.new HE.out.sane _).below ((KO.of_below (B := 0) (bl1 W _) HE.out.sane).sane HE.out.sane) (bl1 _ _) (by simp)
  have hBx : Boxed ((W.alloc (.cells #[.func (.yield lr) #[] #[]] 114)).alloc (.cells #[.slice (some ⟨b, o, none⟩) l.length c] 85)) (W.heap.size + 1) 85 (.slice (some ⟨b, o, none⟩) l.length c) := by
    have := Boxed.new (W.alloc (.cells #[.func (.yield lr) #[] #[]] 114)) 85 (.slice (some ⟨b, o, none⟩) l.length c)
    rw [World.size_alloc] at this
    exact this
  have hNx : Nc Bs (W.heap.size + 1) ((W.alloc (.cells #[.func (.yield lr) #[] #[]] 114)).alloc (.cells #[.slice (some ⟨b, o, none⟩) l.length c] 85)) := by
    have := Nc.new (W := W.alloc (.cells #[.func (.yield lr) #[] #[]] 114)) ((KO.of_below (B := 0) (bl1 W _) HE.out.sane).sane HE.out.sane) (.cells #[.slice (some ⟨b, o, none⟩) l.length c] 85)
    rw [World.size_alloc] at this
    exact this
  have hsz : ((W.alloc (.cells #[.func (.yield lr) #[] #[]] 114)).alloc (.cells #[.slice (some ⟨b, o, none⟩) l.length c] 85)).heap.size = W.heap.size + 2 := by simp
  generalize (W.alloc (.cells #[.func (.yield lr) #[] #[]] 114)).alloc (.cells #[.slice (some ⟨b, o, none⟩) l.length c] 85) = w0 at *
  have E0 := HE.out.below hB0 h3
  refine rangeX Bs (gf := 113) (lb := #[.pointer (some ⟨W.heap.size + 1, 0, none⟩)]) rfl (enters_of Try.func113 (by kernel_rfl) rfl)
    (edges_seq (W.heap.size + 1) b o c l w0 h3 h12 E0.row hBx) (Below.refl _ _) (fun _ => rfl) E0.sane
    (fun k hk => by rcases hk with rfl | rfl
                    · exact ⟨by omega, hNx.b, hNx.o⟩
                    · exact ⟨E0.row.lt h3, E0.nr.1, E0.nr.2⟩)
    (fun pre X => (∃ cur, valsR cur = bpE l pre ∧ cur.length ≤ pre.length * 2000 ∧ J cur X) ∧ (Yb W.heap.size lr X ∧ Nc Bs W.heap.size X) ∧ w0.heap.size ≤ X.heap.size) (fun cc _ X => cc = .ret ∧ ∃ cur, Jx cur X)
    ?bI (fun cc s A C h hc => ⟨h.1, h.2.choose, HJX.out _ _ _ h.2.choose_spec (hc.mono (by omega))⟩) ⟨⟨[], rfl, Nat.zero_le _, HJ.out _ _ _ H0.out (Ch.of_below hB0)⟩, ⟨hYb, hNy⟩, Nat.le_refl _⟩
    (fun x a' X => ∃ T3 T4, (P2 T3 (px l x.1) (pz l x.1) X ∧ P2 T4 (px l (nx l.length x.1)) (pz l (nx l.length x.1)) X) ∧ (Nc Bs T3 X ∧ Nc Bs T4 X) ∧ a' = { tmps := #[.func (.yield lr) #[] #[], .pointer (some ⟨Be, 0, none⟩), .pointer (some ⟨W.heap.size, 0, none⟩), .pointer (some ⟨T3, 0, none⟩), .pointer (some ⟨T4, 0, none⟩), undef, undef, undef, .slice (some ⟨b, o, none⟩) l.length c, .func (.func 113) #[] #[.pointer (some ⟨W.heap.size + 1, 0, none⟩)], .agg #[.int .i64 (px l x.1), .int .i64 (pz l x.1)], .agg #[.int .i64 (px l (nx l.length x.1)), .int .i64 (pz l (nx l.length x.1))], undef, undef, undef, undef, undef, undef, undef, undef, undef, undef, undef, undef, undef, undef, undef, undef, undef, undef, undef, undef, undef, undef, undef, undef, undef, undef, undef, undef, undef], defers := [] })
    (fun x a' X k q q' hl ho ho' ⟨T3, T4, h, hn, e⟩ => ⟨T3, T4, ⟨h.1.putObj q' hl ho, h.2.putObj q' hl ho⟩, ⟨hn.1.putObj q' hl ho ho', hn.2.putObj q' hl ho ho'⟩, e⟩) ?assign ?body ?done ?stop
  case bI =>
    rintro s A C ⟨⟨cur, h1, h1', h2⟩, ⟨hy, hn⟩, hs⟩ hc
    exact ⟨⟨cur, h1, h1', HJ.out _ _ _ h2 (hc.mono (by omega))⟩, ⟨(hc.block _ hy.lt (.inl (by omega))).trans hy, hn.ch hc (fun b hb => ⟨(E0.sane b hb).1, Nat.lt_of_lt_of_le (E0.sane b hb).1 hs⟩) hy.lt (by omega)⟩, Nat.le_trans hs hc.size⟩
  case assign =>
    rintro lr' pre x X K ⟨⟨cur, h1, h1', h2⟩, ⟨hy, hny⟩, hs⟩ hsX hK
    unfold enc2
    gi_wp2
    have hb1 := bl1 X (.cells #[.int .i64 (px l x.1), .int .i64 (pz l x.1)] 32)
    have hb2 := bl2 X (.cells #[.int .i64 (px l x.1), .int .i64 (pz l x.1)] 32) (.cells #[.int .i64 (px l (nx l.length x.1)), .int .i64 (pz l (nx l.length x.1))] 32)
    have hs1 := (KO.of_below (B := 0) hb1 hsX).sane hsX
    refine hK _ _ (KO.of_below hb2 hsX) ⟨⟨cur, h1, h1', HJ.out _ _ _ h2 (Ch.of_below hb2)⟩, ⟨(hb2.block _ hy.lt).trans hy, hny.below hsX hb2 hy.lt⟩, Nat.le_trans hs hb2.size⟩ ⟨X.heap.size, X.heap.size + 1, ⟨(P2.new X _ _).alloc _, ?_⟩, ⟨(Nc.new hsX _).below hs1 (bl1 _ _) (by simp), ?_⟩, rfl⟩
    · have := P2.new (X.alloc (.cells #[.int .i64 (px l x.1), .int .i64 (pz l x.1)] 32)) (px l (nx l.length x.1)) (pz l (nx l.length x.1))
      rw [World.size_alloc] at this
      exact this
    · have := Nc.new hs1 (.cells #[.int .i64 (px l (nx l.length x.1)), .int .i64 (pz l (nx l.length x.1))] 32)
      rw [World.size_alloc] at this
      exact this
  case body =>
    rintro lr' pre x a' X ⟨⟨cur, h1, h1', h2⟩, ⟨hy, hny⟩, hs⟩ hsX ⟨T3, T4, ⟨p3, p4⟩, ⟨n3, n4⟩, rfl⟩ hlt
    obtain ⟨c0, c1⟩ := p3.cells
    obtain ⟨d0, d1⟩ := p4.cells
    have hxi := HX.out x.1 x.2
    have hxj := HX.out (nx l.length x.1) (nx_lt x.2)
    have hdi := HD.out x.1 x.2
    have hdj := HD.out x.1 x.2
    have HS : Hid (∀ V, Calls Try.prog 84 #[.agg #[.int .i64 (px l x.1), .int .i64 (pz l x.1)], .agg #[.int .i64 (px l (nx l.length x.1)), .int .i64 (pz l (nx l.length x.1))]] V fun e w' =>
      e = .returned (.tuple #[.int .i64 (snE l x.1 : Nat), .agg #[.int .i64 (sxE l x.1), .int .i64 (szE l x.1)]]) ∧ Below V.heap.size V w') := fun V => steps_any _ _ _ _ V hxi.1 hxi.2 hxj.1 hxj.2 hdi
    have HM := Lib.hid (sn_le hxi.1 hxi.2 hxj.1 hxj.2)
    have HB : Hid (∀ k : Nat, k < snE l x.1 → ((0 ≤ px l x.1 + k * sxE l x.1 ∧ px l x.1 + k * sxE l x.1 ≤ 2000) ∧ (-2000 ≤ k * sxE l x.1 ∧ k * sxE l x.1 ≤ 2000)) ∧ ((0 ≤ pz l x.1 + k * szE l x.1 ∧ pz l x.1 + k * szE l x.1 ≤ 2000) ∧ (-2000 ≤ k * szE l x.1 ∧ k * szE l x.1 ≤ 2000))) := fun k hk =>
      ⟨seg_bd (sxE_mul l x.1) (by omega) hxi.1 (by omega), seg_bd (szE_mul l x.1) (by omega) hxi.2 (by omega)⟩
    have HSN := Lib.hid (bpE_snoc l pre x)
    have HM : Hid (snE l x.1 ≤ 2000) := HM.out
    have S0 : Hid ((P2 T3 (px l x.1) (pz l x.1) X ∧ Nc Bs T3 X) ∧ (Yb W.heap.size lr X ∧ Nc Bs W.heap.size X) ∧ J cur X ∧ Sane Bs X ∧ w0.heap.size ≤ X.heap.size) := ⟨⟨p3, n3⟩, ⟨hy, hny⟩, h2, hsX, hs⟩
    clear hxi hxj hdi hdj p3 p4 n3 n4 hy hny hs hsX h2
    gi_wp2_with fail
    refine ⟨trivial, (by first | rfl | (intro h; cases h)), ?_⟩
    refine (CallsIn.inRound _ (callsIn_wide.2 (HS.out _))).mono ?_
    rintro e w2 ⟨rfl, hb2⟩
    gi_wp2
    have hb3 : Below X.heap.size X (w2.alloc (.cells #[.int .i64 (sxE l x.1), .int .i64 (szE l x.1)] 32)) := Below.thru hb2 hb2.size (bl1 w2 _)
    have S1 : Hid ((KO w0.heap.size Bs X (w2.alloc (.cells #[.int .i64 (sxE l x.1), .int .i64 (szE l x.1)] 32)) ∧ Sane Bs (w2.alloc (.cells #[.int .i64 (sxE l x.1), .int .i64 (szE l x.1)] 32))) ∧ (P2 T3 (px l x.1) (pz l x.1) (w2.alloc (.cells #[.int .i64 (sxE l x.1), .int .i64 (szE l x.1)] 32)) ∧ P2 w2.heap.size (sxE l x.1) (szE l x.1) (w2.alloc (.cells #[.int .i64 (sxE l x.1), .int .i64 (szE l x.1)] 32)) ∧ Yb W.heap.size lr (w2.alloc (.cells #[.int .i64 (sxE l x.1), .int .i64 (szE l x.1)] 32))) ∧
        (Nc Bs T3 (w2.alloc (.cells #[.int .i64 (sxE l x.1), .int .i64 (szE l x.1)] 32)) ∧ Nc Bs w2.heap.size (w2.alloc (.cells #[.int .i64 (sxE l x.1), .int .i64 (szE l x.1)] 32)) ∧ Nc Bs W.heap.size (w2.alloc (.cells #[.int .i64 (sxE l x.1), .int .i64 (szE l x.1)] 32))) ∧ w0.heap.size ≤ (w2.alloc (.cells #[.int .i64 (sxE l x.1), .int .i64 (szE l x.1)] 32)).heap.size) := by
      obtain ⟨⟨p3, n3⟩, ⟨hy, hny⟩, _, hsX, hs⟩ := S0.out
      have ko := KO.of_below (B := w0.heap.size) hb3 hsX
      have s2 := (KO.of_below (B := 0) hb2 hsX).sane hsX
      exact ⟨⟨ko, ko.sane hsX⟩, ⟨p3.below hb3, P2.new _ _ _, (hb3.block _ hy.lt).trans hy⟩, ⟨n3.below hsX hb3 p3.lt, Nc.new s2 _, hny.below hsX hb3 hy.lt⟩, Nat.le_trans hs hb3.size⟩
    have J1 : Hid (J cur (w2.alloc (.cells #[.int .i64 (sxE l x.1), .int .i64 (szE l x.1)] 32))) := HJ.out _ _ _ S0.out.2.2.1 (Ch.of_below hb3)
    generalize w2.heap.size = T6 at *
    generalize w2.alloc (.cells #[.int .i64 (sxE l x.1), .int .i64 (szE l x.1)] 32) = w3 at *
    have H1 := Lib.hid h1; have H1' := Lib.hid h1'
    clear hb2 hb3 S0 c0 c1 d0 d1 h1 h1'
    gi_loopw [19] (fun i wr => ∃ k : Nat, k ≤ snE l x.1 ∧ i = .int .i64 k ∧ Hid (∃ cu, valsR cu = bpE l pre ++ eps l x.1 k ∧ cu.length ≤ pre.length * 2000 + k ∧ J cu wr) ∧ Hid ((KO w0.heap.size Bs X wr ∧ Sane Bs wr) ∧ (P2 T3 (px l x.1) (pz l x.1) wr ∧ P2 T6 (sxE l x.1) (szE l x.1) wr ∧ Yb W.heap.size lr wr) ∧ (Nc Bs T3 wr ∧ Nc Bs T6 wr ∧ Nc Bs W.heap.size wr) ∧ w0.heap.size ≤ wr.heap.size)) (fun i _ => snE l x.1 - (intOf i).toNat)
    case atStart => exact ⟨0, Nat.zero_le _, rfl, ⟨cur, by simp [eps, H1.out], by have := H1'.out; omega, J1.out⟩, S1.out⟩
    case round =>
      obtain ⟨k, hk, rfl, HC, HT⟩ := hrel
      by_cases hkt : k < snE l x.1
      · obtain ⟨cu, e1, e2, e3⟩ := HC.out
        obtain ⟨⟨ko, sa⟩, ⟨q3, q6, qy⟩, ⟨m3, m6, my⟩, hs3⟩ := HT.out
        obtain ⟨a0, a1⟩ := q3.cells
        obtain ⟨g0, g1⟩ := q6.cells
        have gy := Boxed.cell qy
        have hbd := HB.out k hkt
        have HKT := Lib.hid hkt
        have hm2 : snE l x.1 ≤ 2000 := HM.out
        have v1 := IntWalk.i64_in (k * sxE l x.1) (by omega)
        have v2 := IntWalk.i64_in (k * szE l x.1) (by omega)
        have v3 := IntWalk.i64_in (px l x.1 + k * sxE l x.1) (by omega)
        have v4 := IntWalk.i64_in (pz l x.1 + k * szE l x.1) (by omega)
        have hlen : cu.length < l.length * 2000 := by
          have := HM.out
          omega
        obtain ⟨pk, hpk⟩ : ∃ pk : Bq9 l, pk.1 = ept l x.1 k := ⟨⟨ept l x.1 k, x.1, x.2, (hit_iff x.2).2 ⟨(ept_hit htr h33 x.2 hkt).2, (ept_hit htr h33 x.2 hkt).1⟩⟩, rfl⟩
        obtain ⟨fn, tmps, assign, body, hy', hR⟩ := HY.out (n - 1) cu pk wr e3 sa hlen
        unfold encR at hy'
        rw [hpk] at hy'
        dsimp only [ept] at hy'
        have HPK := Lib.hid hpk
        clear hlen hpk
        have HR := Lib.hid hR
        have E1 := Lib.hid (And.intro e1 e2)
        clear hR ko sa q3 q6 qy m3 m6 my hs3 hbd e1 e2 e3 HC
        gi_wp2_with fail
        refine ⟨(by first | rfl | (intro h; cases h)), (round_in HR.out).mono ?_⟩
        rintro e W3 hW3
        obtain ⟨bv, rfl, H3⟩ : ∃ bv : Bool, e = .returned (.bool bv) ∧ Hid ((bv = true ∧ J (cu ++ [pk]) W3 ∧ KO W.heap.size Bs wr W3) ∨ (bv = false ∧ Jx (cu ++ [pk]) W3 ∧ KO W.heap.size Bs wr W3)) := hW3.elim (fun h => ⟨true, h.1, .inl ⟨rfl, h.2⟩⟩) (fun h => ⟨false, h.1, .inr ⟨rfl, h.2⟩⟩)
        have KO3 : Hid (KO W.heap.size Bs wr W3) := H3.out.elim (fun h => h.2.2) (fun h => h.2.2)
        have ST : Hid ((KO w0.heap.size Bs X W3 ∧ Sane Bs W3) ∧ (P2 T3 (px l x.1) (pz l x.1) W3 ∧ P2 T6 (sxE l x.1) (szE l x.1) W3 ∧ Yb W.heap.size lr W3) ∧ (Nc Bs T3 W3 ∧ Nc Bs T6 W3 ∧ Nc Bs W.heap.size W3) ∧ w0.heap.size ≤ W3.heap.size) := by
          obtain ⟨⟨ko, sa⟩, ⟨q3, q6, qy⟩, ⟨m3, m6, my⟩, hs3⟩ := HT.out
          have k3 := KO3.out
          exact ⟨⟨ko.trans (k3.mono (by omega)), k3.sane sa⟩, ⟨q3.ko m3 k3, q6.ko m6 k3, k3.boxed qy my.b my.o⟩, ⟨m3.ko k3 q3.lt, m6.ko k3 q6.lt, my.ko k3 qy.lt⟩, Nat.le_trans hs3 k3.size⟩
        clear hW3 hy' HR
        rcases H3.out with ⟨rfl, hj3, -⟩ | ⟨rfl, hx3, -⟩
        · gi_wp2
          go_roundw
          case rel => exact ⟨k + 1, by have := HKT.out; omega, by go_num, ⟨cu ++ [pk], by rw [valsR_snoc, E1.out.1, HPK.out, eps_succ, List.append_assoc], by rw [List.length_append]; have := E1.out.2; simp only [List.length_cons, List.length_nil]; omega, hj3⟩, ST.out⟩
          case measure =>
            have e9 : ((k : Int) + 1).toNat = k + 1 := by omega
            simp only [intOf, Int.toNat_natCast, e9]
            have := HKT.out
            omega
        · gi_wp2
          exact ⟨ST.out.1.1, rfl, _, hx3⟩
      · obtain rfl : k = snE l x.1 := by omega
        gi_wp2
        obtain ⟨cu, e1, e2, e3⟩ := HC.out
        obtain ⟨⟨ko, sa⟩, ⟨q3, q6, qy⟩, ⟨m3, m6, my⟩, hs3⟩ := HT.out
        refine ⟨ko, ⟨cu, e1.trans HSN.out.symm, ?_, e3⟩, ⟨qy, my⟩, hs3⟩
        rw [List.length_append]
        have := HM.out
        simp only [List.length_cons, List.length_nil]
        omega
  case done =>
    rintro D ys X hD rfl ⟨⟨cur, h1, -, h2⟩, hy, hs⟩ hK
    have hJ' := HJ.out _ _ _ h2 (ch_putObj (.deferred none) hK rfl (by omega))
    gi_wp2
    refine ⟨by simp, .inl ⟨_, _, rfl, run_takeDeferred hK, ?_⟩⟩
    exact ⟨_, results_none rfl _ _ _, ⟨_, rfl⟩, .inl ⟨cur, h1, hJ'⟩⟩
  case stop =>
    rintro D cc pre X hD ⟨rfl, cur, h⟩ hK
    have hJ' := HJX.out _ _ _ h (ch_putObj (.deferred none) hK rfl (by omega))
    gi_wp2
    refine ⟨by simp, .inl ⟨_, _, rfl, run_takeDeferred hK, ?_⟩⟩
    exact ⟨_, results_none rfl _ _ _, ⟨_, rfl⟩, .inr ⟨cur, hJ'⟩⟩
theorem pointsR_seq (Be b o c : Nat) (l : List Pt) (w0 : World) (h3 : 0 < l.length) (h12 : l.length ≤ 1000000) (hx : Bx l)
    (hd : ∀ i, i < l.length → ¬ (px l (nx l.length i) = px l i ∧ pz l (nx l.length i) = pz l i)) (htr : Tr l) (h33 : 3 ≤ l.length) (hr : Row w0 b o l) (hb : Boxed w0 Be 85 (.slice (some ⟨b, o, none⟩) l.length c)) :
    SeqX (α := Bq9 l) Try.prog 103 #[.pointer (some ⟨Be, 0, none⟩)] encR (fun k => k = Be ∨ k = b) (fun xs => valsR xs = bp l) (l.length * 2000) w0 := fun n lr Bs J Jx W hW hs hp hJ hJx hY h0 =>
  points1R n lr Bs Be b o c l h3 h12 hx hd htr h33 J Jx W hJ hJx hY ⟨hr.keep hW, (hW.block Be hb.lt).trans hb, hs, hp Be (.inl rfl), hp b (.inr rfl)⟩ h0
theorem ostR_vals {l : List Pt} {N : Nat} {xs : List (Bq9 l)} {p : Pt} (h : xs.length ≤ N) : (ost p (valsR xs)).1.length + (ost p (valsR xs)).2.2.length ≤ N := by
  have := ost_len p (valsR xs)
  rw [valsR_length] at this
  omega
set_option maxHeartbeats 8000000 in
theorem others1R (n lr : Nat) (Bs : List Nat) (Be Tp b o c : Nat) (l : List Pt) (p : Pt) (h3 : 0 < l.length) (h12 : l.length ≤ 1000) (hx : Bx l)
    (hd : ∀ i, i < l.length → ¬ (px l (nx l.length i) = px l i ∧ pz l (nx l.length i) = pz l i)) (htr : Tr l) (h33 : 3 ≤ l.length)
    (J Jx : List (Bq9 l) → World → Prop) (W : World) (hJ : Bears W.heap.size Bs J) (hJx : Bears W.heap.size Bs Jx)
    (hY : ∀ m pre x W1, J pre W1 → Sane Bs W1 → pre.length < l.length * 2000 → YieldAt Fence.wide m Try.prog lr (encR x) W1 fun e W' =>
      (e = .returned (.bool true) ∧ J (pre ++ [x]) W' ∧ KO W.heap.size Bs W1 W') ∨ (e = .returned (.bool false) ∧ Jx (pre ++ [x]) W' ∧ KO W.heap.size Bs W1 W'))
    (hE : Ed Bs Be b o c l W) (hp : P2 Tp p.1 p.2 W) (hnp : Nc Bs Tp W) (h0 : J [] W) :
    CallsIn Fence.wide n Try.prog 117 #[.func (.yield lr) #[] #[], .pointer (some ⟨Be, 0, none⟩), .pointer (some ⟨Tp, 0, none⟩)] W fun e W' => (∃ v, e = .returned v) ∧ ((∃ xs, valsR xs = oth l p ∧ J xs W') ∨ (∃ pre, Jx pre W')) := by
  obtain ⟨i0, hi, hz0, hz1, hz2⟩ := info_parts Try.info32
  obtain ⟨pa, pc⟩ := p
  dsimp only at hp
  have HJ := Lib.hid hJ; have HJX := Lib.hid hJx; have HY := Lib.hid hY; have HE := Lib.hid hE; have H0 := Lib.hid h0; have HX := Lib.hid hx; have HD := Lib.hid hd; have HP := Lib.hid (And.intro hp hnp)
  have hbe := hE.box.lt
  have hbr := hE.row.lt h3
  have htp := hp.lt
  have cb : (((W.alloc (.cells #[.func (.yield lr) #[] #[]] 114)).alloc (.cells #[.slice none 0 0] 31)).alloc (.cells #[.bool false] 4)).cell? ⟨Be, 0, none⟩ = some (.slice (some ⟨b, o, none⟩) l.length c) := ((bl3 W _ _ _).cell (p := ⟨Be, 0, none⟩) hbe).trans hE.box.cell
  clear hJ hJx hY hE h0 hx hd hp hnp
  refine callsIn_of_wp_marks Try.func117 rfl trivial ?_ rfl
  simp only [Try.ntmps117, List.size_toArray, List.length_cons, List.length_nil, Nat.reduceAdd, Nat.reduceSub, Array.replicate_succ, Array.replicate_zero, List.push_toArray, List.append_toArray, List.nil_append, List.cons_append]
  gi_wp2_with fail
  refine ⟨trivial, (fun h => by cases h), ?_⟩
  refine (callsIn_wide.2 (pointsv_any _ _ _ _)).mono ?_
  rintro e w' ⟨rfl, rfl⟩
  gi_wp2
  have hB0 : Below W.heap.size W ((((W.alloc (.cells #[.func (.yield lr) #[] #[]] 114)).alloc (.cells #[.slice none 0 0] 31)).alloc (.cells #[.bool false] 4)).alloc (.cells #[.slice (some ⟨b, o, none⟩) l.length c] 85)) := (bl3 W _ _ _).alloc (by simp; omega) _
  have hsz : ((((W.alloc (.cells #[.func (.yield lr) #[] #[]] 114)).alloc (.cells #[.slice none 0 0] 31)).alloc (.cells #[.bool false] 4)).alloc (.cells #[.slice (some ⟨b, o, none⟩) l.length c] 85)).heap.size = W.heap.size + 4 := by simp
  have hYb : Yb W.heap.size lr ((((W.alloc (.cells #[.func (.yield lr) #[] #[]] 114)).alloc (.cells #[.slice none 0 0] 31)).alloc (.cells #[.bool false] 4)).alloc (.cells #[.slice (some ⟨b, o, none⟩) l.length c] 85)) := (((Boxed.new W 114 (.func (.yield lr) #[] #[])).alloc _).alloc _).alloc _
  have h4 : Boxed ((((W.alloc (.cells #[.func (.yield lr) #[] #[]] 114)).alloc (.cells #[.slice none 0 0] 31)).alloc (.cells #[.bool false] 4)).alloc (.cells #[.slice (some ⟨b, o, none⟩) l.length c] 85)) (W.heap.size + 1) 31 (.slice none 0 0) := by
    have := Boxed.new (W.alloc (.cells #[.func (.yield lr) #[] #[]] 114)) 31 (.slice none 0 0)
    rw [World.size_alloc] at this
    exact (this.alloc _).alloc _
  have h5 : Boxed ((((W.alloc (.cells #[.func (.yield lr) #[] #[]] 114)).alloc (.cells #[.slice none 0 0] 31)).alloc (.cells #[.bool false] 4)).alloc (.cells #[.slice (some ⟨b, o, none⟩) l.length c] 85)) (W.heap.size + 1 + 1) 4 (.bool false) := by
    have := Boxed.new ((W.alloc (.cells #[.func (.yield lr) #[] #[]] 114)).alloc (.cells #[.slice none 0 0] 31)) 4 (.bool false)
    simp only [World.size_alloc] at this
    exact this.alloc _
  have hBx : Boxed ((((W.alloc (.cells #[.func (.yield lr) #[] #[]] 114)).alloc (.cells #[.slice none 0 0] 31)).alloc (.cells #[.bool false] 4)).alloc (.cells #[.slice (some ⟨b, o, none⟩) l.length c] 85)) (W.heap.size + 1 + 1 + 1) 85 (.slice (some ⟨b, o, none⟩) l.length c) := by
    have := Boxed.new (((W.alloc (.cells #[.func (.yield lr) #[] #[]] 114)).alloc (.cells #[.slice none 0 0] 31)).alloc (.cells #[.bool false] 4)) 85 (.slice (some ⟨b, o, none⟩) l.length c)
    simp only [World.size_alloc] at this
    exact this
  generalize ((((W.alloc (.cells #[.func (.yield lr) #[] #[]] 114)).alloc (.cells #[.slice none 0 0] 31)).alloc (.cells #[.bool false] 4)).alloc (.cells #[.slice (some ⟨b, o, none⟩) l.length c] 85)) = w0 at *
  have ncn : ∀ k, W.heap.size ≤ k → Nc Bs k w0 := fun k hk => by
    refine ⟨fun hm => by have := (HE.out.sane _ hm).1; omega, ?_⟩
    rintro ⟨⟨b', n', c', hb', hq⟩, _⟩
    rw [hB0.cell (p := ⟨b', 0, none⟩) (HE.out.sane _ hb').1] at hq
    have := (HE.out.sane _ hb').2 _ _ _ hq
    omega
  have E0 := HE.out.below hB0 h3
  have os0 : OS Bs W.heap.size (W.heap.size + 1) (W.heap.size + 1 + 1) W.heap.size Tp lr (pa, pc) (.slice none 0 0) [] false w0 :=
    ⟨h4, World.ownsRow_nil _ _ _ _, h5, hYb, HP.out.1.below hB0, ncn _ (by omega), ncn _ (by omega), ncn _ (by omega), HP.out.2.below HE.out.sane hB0 HP.out.1.lt, fun g hg => by cases hg⟩
  have hlow : ∀ X : World, w0.heap.size ≤ X.heap.size → ∀ b, b ∈ Bs → b < W.heap.size ∧ b < X.heap.size  := fun X hX b hb => by
    have := (HE.out.sane b hb).1
    omega
  have hno : ∀ k, ¬ ow Bs w0 k → ¬ ow ((W.heap.size + 1) :: (W.heap.size + 1 + 1) :: Bs) w0 k := fun k hk => by
    rintro ⟨⟨B, n', c', hB, hq⟩, r⟩
    simp only [List.mem_cons] at hB
    rcases hB with rfl | rfl | hB
    · rw [h4.cell] at hq; cases hq
    · rw [h5.cell] at hq; cases hq
    · exact hk ⟨⟨B, n', c', hB, hq⟩, r⟩
  have HLOW := Lib.hid hlow
  refine rangeX ((W.heap.size + 1) :: (W.heap.size + 1 + 1) :: Bs) (gf := 103) (lb := #[.pointer (some ⟨W.heap.size + 1 + 1 + 1, 0, none⟩)]) rfl (enters_of Try.func103 (by kernel_rfl) rfl)
    (pointsR_seq (W.heap.size + 1 + 1 + 1) b o c l w0 h3 (by omega) HX.out HD.out htr h33 E0.row hBx) (Below.refl _ _) (fun _ => rfl) (os0.sane (B := 0) E0.sane rfl)
    (fun k hk => by
      rcases hk with rfl | rfl
      · refine ⟨by omega, ?_, hno _ (ncn _ (by omega)).o⟩
        simp only [List.mem_cons, not_or]
        exact ⟨by omega, by omega, (ncn _ (by omega)).b⟩
      · refine ⟨E0.row.lt h3, ?_, hno _ E0.nr.2⟩
        simp only [List.mem_cons, not_or]
        exact ⟨by omega, by omega, E0.nr.1⟩)
    (fun pre X => ∃ v cur, OS Bs W.heap.size (W.heap.size + 1) (W.heap.size + 1 + 1) W.heap.size Tp lr (pa, pc) v (ost (pa, pc) (valsR pre)).1 (ost (pa, pc) (valsR pre)).2.1 X ∧ (valsR cur = (ost (pa, pc) (valsR pre)).2.2 ∧ pre.length ≤ l.length * 2000) ∧ J cur X ∧ (w0.heap.size ≤ X.heap.size ∧ Sane Bs X))
    (fun cc _ X => cc = .ret ∧ ∃ cur, Jx cur X)
    ?bI (fun cc s A C h hc => ⟨h.1, h.2.choose, HJX.out _ _ _ h.2.choose_spec (hc.sub (fun b hb => by simp [hb]) (by omega))⟩)
    ⟨_, [], os0, ⟨rfl, Nat.zero_le _⟩, HJ.out _ _ _ H0.out (Ch.of_below hB0), Nat.le_refl _, E0.sane⟩
    (fun x a' X => ∃ T6, P2 T6 x.1.1 x.1.2 X ∧ a' = { tmps := #[.func (.yield lr) #[] #[], .pointer (some ⟨Be, 0, none⟩), .pointer (some ⟨Tp, 0, none⟩), .pointer (some ⟨W.heap.size, 0, none⟩), .pointer (some ⟨W.heap.size + 1, 0, none⟩), .pointer (some ⟨W.heap.size + 1 + 1, 0, none⟩), .pointer (some ⟨T6, 0, none⟩), undef, undef, .slice (some ⟨b, o, none⟩) l.length c, .func (.func 103) #[] #[.pointer (some ⟨W.heap.size + 1 + 1 + 1, 0, none⟩)], .agg #[.int .i64 x.1.1, .int .i64 x.1.2], undef, undef, undef, undef, undef, undef, undef, undef, undef, undef, undef, undef, undef, undef, undef, undef, undef, undef, undef, undef, undef, undef, undef, undef, undef, undef, undef], defers := [] })
    (fun x a' X k q q' hl ho ho' ⟨T6, h, e⟩ => ⟨T6, h.putObj q' hl ho, e⟩) ?assign ?body ?done ?stop
  case bI =>
    rintro s A C ⟨v, cur, hO, h1, h2, hs, hsB⟩ hc
    have hcB : Ch W.heap.size Bs A C := hc.sub (fun b hb => by simp [hb]) (by omega)
    exact ⟨v, cur, hO.ch hc (fun b hb => by have := HLOW.out _ hs b hb; omega) (by omega) (by omega) (by omega) (by omega), h1, HJ.out _ _ _ h2 hcB, Nat.le_trans hs hc.size, hcB.sane (fun b hb => (HLOW.out _ hs b hb).1) hsB⟩
  case assign =>
    rintro lr' pre x X K ⟨v, cur, hO, h1, h2, hs, _⟩ hsX hK
    unfold encR
    gi_wp2
    have hb1 := bl1 X (.cells #[.int .i64 x.1.1, .int .i64 x.1.2] 32)
    have hsB : Sane Bs X := fun b hb => hsX b (by simp [hb])
    exact hK _ _ (KO.of_below hb1 hsX) ⟨v, cur, hO.below hsB hb1, h1, HJ.out _ _ _ h2 (Ch.of_below hb1), Nat.le_trans hs hb1.size, (KO.of_below (B := 0) hb1 hsB).sane hsB⟩ ⟨X.heap.size, P2.new X _ _, rfl⟩
  case body =>
    rintro lr' pre ⟨⟨xa, xz⟩, hxp⟩ a' X ⟨v, cur, hO, ⟨e1, e1'⟩, hJ0, hs, hsB⟩ hsX ⟨T6, p6, rfl⟩ hlt
    dsimp only at p6 ⊢
    have hln1 := ostR_vals (p := (pa, pc)) (xs := pre) (Nat.le_refl _)
    have HI : Hid (∀ X' v cu s1' mk' s3', ostep (pa, pc) (ost (pa, pc) (valsR pre)) (xa, xz) = (s1', mk', s3') → OS Bs W.heap.size (W.heap.size + 1) (W.heap.size + 1 + 1) W.heap.size Tp lr (pa, pc) v s1' mk' X' → valsR cu = s3' → J cu X' → (w0.heap.size ≤ X'.heap.size ∧ Sane Bs X') →
      ∃ v cur, OS Bs W.heap.size (W.heap.size + 1) (W.heap.size + 1 + 1) W.heap.size Tp lr (pa, pc) v (ost (pa, pc) (valsR (pre ++ [⟨(xa, xz), hxp⟩]))).1 (ost (pa, pc) (valsR (pre ++ [⟨(xa, xz), hxp⟩]))).2.1 X' ∧ (valsR cur = (ost (pa, pc) (valsR (pre ++ [⟨(xa, xz), hxp⟩]))).2.2 ∧ (pre ++ [(⟨(xa, xz), hxp⟩ : Bq9 l)]).length ≤ l.length * 2000) ∧ J cur X' ∧ (w0.heap.size ≤ X'.heap.size ∧ Sane Bs X')) := fun X' v cu s1' mk' s3' h1 h2 h3 h4 h5 => by
        rw [valsR_snoc, ost_snoc, h1]
        exact ⟨v, cu, h2, ⟨h3, by rw [List.length_append]; simp only [List.length_cons, List.length_nil]; omega⟩, h4, h5⟩
    generalize ost (pa, pc) (valsR pre) = st at *
    obtain ⟨s1, mk, s3⟩ := st
    dsimp only at e1 hO hln1
    have hcl : cur.length = s3.length := by rw [← valsR_length, e1]
    obtain ⟨p0, p1⟩ := p6.cells
    obtain ⟨d0, d1⟩ := hO.pp.cells
    dsimp only at d0 d1
    have c5 := hO.b5.cell
    have f5 := hO.b5.frozen
    have c4 := hO.b4.cell
    have f4 := hO.b4.frozen
    have cy := Boxed.cell hO.y
    obtain ⟨vp, vn, vc, rfl⟩ := own_form hO.own
    have hOwn := hO.own
    have HO := Lib.hid hO
    have HP6 := Lib.hid p6
    have HS := Lib.hid (And.intro (And.intro hs hsB) hsX)
    have HC := Lib.hid (And.intro e1 e1')
    have HJ0 := Lib.hid hJ0
    have hcase : ¬ xa = pa ∨ (xa = pa ∧ ¬ xz = pc) ∨ (xa = pa ∧ xz = pc) := by
      by_cases q1 : xa = pa
      · by_cases q2 : xz = pc
        · exact .inr (.inr ⟨q1, q2⟩)
        · exact .inr (.inl ⟨q1, q2⟩)
      · exact .inl q1
    have hX0 : W.heap.size + 4 ≤ X.heap.size := by omega
    have HXL := Lib.hid hX0
    have hbd : s1.length ≤ 2000000 := by omega
    have HOWN : Hid (X.ownsRow W.heap.size 32 2 (.slice vp vn vc) s1.length (cls s1)) := hOwn
    have HCL := Lib.hid (And.intro hcl hlt)
    clear hO p6 hs hsX hsB e1 e1' hJ0 hcl hlt hOwn
    rcases hcase with hne | ⟨rfl, hne⟩ | ⟨rfl, rfl⟩
    · skip
      have HNE : Hid (¬ ((xa, xz) : Pt) = (pa, pc)) := fun e => by
        cases e
        exact hne rfl
      cases mk with
      | false =>
        have HS1 : Hid (ostep (pa, pc) (s1, false, s3) (xa, xz) = (s1 ++ [(xa, xz)], false, s3)) := by show _ = _; unfold ostep; rw [if_neg HNE.out]; rfl
        gi_wp2_with (gi_at_builtin; refine wpListIn_append_own_at _ rfl (.tmp 19) (.tmp 21) 31 rfl W.heap.size 32 i0 (.agg #[.int .i64 0, .int .i64 0]) 2 16 Try.underlying31 hi hz0 hz1 hz2 rfl (by decide) _ _ _ rfl (HOWN.out.alloc _) ⟨X.heap.size, 0, none⟩ 1 1 [.int .i64 xa, .int .i64 xz] rfl rfl two_new (by simp [Value.oneCell']) (by unfold maxLen; omega) (by omega) (by simp; omega) ?_; intro v' w1 hown' hgrow hob; obtain ⟨vp', vn', vc', rfl⟩ := own_form hown'; have H9 := Lib.hid (And.intro hown' (And.intro hgrow hob)); have hb9 := ((HO.out.b4.alloc _).kept hgrow (HO.out.b4.not_row (by decide) HO.out.own)); have c9 := hb9.cell; have f9 := hb9.frozen; clear hown' hgrow hob hb9 c4)
        obtain ⟨hown', hgrow, hob⟩ := H9.out
        have hs' := HLOW.out _ HS.out.1.1
        obtain ⟨os', ch'⟩ := OS.append (B := W.heap.size) (q := (xa, xz)) HO.out HS.out.1.2 hs' (by omega) (Nat.le_refl _) (by omega) (by omega) (by omega) (by omega) (Boxed.not_row HO.out.y (by decide) HO.out.own) (fun e => by have := (own_cells HO.out.own e.symm).1; omega) (by omega) hown' hgrow hob
        refine ⟨KO.appendB (Bs := (W.heap.size + 1) :: (W.heap.size + 1 + 1) :: Bs) HO.out.b4 (by decide) (by simp) (by omega) HOWN.out hown' hgrow hob HS.out.2 (fun b' hb' => ?_), HI.out _ _ cur _ _ _ HS1.out os' HC.out.1 (HJ.out _ _ _ HJ0.out ch') ⟨Nat.le_trans HS.out.1.1 ch'.size, ch'.sane (fun b hb => (hs' b hb).1) HS.out.1.2⟩⟩
        simp only [List.mem_cons] at hb'
        rcases hb' with rfl | rfl | hb'
        · exact HO.out.b4.not_row (by decide) HO.out.own
        · exact HO.out.b5.not_row (by decide) HO.out.own
        · exact fun e => by have := (own_cells HO.out.own e.symm).1; have := (hs' _ hb').1; omega
      
      | true =>
        have HS1 : Hid (ostep (pa, pc) (s1, true, s3) (xa, xz) = (s1, true, s3 ++ [(xa, xz)])) := by show _ = _; unfold ostep; rw [if_neg HNE.out]; rfl
        obtain ⟨fn, tmps, assign, body, hy', hR⟩ := HY.out (n - 1) cur ⟨(xa, xz), hxp⟩ X HJ0.out HS.out.1.2 (by rw [HCL.out.1]; have := HCL.out.2; omega)
        unfold encR at hy'
        dsimp only at hy'
        have HR := Lib.hid hR
        clear hR
        gi_wp2_with fail
        refine ⟨(by first | rfl | (intro h; cases h)), (round_in HR.out).mono ?_⟩
        rintro e W3 hW3
        obtain ⟨bv, rfl, H3⟩ : ∃ bv : Bool, e = .returned (.bool bv) ∧ Hid ((bv = true ∧ J (cur ++ [⟨(xa, xz), hxp⟩]) W3 ∧ KO W.heap.size Bs X W3) ∨ (bv = false ∧ Jx (cur ++ [⟨(xa, xz), hxp⟩]) W3 ∧ KO W.heap.size Bs X W3)) := hW3.elim (fun h => ⟨true, h.1, .inl ⟨rfl, h.2⟩⟩) (fun h => ⟨false, h.1, .inr ⟨rfl, h.2⟩⟩)
        have KO3 : Hid (KO W.heap.size Bs X W3) := H3.out.elim (fun h => h.2.2) (fun h => h.2.2)
        have KOw : Hid (KO w0.heap.size ((W.heap.size + 1) :: (W.heap.size + 1 + 1) :: Bs) X W3) := (KO3.out.mono (by omega)).widen HO.out.b4 HO.out.own HO.out.b5 HO.out.n4 HO.out.n5
        clear hW3 hy' HR p0 p1 d0 d1 c4 c5 f4 f5 cy
        rcases H3.out with ⟨rfl, hj3, -⟩ | ⟨rfl, hx3, -⟩
        · gi_wp2
          exact ⟨KOw.out, HI.out _ _ (cur ++ [⟨(xa, xz), hxp⟩]) _ _ _ HS1.out (HO.out.ko KO3.out) (by rw [valsR_snoc, HC.out.1]) hj3 ⟨Nat.le_trans HS.out.1.1 KO3.out.size, KO3.out.sane HS.out.1.2⟩⟩
        · gi_wp2
          exact ⟨KOw.out, rfl, _, hx3⟩
    · skip
      have HNE : Hid (¬ ((xa, xz) : Pt) = (xa, pc)) := fun e => by
        cases e
        exact hne rfl
      cases mk with
      | false =>
        have HS1 : Hid (ostep (xa, pc) (s1, false, s3) (xa, xz) = (s1 ++ [(xa, xz)], false, s3)) := by show _ = _; unfold ostep; rw [if_neg HNE.out]; rfl
        gi_wp2_with (gi_at_builtin; refine wpListIn_append_own_at _ rfl (.tmp 19) (.tmp 21) 31 rfl W.heap.size 32 i0 (.agg #[.int .i64 0, .int .i64 0]) 2 16 Try.underlying31 hi hz0 hz1 hz2 rfl (by decide) _ _ _ rfl (HOWN.out.alloc _) ⟨X.heap.size, 0, none⟩ 1 1 [.int .i64 xa, .int .i64 xz] rfl rfl two_new (by simp [Value.oneCell']) (by unfold maxLen; omega) (by omega) (by simp; omega) ?_; intro v' w1 hown' hgrow hob; obtain ⟨vp', vn', vc', rfl⟩ := own_form hown'; have H9 := Lib.hid (And.intro hown' (And.intro hgrow hob)); have hb9 := ((HO.out.b4.alloc _).kept hgrow (HO.out.b4.not_row (by decide) HO.out.own)); have c9 := hb9.cell; have f9 := hb9.frozen; clear hown' hgrow hob hb9 c4)
        obtain ⟨hown', hgrow, hob⟩ := H9.out
        have hs' := HLOW.out _ HS.out.1.1
        obtain ⟨os', ch'⟩ := OS.append (B := W.heap.size) (q := (xa, xz)) HO.out HS.out.1.2 hs' (by omega) (Nat.le_refl _) (by omega) (by omega) (by omega) (by omega) (Boxed.not_row HO.out.y (by decide) HO.out.own) (fun e => by have := (own_cells HO.out.own e.symm).1; omega) (by omega) hown' hgrow hob
        refine ⟨KO.appendB (Bs := (W.heap.size + 1) :: (W.heap.size + 1 + 1) :: Bs) HO.out.b4 (by decide) (by simp) (by omega) HOWN.out hown' hgrow hob HS.out.2 (fun b' hb' => ?_), HI.out _ _ cur _ _ _ HS1.out os' HC.out.1 (HJ.out _ _ _ HJ0.out ch') ⟨Nat.le_trans HS.out.1.1 ch'.size, ch'.sane (fun b hb => (hs' b hb).1) HS.out.1.2⟩⟩
        simp only [List.mem_cons] at hb'
        rcases hb' with rfl | rfl | hb'
        · exact HO.out.b4.not_row (by decide) HO.out.own
        · exact HO.out.b5.not_row (by decide) HO.out.own
        · exact fun e => by have := (own_cells HO.out.own e.symm).1; have := (hs' _ hb').1; omega
      
      | true =>
        have HS1 : Hid (ostep (xa, pc) (s1, true, s3) (xa, xz) = (s1, true, s3 ++ [(xa, xz)])) := by show _ = _; unfold ostep; rw [if_neg HNE.out]; rfl
        obtain ⟨fn, tmps, assign, body, hy', hR⟩ := HY.out (n - 1) cur ⟨(xa, xz), hxp⟩ X HJ0.out HS.out.1.2 (by rw [HCL.out.1]; have := HCL.out.2; omega)
        unfold encR at hy'
        dsimp only at hy'
        have HR := Lib.hid hR
        clear hR
        gi_wp2_with fail
        refine ⟨(by first | rfl | (intro h; cases h)), (round_in HR.out).mono ?_⟩
        rintro e W3 hW3
        obtain ⟨bv, rfl, H3⟩ : ∃ bv : Bool, e = .returned (.bool bv) ∧ Hid ((bv = true ∧ J (cur ++ [⟨(xa, xz), hxp⟩]) W3 ∧ KO W.heap.size Bs X W3) ∨ (bv = false ∧ Jx (cur ++ [⟨(xa, xz), hxp⟩]) W3 ∧ KO W.heap.size Bs X W3)) := hW3.elim (fun h => ⟨true, h.1, .inl ⟨rfl, h.2⟩⟩) (fun h => ⟨false, h.1, .inr ⟨rfl, h.2⟩⟩)
        have KO3 : Hid (KO W.heap.size Bs X W3) := H3.out.elim (fun h => h.2.2) (fun h => h.2.2)
        have KOw : Hid (KO w0.heap.size ((W.heap.size + 1) :: (W.heap.size + 1 + 1) :: Bs) X W3) := (KO3.out.mono (by omega)).widen HO.out.b4 HO.out.own HO.out.b5 HO.out.n4 HO.out.n5
        clear hW3 hy' HR p0 p1 d0 d1 c4 c5 f4 f5 cy
        rcases H3.out with ⟨rfl, hj3, -⟩ | ⟨rfl, hx3, -⟩
        · gi_wp2
          exact ⟨KOw.out, HI.out _ _ (cur ++ [⟨(xa, xz), hxp⟩]) _ _ _ HS1.out (HO.out.ko KO3.out) (by rw [valsR_snoc, HC.out.1]) hj3 ⟨Nat.le_trans HS.out.1.1 KO3.out.size, KO3.out.sane HS.out.1.2⟩⟩
        · gi_wp2
          exact ⟨KOw.out, rfl, _, hx3⟩
    · have HS1 : Hid (ostep (xa, xz) (s1, mk, s3) (xa, xz) = (s1, true, s3)) := by show _ = _; unfold ostep; rw [if_pos rfl]
      gi_wp2
      have hs' := HLOW.out _ HS.out.1.1
      have cm : Ch W.heap.size Bs X (X.setCell ⟨W.heap.size + 1 + 1, 0, none⟩ (.bool true)) := Ch.set X _ (by omega) HO.out.n5.o
      exact ⟨KO.set (by simp) (by omega) HO.out.b5.cell (fun a n c h => by cases h), HI.out _ _ cur _ _ _ HS1.out (HO.out.mark hs' (by omega) (by omega) (by omega) (by omega) true) HC.out.1 (HJ.out _ _ _ HJ0.out cm) ⟨Nat.le_trans HS.out.1.1 cm.size, cm.sane (fun b hb => (hs' b hb).1) HS.out.1.2⟩⟩
  case done =>
    rintro D ys X hD hS ⟨v, cur, hO, ⟨e1, e1'⟩, hJ0, hs, hsB⟩ hK
    have HOT : Hid (oth l (pa, pc) = (ost (pa, pc) (valsR ys)).2.2 ++ (ost (pa, pc) (valsR ys)).1) := by show _ = _; unfold oth; rw [hS]
    have HMEM : Hid (∀ q, q ∈ (ost (pa, pc) (valsR ys)).1 → ∃ pk : Bq9 l, pk.1 = q) := fun q hq => by
      have := ost_mem _ _ q hq
      unfold valsR at this
      obtain ⟨pk, _, h⟩ := List.mem_map.1 this
      exact ⟨pk, h⟩
    have hln1 := ostR_vals (p := (pa, pc)) e1'
    clear hS
    generalize ost (pa, pc) (valsR ys) = st at *
    obtain ⟨s1, mk, s3⟩ := st
    dsimp only at hO e1 HOT HMEM hln1
    obtain ⟨vp, vc, rfl, hvp⟩ := hO.own.form2
    obtain ⟨nn, hnn⟩ : ∃ nn, nn = s1.length := ⟨_, rfl⟩
    rw [← hnn] at hO hln1
    have HNN := Lib.hid hnn
    have HVP := Lib.hid hvp
    have c4 := hO.b4.cell
    have hcl : cur.length = s3.length := by rw [← valsR_length, e1]
    have hnb : nn ≤ 2000000 := by omega
    have HLN : Hid (nn + cur.length ≤ l.length * 2000) := by show _ ≤ _; omega
    have H1 : Hid (∃ cu, valsR cu = s3 ++ s1.take 0 ∧ cu.length = cur.length + 0 ∧ J cu X) := ⟨cur, by simp [e1], rfl, hJ0⟩
    have H2 : Hid (OS Bs W.heap.size (W.heap.size + 1) (W.heap.size + 1 + 1) W.heap.size Tp lr (pa, pc) (.slice vp nn vc) s1 mk X ∧ Sane Bs X ∧ X.heap[D]? = some (.deferred (some []))) := ⟨hO, hsB, hK⟩
    clear hO e1 e1' hJ0 hs hsB hK hvp hnn hcl hln1
    gi_wp2
    gi_loopw [30, 8] (fun i _ wr => ∃ k : Nat, k ≤ nn ∧ i = .int .i64 k ∧ Hid (∃ cu, valsR cu = s3 ++ s1.take k ∧ cu.length = cur.length + k ∧ J cu wr) ∧ Hid (OS Bs W.heap.size (W.heap.size + 1) (W.heap.size + 1 + 1) W.heap.size Tp lr (pa, pc) (.slice vp nn vc) s1 mk wr ∧ Sane Bs wr ∧ wr.heap[D]? = some (.deferred (some [])))) (fun i _ _ => nn - (intOf i).toNat)
    case atStart => exact ⟨0, Nat.zero_le _, rfl, H1.out, H2.out⟩
    case round =>
      obtain ⟨k, hk, rfl, HC, HT⟩ := hrel
      clear c4
      by_cases hkt : k < nn
      · obtain ⟨cu, e1, e2, e3⟩ := HC.out
        obtain ⟨hO, hsB, hK⟩ := HT.out
        obtain ⟨g, rfl⟩ := HVP.out (fun e => by have := HNN.out; rw [e] at this; simp at this; omega)
        have hrow : Row wr g 0 s1 := by
          rcases hO.own.row with ⟨h, _⟩ | ⟨g', c', h, hr, _⟩
          · cases h
          · cases h; exact hr
        obtain ⟨ckx, ckz⟩ := hrow k (by rw [← HNN.out]; exact hkt)
        simp only [Nat.zero_add] at ckx ckz
        obtain ⟨pk, hpk⟩ := HMEM.out (px s1 k, pz s1 k) (by
          unfold px pz
          rw [List.getD_eq_getElem?_getD, List.getElem?_eq_getElem (by rw [← HNN.out]; exact hkt)]
          exact List.getElem_mem _)
        have HTK := Lib.hid (take_snoc s1 k (by rw [← HNN.out]; exact hkt))
        have HKT := Lib.hid hkt
        have hb1 := bl1 wr (.cells #[.int .i64 (px s1 k), .int .i64 (pz s1 k)] 32)
        have hsB' := (KO.of_below (B := 0) hb1 hsB).sane hsB
        obtain ⟨fn, tmps, assign, body, hy', hR⟩ := HY.out (n - 1) cu pk _ (HJ.out _ _ _ e3 (Ch.of_below hb1)) hsB' (by rw [e2]; have := HLN.out; omega)
        unfold encR at hy'
        rw [hpk] at hy'
        dsimp only at hy'
        have HPK := Lib.hid hpk
        have HR := Lib.hid hR
        have E1 := Lib.hid (And.intro e1 e2)
        have HT1 := Lib.hid (And.intro (hO.below hsB hb1) (And.intro hsB' ((hb1.block _ (Array.getElem?_eq_some_iff.1 hK).1).trans hK)))
        have cy := Boxed.cell HT1.out.1.y
        clear hR e1 e2 e3 HC hO hsB hK hrow hpk hsB' hb1
        gi_wp2_with fail
        refine ⟨(by first | rfl | (intro h; cases h)), HR.out.mono ?_⟩
        rintro e W3 hW3
        obtain ⟨bv, rfl, H3⟩ : ∃ bv : Bool, e = .returned (.bool bv) ∧ Hid ((bv = true ∧ J (cu ++ [pk]) W3 ∧ KO W.heap.size Bs (wr.alloc (.cells #[.int .i64 (px s1 k), .int .i64 (pz s1 k)] 32)) W3) ∨ (bv = false ∧ Jx (cu ++ [pk]) W3 ∧ KO W.heap.size Bs (wr.alloc (.cells #[.int .i64 (px s1 k), .int .i64 (pz s1 k)] 32)) W3)) := hW3.elim (fun h => ⟨true, h.1, .inl ⟨rfl, h.2⟩⟩) (fun h => ⟨false, h.1, .inr ⟨rfl, h.2⟩⟩)
        have KO3 : Hid (KO W.heap.size Bs (wr.alloc (.cells #[.int .i64 (px s1 k), .int .i64 (pz s1 k)] 32)) W3) := H3.out.elim (fun h => h.2.2) (fun h => h.2.2)
        have HT3 : Hid (OS Bs W.heap.size (W.heap.size + 1) (W.heap.size + 1 + 1) W.heap.size Tp lr (pa, pc) (.slice (some ⟨g, 0, none⟩) nn vc) s1 mk W3 ∧ Sane Bs W3 ∧ W3.heap[D]? = some (.deferred (some []))) :=
          ⟨HT1.out.1.ko KO3.out, KO3.out.sane HT1.out.2.1, KO3.out.objs _ _ (by omega) (fun ho => by obtain ⟨_, cur', U, u, hu⟩ := ho; rw [HT1.out.2.2] at hu; cases hu) HT1.out.2.2⟩
        clear hW3 hy' HR ckx ckz cy
        rcases H3.out with ⟨rfl, hj3, -⟩ | ⟨rfl, hx3, -⟩
        · gi_wp2
          go_roundw
          case rel => exact ⟨k + 1, by have := HKT.out; omega, by go_num, ⟨cu ++ [pk], by rw [valsR_snoc, E1.out.1, HPK.out, HTK.out, List.append_assoc], by rw [List.length_append, E1.out.2]; rfl, hj3⟩, HT3.out⟩
          case measure =>
            have e9 : ((k : Int) + 1).toNat = k + 1 := by omega
            simp only [intOf, Int.toNat_natCast, e9]
            have := HKT.out
            omega
        · have hK := HT3.out.2.2
          have hJ' := HJX.out _ _ _ hx3 (ch_putObj (.deferred none) hK rfl (by omega))
          gi_wp2
          refine ⟨by simp, .inl ⟨_, _, rfl, run_takeDeferred hK, ?_⟩⟩
          exact ⟨_, results_none rfl _ _ _, ⟨_, rfl⟩, .inr ⟨_, hJ'⟩⟩
      · obtain rfl : k = nn := by omega
        obtain ⟨cu, e1, e2, e3⟩ := HC.out
        have hK := HT.out.2.2
        have hJ' := HJ.out _ _ _ e3 (ch_putObj (.deferred none) hK rfl (by omega))
        have EE : Hid (valsR cu = oth l (pa, pc)) := by
          show _ = _
          rw [e1, HOT.out, List.take_of_length_le (by rw [HNN.out]; exact Nat.le_refl _)]
        clear e1 e2 e3
        gi_wp2
        refine ⟨by simp, .inl ⟨_, _, rfl, run_takeDeferred hK, ?_⟩⟩
        exact ⟨_, results_none rfl _ _ _, ⟨_, rfl⟩, .inl ⟨cu, EE.out, hJ'⟩⟩
  case stop =>
    rintro D cc pre X hD ⟨rfl, cur, h⟩ hK
    have hJ' := HJX.out _ _ _ h (ch_putObj (.deferred none) hK rfl (by omega))
    gi_wp2
    refine ⟨by simp, .inl ⟨_, _, rfl, run_takeDeferred hK, ?_⟩⟩
    exact ⟨_, results_none rfl _ _ _, ⟨_, rfl⟩, .inr ⟨cur, hJ'⟩⟩
theorem othersR_seq (Be Tp b o c : Nat) (l : List Pt) (p : Pt) (w0 : World) (h3 : 0 < l.length) (h12 : l.length ≤ 1000) (hx : Bx l)
    (hd : ∀ i, i < l.length → ¬ (px l (nx l.length i) = px l i ∧ pz l (nx l.length i) = pz l i)) (htr : Tr l) (h33 : 3 ≤ l.length) (hr : Row w0 b o l) (hb : Boxed w0 Be 85 (.slice (some ⟨b, o, none⟩) l.length c)) (hp : P2 Tp p.1 p.2 w0) :
    SeqX (α := Bq9 l) Try.prog 117 #[.pointer (some ⟨Be, 0, none⟩), .pointer (some ⟨Tp, 0, none⟩)] encR (fun k => k = Be ∨ k = b ∨ k = Tp) (fun xs => valsR xs = oth l p) (l.length * 2000) w0 := fun n lr Bs J Jx W hW hs hpv hJ hJx hY h0 =>
  others1R n lr Bs Be Tp b o c l p h3 h12 hx hd htr h33 J Jx W hJ hJx hY ⟨hr.keep hW, (hW.block Be hb.lt).trans hb, hs, hpv Be (.inl rfl), hpv b (.inr (.inl rfl))⟩ (hp.below hW) ⟨(hpv Tp (.inr (.inr rfl))).1, (hpv Tp (.inr (.inr rfl))).2⟩ h0
set_option maxHeartbeats 8000000 in
theorem outcomes1R (n lr : Nat) (Bs : List Nat) (Bst Tp Tt b o c : Nat) (nm : ByteArray) (l : List Pt) (dp dn gx gz : Int) (p : Pt) (t : Int) (h3 : 0 < l.length) (h12 : l.length ≤ 1000) (hx : Bx l)
    (hd : ∀ i, i < l.length → ¬ (px l (nx l.length i) = px l i ∧ pz l (nx l.length i) = pz l i)) (htr : Tr l) (h33 : 3 ≤ l.length)
    (hg1 : -100 ≤ gx ∧ gx ≤ 100) (hg2 : -100 ≤ gz ∧ gz ≤ 100) (hpb : (0 ≤ p.1 ∧ p.1 ≤ 2000) ∧ (0 ≤ p.2 ∧ p.2 ≤ 2000)) (ht : 0 ≤ t ∧ t ≤ 1000)
    (J Jx : List (Bq9 l) → World → Prop) (W : World) (hJ : Bears W.heap.size Bs J) (hJx : Bears W.heap.size Bs Jx)
    (hY : ∀ m pre x W1, J pre W1 → Sane Bs W1 → pre.length < l.length * 2000 → YieldAt Fence.wide m Try.prog lr (encR x) W1 fun e W' =>
      (e = .returned (.bool true) ∧ J (pre ++ [x]) W' ∧ KO W.heap.size Bs W1 W') ∨ (e = .returned (.bool false) ∧ Jx (pre ++ [x]) W' ∧ KO W.heap.size Bs W1 W'))
    (hs : Sane Bs W) (hst : Blk Bst #[.string nm, .slice (some ⟨b, o, none⟩) l.length c, .int .i64 dp, .int .i64 dn, .int .i64 gx, .int .i64 gz] 34 W) (hpp : P2 Tp p.1 p.2 W) (htt : Blk Tt #[.int .i64 t] 3 W) (hr : Row W b o l)
    (nst : Nc Bs Bst W) (np : Nc Bs Tp W) (nt : Nc Bs Tt W) (nr : Nc Bs b W) (h0 : J [] W) :
    CallsIn Fence.wide n Try.prog 107 #[.func (.yield lr) #[] #[], .pointer (some ⟨Bst, 0, none⟩), .pointer (some ⟨Tp, 0, none⟩), .pointer (some ⟨Tt, 0, none⟩)] W fun e W' => (∃ v, e = .returned v) ∧ ((∃ xs, valsR xs = outc l gx gz p t ∧ J xs W') ∨ (∃ pre, Jx pre W')) := by
  obtain ⟨pa, pc⟩ := p
  dsimp only at hpp hpb
  have HJ := Lib.hid hJ; have HJX := Lib.hid hJx; have HY := Lib.hid hY; have HS := Lib.hid hs; have H0 := Lib.hid h0; have HX := Lib.hid hx; have HD := Lib.hid hd
  have HP := Lib.hid (And.intro hst (And.intro hpp (And.intro htt hr)))
  have HN := Lib.hid (And.intro nst (And.intro np (And.intro nt nr)))
  have HG := Lib.hid (And.intro hg1 (And.intro hg2 (And.intro hpb ht)))
  have hlst := hst.lt
  have hlp := hpp.lt
  have hlt' := htt.lt
  have hlr := hr.lt h3
  have hn1 : Below W.heap.size W (W.alloc (.cells #[.func (.yield lr) #[] #[]] 114)) := bl1 W _
  have hn2 : Below W.heap.size W ((W.alloc (.cells #[.func (.yield lr) #[] #[]] 114)).alloc (.cells #[.slice (some ⟨b, o, none⟩) l.length c] 85)) := bl2 W _ _
  have cs1 := Blk.cell (i := 1) (hst.below hn1) rfl
  obtain ⟨cp0, cp1⟩ := (hpp.below hn2).cells
  clear hJ hJx hY hs h0 hx hd hst hpp htt hr nst np nt nr hn1 hn2 hg1 hg2 hpb ht
  refine callsIn_of_wp_marks Try.func107 rfl trivial ?_ rfl
  simp only [Try.ntmps107, List.size_toArray, List.length_cons, List.length_nil, Nat.reduceAdd, Nat.reduceSub, Array.replicate_succ, Array.replicate_zero, List.push_toArray, List.append_toArray, List.nil_append, List.cons_append]
  gi_wp2_with fail
  refine ⟨trivial, (fun h => by cases h), ?_⟩
  refine (callsIn_wide.2 (othersv_any _ _ _ _ _ _)).mono ?_
  rintro e w' ⟨rfl, rfl⟩
  gi_wp2
  have hB0 : Below W.heap.size W ((((W.alloc (.cells #[.func (.yield lr) #[] #[]] 114)).alloc (.cells #[.slice (some ⟨b, o, none⟩) l.length c] 85)).alloc (.cells #[.slice (some ⟨b, o, none⟩) l.length c] 85)).alloc (.cells #[.int .i64 pa, .int .i64 pc] 32)) := (bl3 W _ _ _).alloc (by simp; omega) _
  have hsz : ((((W.alloc (.cells #[.func (.yield lr) #[] #[]] 114)).alloc (.cells #[.slice (some ⟨b, o, none⟩) l.length c] 85)).alloc (.cells #[.slice (some ⟨b, o, none⟩) l.length c] 85)).alloc (.cells #[.int .i64 pa, .int .i64 pc] 32)).heap.size = W.heap.size + 4 := by simp
  have hYb : Yb W.heap.size lr ((((W.alloc (.cells #[.func (.yield lr) #[] #[]] 114)).alloc (.cells #[.slice (some ⟨b, o, none⟩) l.length c] 85)).alloc (.cells #[.slice (some ⟨b, o, none⟩) l.length c] 85)).alloc (.cells #[.int .i64 pa, .int .i64 pc] 32)) := (((Boxed.new W 114 (.func (.yield lr) #[] #[])).alloc _).alloc _).alloc _
  have hSh : Blk (W.heap.size + 1) #[.slice (some ⟨b, o, none⟩) l.length c] 85 ((((W.alloc (.cells #[.func (.yield lr) #[] #[]] 114)).alloc (.cells #[.slice (some ⟨b, o, none⟩) l.length c] 85)).alloc (.cells #[.slice (some ⟨b, o, none⟩) l.length c] 85)).alloc (.cells #[.int .i64 pa, .int .i64 pc] 32)) := by
    have := Blk.new (W.alloc (.cells #[.func (.yield lr) #[] #[]] 114)) #[.slice (some ⟨b, o, none⟩) l.length c] 85
    rw [World.size_alloc] at this
    exact (this.alloc _).alloc _
  have hBx : Boxed ((((W.alloc (.cells #[.func (.yield lr) #[] #[]] 114)).alloc (.cells #[.slice (some ⟨b, o, none⟩) l.length c] 85)).alloc (.cells #[.slice (some ⟨b, o, none⟩) l.length c] 85)).alloc (.cells #[.int .i64 pa, .int .i64 pc] 32)) (W.heap.size + 1 + 1) 85 (.slice (some ⟨b, o, none⟩) l.length c) := by
    have := Boxed.new ((W.alloc (.cells #[.func (.yield lr) #[] #[]] 114)).alloc (.cells #[.slice (some ⟨b, o, none⟩) l.length c] 85)) 85 (.slice (some ⟨b, o, none⟩) l.length c)
    simp only [World.size_alloc] at this
    exact this.alloc _
  have hPx : P2 (W.heap.size + 1 + 1 + 1) pa pc ((((W.alloc (.cells #[.func (.yield lr) #[] #[]] 114)).alloc (.cells #[.slice (some ⟨b, o, none⟩) l.length c] 85)).alloc (.cells #[.slice (some ⟨b, o, none⟩) l.length c] 85)).alloc (.cells #[.int .i64 pa, .int .i64 pc] 32)) := by
    have := P2.new (((W.alloc (.cells #[.func (.yield lr) #[] #[]] 114)).alloc (.cells #[.slice (some ⟨b, o, none⟩) l.length c] 85)).alloc (.cells #[.slice (some ⟨b, o, none⟩) l.length c] 85)) pa pc
    simp only [World.size_alloc] at this
    exact this
  generalize ((((W.alloc (.cells #[.func (.yield lr) #[] #[]] 114)).alloc (.cells #[.slice (some ⟨b, o, none⟩) l.length c] 85)).alloc (.cells #[.slice (some ⟨b, o, none⟩) l.length c] 85)).alloc (.cells #[.int .i64 pa, .int .i64 pc] 32)) = w0 at *
  have ncn : ∀ k, W.heap.size ≤ k → Nc Bs k w0 := fun k hk => by
    refine ⟨fun hm => by have := (HS.out _ hm).1; omega, ?_⟩
    rintro ⟨⟨b', n', c', hb', hq⟩, _⟩
    rw [hB0.cell (p := ⟨b', 0, none⟩) (HS.out _ hb').1] at hq
    have := (HS.out _ hb').2 _ _ _ hq
    omega
  have hS0 := (KO.of_below (B := 0) hB0 HS.out).sane HS.out
  have ot0 : OT Bs W.heap.size lr Bst Tp Tt b o c nm l dp dn gx gz (pa, pc) t w0 :=
    ⟨hYb, hSh, HP.out.1.below hB0, HP.out.2.1.below hB0, HP.out.2.2.1.below hB0, HP.out.2.2.2.below hB0, ncn _ (by omega), ncn _ (by omega), HN.out.1.below HS.out hB0 hlst, HN.out.2.1.below HS.out hB0 hlp, HN.out.2.2.1.below HS.out hB0 hlt', HN.out.2.2.2.below HS.out hB0 hlr⟩
  have hlow : ∀ X : World, w0.heap.size ≤ X.heap.size → ∀ b, b ∈ Bs → b < W.heap.size ∧ b < X.heap.size := fun X hX b hb => by
    have := (HS.out b hb).1
    omega
  have HLOW := Lib.hid hlow
  refine rangeX Bs (gf := 117) (lb := #[.pointer (some ⟨W.heap.size + 1 + 1, 0, none⟩), .pointer (some ⟨W.heap.size + 1 + 1 + 1, 0, none⟩)]) rfl (enters_of Try.func117 (by kernel_rfl) rfl)
    (othersR_seq (W.heap.size + 1 + 1) (W.heap.size + 1 + 1 + 1) b o c l (pa, pc) w0 h3 h12 HX.out HD.out htr h33 ot0.row hBx hPx) (Below.refl _ _) (fun _ => rfl) hS0
    (fun k hk => by
      rcases hk with rfl | rfl | rfl
      · exact ⟨by omega, (ncn _ (by omega)).b, (ncn _ (by omega)).o⟩
      · exact ⟨ot0.row.lt h3, ot0.nr.b, ot0.nr.o⟩
      · exact ⟨by omega, (ncn _ (by omega)).b, (ncn _ (by omega)).o⟩)
    (fun pre X => (∃ cur, valsR cur = (valsR pre).filter (okq l gx gz (pa, pc) t) ∧ cur.length ≤ pre.length ∧ J cur X) ∧ OT Bs W.heap.size lr Bst Tp Tt b o c nm l dp dn gx gz (pa, pc) t X ∧ w0.heap.size ≤ X.heap.size)
    (fun cc _ X => cc = .ret ∧ ∃ cur, Jx cur X)
    ?bI (fun cc s A C h hc => ⟨h.1, h.2.choose, HJX.out _ _ _ h.2.choose_spec (hc.mono (by omega))⟩)
    ⟨⟨[], rfl, Nat.zero_le _, HJ.out _ _ _ H0.out (Ch.of_below hB0)⟩, ot0, Nat.le_refl _⟩
    (fun x a' X => ∃ T6, P2 T6 x.1.1 x.1.2 X ∧ a' = { tmps := #[.func (.yield lr) #[] #[], .pointer (some ⟨Bst, 0, none⟩), .pointer (some ⟨Tp, 0, none⟩), .pointer (some ⟨Tt, 0, none⟩), .pointer (some ⟨W.heap.size, 0, none⟩), .pointer (some ⟨W.heap.size + 1, 0, none⟩), .pointer (some ⟨T6, 0, none⟩), .pointer (some ⟨Bst, 1, none⟩), .slice (some ⟨b, o, none⟩) l.length c, .slice (some ⟨b, o, none⟩) l.length c, .agg #[.int .i64 pa, .int .i64 pc], .func (.func 117) #[] #[.pointer (some ⟨W.heap.size + 1 + 1, 0, none⟩), .pointer (some ⟨W.heap.size + 1 + 1 + 1, 0, none⟩)], .agg #[.int .i64 x.1.1, .int .i64 x.1.2], undef, undef, undef, undef, undef, undef, undef, undef, undef, undef, undef, undef, undef, undef, undef, undef, undef], defers := [] })
    (fun x a' X k q q' hl ho ho' ⟨T6, h, e⟩ => ⟨T6, h.putObj q' hl ho, e⟩) ?assign ?body ?done ?stop
  case bI =>
    rintro s A C ⟨⟨cur, e1, e2, h2⟩, hO, hs⟩ hc
    exact ⟨⟨cur, e1, e2, HJ.out _ _ _ h2 (hc.mono (by omega))⟩, hO.ch hc h3 (fun b hb => by have := HLOW.out _ hs b hb; omega) (by omega) (by omega) (by omega) (by omega) (by omega), Nat.le_trans hs hc.size⟩
  case assign =>
    rintro lr' pre x X K ⟨⟨cur, e1, e2, h2⟩, hO, hs⟩ hsX hK
    unfold encR
    gi_wp2
    have hb1 := bl1 X (.cells #[.int .i64 x.1.1, .int .i64 x.1.2] 32)
    exact hK _ _ (KO.of_below hb1 hsX) ⟨⟨cur, e1, e2, HJ.out _ _ _ h2 (Ch.of_below hb1)⟩, hO.ko (KO.of_below (B := 0) hb1 hsX) h3, Nat.le_trans hs hb1.size⟩ ⟨X.heap.size, P2.new X _ _, rfl⟩
  case body =>
    rintro lr' pre ⟨⟨xa, xz⟩, hxp⟩ a' X ⟨⟨cur, e1, e2, hJ0⟩, hO, hs⟩ hsX ⟨T6, p6, rfl⟩ hlt
    dsimp only at p6 hxp ⊢
    have HI : Hid (∀ X' cu (r : Bool), okq l gx gz (pa, pc) t (xa, xz) = r → valsR cu = valsR cur ++ (if r then [(xa, xz)] else []) → cu.length ≤ cur.length + 1 → J cu X' → OT Bs W.heap.size lr Bst Tp Tt b o c nm l dp dn gx gz (pa, pc) t X' → w0.heap.size ≤ X'.heap.size →
      (∃ cur, valsR cur = (valsR (pre ++ [⟨(xa, xz), hxp⟩])).filter (okq l gx gz (pa, pc) t) ∧ cur.length ≤ (pre ++ [(⟨(xa, xz), hxp⟩ : Bq9 l)]).length ∧ J cur X') ∧ OT Bs W.heap.size lr Bst Tp Tt b o c nm l dp dn gx gz (pa, pc) t X' ∧ w0.heap.size ≤ X'.heap.size) := fun X' cu r hr hv hl hj ho hz => by
        refine ⟨⟨cu, ?_, by rw [List.length_append]; simp only [List.length_cons, List.length_nil]; omega, hj⟩, ho, hz⟩
        rw [hv, valsR_snoc, List.filter_append, e1]
        congr 1
        cases r with
        | true => rw [List.filter_cons_of_pos hr]; rfl
        | false => rw [List.filter_cons_of_neg (by simp [hr])]; rfl
    have HOK : Hid (okq l gx gz (pa, pc) t (xa, xz) = (agr gx gz pa pc xa xz t && canB l (pa, pc) (xa, xz))) := rfl
    have HA := Lib.hid (fun V => alongGrain_any nm (some ⟨b, o, none⟩) l.length c dp dn gx gz pa pc xa xz t V HG.out.1 HG.out.2.1 HG.out.2.2.1.1 HG.out.2.2.1.2 (hxp.bd HX.out).1 (hxp.bd HX.out).2 HG.out.2.2.2)
    have HCC : Hid (∀ V, Below X.heap.size X V → Calls Try.prog 76 #[.slice (some ⟨b, o, none⟩) l.length c, .agg #[.int .i64 pa, .int .i64 pc], .agg #[.int .i64 xa, .int .i64 xz]] V (PBt (CanC l pa pc xa xz) V)) := fun V hV => canCut_any b o c l pa pc xa xz V (hO.row.keep hV) h3 h12 HX.out
    have HCB := Lib.hid (canB_iff l (pa, pc) (xa, xz))
    obtain ⟨p0, p1⟩ := p6.cells
    obtain ⟨d0, d1⟩ := hO.pp.cells
    dsimp only at d0 d1
    have s0 := Blk.cell (i := 0) hO.st rfl
    have s1 := Blk.cell (i := 1) hO.st rfl
    have s2 := Blk.cell (i := 2) hO.st rfl
    have s3 := Blk.cell (i := 3) hO.st rfl
    have s4 := Blk.cell (i := 4) hO.st rfl
    have s5 := Blk.cell (i := 5) hO.st rfl
    have ct := Blk.cell (i := 0) hO.tt rfl
    have HO := Lib.hid hO
    have HP6 := Lib.hid p6
    have HSX := Lib.hid (And.intro hs hsX)
    have HJ0 := Lib.hid hJ0
    have HL := Lib.hid (And.intro e2 hlt)
    have HXP := Lib.hid hxp
    generalize agr gx gz pa pc xa xz t = ra at *
    clear hO p6 hs hsX e1 e2 hJ0 hlt
    gi_wp2_with fail
    refine ⟨trivial, (by first | rfl | (intro h; cases h)), ?_⟩
    refine (CallsIn.inRound _ (callsIn_wide.2 (HA.out _))).mono ?_
    rintro e w2 ⟨rfl, hb⟩
    have k2 := Lib.hid hb
    clear hb p0 p1 d0 d1 s0 s1 s2 s3 s4 s5 ct
    cases ra with
    | false =>
      gi_wp2
      refine ⟨trivial, ?_⟩
      gi_wp2
      refine ⟨(fun _ h => by cases h), ?_⟩
      gi_wp2
      exact ⟨KO.of_below k2.out HSX.out.2, HI.out _ cur false (by rw [HOK.out]; rfl) (by simp) (by omega) (HJ.out _ _ _ HJ0.out (Ch.of_below k2.out)) (HO.out.ko (KO.of_below (B := 0) k2.out HSX.out.2) h3) (Nat.le_trans HSX.out.1 k2.out.size)⟩
    | true =>
      have HO2 := Lib.hid (HO.out.ko (KO.of_below (B := 0) k2.out HSX.out.2) h3)
      obtain ⟨p0, p1⟩ := (HP6.out.below k2.out).cells
      obtain ⟨d0, d1⟩ := HO2.out.pp.cells
      dsimp only at d0 d1
      have c5 := Blk.cell (i := 0) HO2.out.sh rfl
      gi_wp2_with fail
      refine ⟨trivial, (by first | rfl | (intro h; cases h)), ?_⟩
      refine (CallsIn.inRound _ (callsIn_wide.2 (HCC.out _ k2.out))).mono ?_
      rintro e w3 ⟨⟨rc, rfl, hrc⟩, hb3⟩
      have k3 := Lib.hid (Below.thru k2.out k2.out.size hb3)
      have HRC := Lib.hid (hrc.trans HCB.out.symm)
      clear hb3 p0 p1 d0 d1 c5 hrc
      cases rc with
      | false =>
        gi_wp2
        refine ⟨(fun _ h => by cases h), ?_⟩
        gi_wp2
        exact ⟨KO.of_below k3.out HSX.out.2, HI.out _ cur false (by rw [HOK.out, show canB l (pa, pc) (xa, xz) = false by have := HRC.out; simpa using this]; rfl) (by simp) (by omega) (HJ.out _ _ _ HJ0.out (Ch.of_below k3.out)) (HO.out.ko (KO.of_below (B := 0) k3.out HSX.out.2) h3) (Nat.le_trans HSX.out.1 k3.out.size)⟩
      | true =>
        have KO0 := Lib.hid (KO.of_below (B := W.heap.size) k3.out HSX.out.2)
        have HO3 := Lib.hid (HO.out.ko KO0.out h3)
        have HS3 := Lib.hid (KO0.out.sane HSX.out.2)
        obtain ⟨p0, p1⟩ := (HP6.out.below k3.out).cells
        have cy := Boxed.cell HO3.out.y
        obtain ⟨fn, tmps, assign, body, hy', hR⟩ := HY.out (n - 1) cur ⟨(xa, xz), HXP.out⟩ w3 (HJ.out _ _ _ HJ0.out (Ch.of_below k3.out)) HS3.out (by have := HL.out; omega)
        unfold encR at hy'
        dsimp only at hy'
        have HR := Lib.hid hR
        clear hR
        gi_wp2_with fail
        refine ⟨(by first | rfl | (intro h; cases h)), (round_in HR.out).mono ?_⟩
        rintro e W3 hW3
        obtain ⟨bv, rfl, H3⟩ : ∃ bv : Bool, e = .returned (.bool bv) ∧ Hid ((bv = true ∧ J (cur ++ [⟨(xa, xz), hxp⟩]) W3 ∧ KO W.heap.size Bs w3 W3) ∨ (bv = false ∧ Jx (cur ++ [⟨(xa, xz), hxp⟩]) W3 ∧ KO W.heap.size Bs w3 W3)) := hW3.elim (fun h => ⟨true, h.1, .inl ⟨rfl, h.2⟩⟩) (fun h => ⟨false, h.1, .inr ⟨rfl, h.2⟩⟩)
        have KO3 : Hid (KO W.heap.size Bs w3 W3) := H3.out.elim (fun h => h.2.2) (fun h => h.2.2)
        have KOa : Hid (KO w0.heap.size Bs X W3) := ((KO0.out.trans KO3.out).mono (by omega))
        have HRT : Hid (okq l gx gz (pa, pc) t (xa, xz) = true) := by show _ = _; rw [HOK.out, show canB l (pa, pc) (xa, xz) = true by have := HRC.out; simpa using this]; rfl
        clear hW3 hy' HR p0 p1 cy
        rcases H3.out with ⟨rfl, hj3, -⟩ | ⟨rfl, hx3, -⟩
        · gi_wp2
          exact ⟨KOa.out, HI.out _ (cur ++ [⟨(xa, xz), hxp⟩]) true HRT.out (by rw [valsR_snoc]; rfl) (by rw [List.length_append]; exact Nat.le_refl _) hj3 (HO3.out.ko KO3.out h3) (Nat.le_trans (Nat.le_trans HSX.out.1 k3.out.size) KO3.out.size)⟩
        · gi_wp2
          exact ⟨KOa.out, rfl, _, hx3⟩
  case done =>
    rintro D ys X hD hS ⟨⟨cur, e1, e2, h2⟩, hO, hs⟩ hK
    have EE : Hid (valsR cur = outc l gx gz (pa, pc) t) := by
      show _ = _
      rw [e1, hS]; rfl
    have hJ' := HJ.out _ _ _ h2 (ch_putObj (.deferred none) hK rfl (by omega))
    clear e1 e2 hS h2 hO
    gi_wp2
    refine ⟨by simp, .inl ⟨_, _, rfl, run_takeDeferred hK, ?_⟩⟩
    exact ⟨_, results_none rfl _ _ _, ⟨_, rfl⟩, .inl ⟨cur, EE.out, hJ'⟩⟩
  case stop =>
    rintro D cc pre X hD ⟨rfl, cur, h⟩ hK
    have hJ' := HJX.out _ _ _ h (ch_putObj (.deferred none) hK rfl (by omega))
    gi_wp2
    refine ⟨by simp, .inl ⟨_, _, rfl, run_takeDeferred hK, ?_⟩⟩
    exact ⟨_, results_none rfl _ _ _, ⟨_, rfl⟩, .inr ⟨cur, hJ'⟩⟩
theorem outcomesR_seq (Bst Tp Tt b o c : Nat) (nm : ByteArray) (l : List Pt) (dp dn gx gz : Int) (p : Pt) (t : Int) (w0 : World) (h3 : 0 < l.length) (h12 : l.length ≤ 1000) (hx : Bx l)
    (hd : ∀ i, i < l.length → ¬ (px l (nx l.length i) = px l i ∧ pz l (nx l.length i) = pz l i)) (htr : Tr l) (h33 : 3 ≤ l.length)
    (hg1 : -100 ≤ gx ∧ gx ≤ 100) (hg2 : -100 ≤ gz ∧ gz ≤ 100) (hpb : (0 ≤ p.1 ∧ p.1 ≤ 2000) ∧ (0 ≤ p.2 ∧ p.2 ≤ 2000)) (ht : 0 ≤ t ∧ t ≤ 1000)
    (hst : Blk Bst #[.string nm, .slice (some ⟨b, o, none⟩) l.length c, .int .i64 dp, .int .i64 dn, .int .i64 gx, .int .i64 gz] 34 w0) (hpp : P2 Tp p.1 p.2 w0) (htt : Blk Tt #[.int .i64 t] 3 w0) (hr : Row w0 b o l) :
    SeqX (α := Bq9 l) Try.prog 107 #[.pointer (some ⟨Bst, 0, none⟩), .pointer (some ⟨Tp, 0, none⟩), .pointer (some ⟨Tt, 0, none⟩)] encR (fun k => k = Bst ∨ k = Tp ∨ k = Tt ∨ k = b) (fun xs => valsR xs = outc l gx gz p t) (l.length * 2000) w0 := fun n lr Bs J Jx W hW hs hpv hJ hJx hY h0 => by
  have nc : ∀ k, (k = Bst ∨ k = Tp ∨ k = Tt ∨ k = b) → Nc Bs k W := fun k hk => ⟨(hpv k hk).1, (hpv k hk).2⟩
  exact outcomes1R n lr Bs Bst Tp Tt b o c nm l dp dn gx gz p t h3 h12 hx hd htr h33 hg1 hg2 hpb ht J Jx W hJ hJx hY hs (hst.below hW) (hpp.below hW) (htt.below hW) (hr.keep hW) (nc _ (.inl rfl)) (nc _ (.inr (.inl rfl))) (nc _ (.inr (.inr (.inl rfl)))) (nc _ (.inr (.inr (.inr rfl)))) h0
end Go.Proofs.Ytljmhejljpfaiaa
namespace Go.Proofs.Ytljmhejljpfaiaa
set_option maxRecDepth 100000
open Go.RowKit Go.Shelf
attribute [local go_sem] Oper.semAt_some

/-! the program's Sure -/
/-- the least so far, 0 where there is none yet -/
def lev (f : Pt → Int) (L : List Pt) : Int := if L = [] then 0 else sur f L L.length
theorem sur_app (f : Pt → Int) (L : List Pt) (q : Pt) : ∀ k, k ≤ L.length → sur f (L ++ [q]) k = sur f L k
  | 0, _ => rfl
  | k + 1, hk => by
    have e : (L ++ [q]).getD k (0, 0) = L.getD k (0, 0) := by
      simp only [List.getD_eq_getElem?_getD]
      rw [List.getElem?_append_left (by omega)]
    unfold sur px pz
    rw [sur_app f L q k (by omega), e]
theorem sur_nn {f : Pt → Int} {L : List Pt} (hf : ∀ p, 0 ≤ f p) : ∀ k, 0 < k → 0 ≤ sur f L k
  | k + 1, _ => by
    unfold sur
    split
    · exact hf _
    · rename_i h
      have : ¬ sur f L k < 0 := fun q => h (.inl q)
      omega
theorem lev_snoc {f : Pt → Int} (hf : ∀ p, 0 ≤ f p) (L : List Pt) (q : Pt) : lev f (L ++ [q]) = if L = [] ∨ f q < lev f L then f q else lev f L := by
  have e : px (L ++ [q]) L.length = q.1 ∧ pz (L ++ [q]) L.length = q.2 := by unfold px pz; simp
  have h : lev f (L ++ [q]) = sur f (L ++ [q]) (L.length + 1) := by
    unfold lev
    rw [if_neg (by simp)]
    simp
  rw [h]
  show (if sur f (L ++ [q]) L.length < 0 ∨ f (px (L ++ [q]) L.length, pz (L ++ [q]) L.length) < sur f (L ++ [q]) L.length then f (px (L ++ [q]) L.length, pz (L ++ [q]) L.length) else sur f (L ++ [q]) L.length) = _
  rw [sur_app f L q _ (Nat.le_refl _), e.1, e.2]
  cases L with
  | nil => rfl
  | cons a L =>
    have hn := sur_nn (L := a :: L) hf (a :: L).length (by simp)
    have e2 : lev f (a :: L) = sur f (a :: L) (a :: L).length := by unfold lev; rw [if_neg (by simp)]
    rw [e2]
    by_cases hq : f q < sur f (a :: L) (a :: L).length
    · rw [if_pos (.inr hq), if_pos (.inr hq)]
    · rw [if_neg (fun h => h.elim (fun h => by omega) hq), if_neg (fun h => h.elim (fun h => by cases h) hq)]
/-- is there one? -/
def fnd (L : List Pt) : Bool := !L.isEmpty
/-- what Sure hands back -/
def PSu (s : SV) (x z t : Int) (w : World) (e : Ending) (w' : World) : Prop :=
  (∃ n er0 er : Int, e = .returned (.tuple #[.int .i64 n, .int .i64 er]) ∧ BlowE s x z t er0 ∧ ((er0 ≠ 0 ∧ er = er0 ∧ n = 0) ∨ (er0 = 0 ∧ outc s.l s.gx s.gz (x, z) t = [] ∧ er = 8 ∧ n = 0) ∨
    (er0 = 0 ∧ outc s.l s.gx s.gz (x, z) t ≠ [] ∧ er = 0 ∧ n = sur (grP s.l (x, z)) (outc s.l s.gx s.gz (x, z) t) (outc s.l s.gx s.gz (x, z) t).length))) ∧ Below w.heap.size w w'
/-- what the loop of Sure holds -/
structure SI (T9 T10 T11 T12 Tp b o c : Nat) (l : List Pt) (x z : Int) (f : Pt → Int) (L : List Pt) (S : Nat) (w : World) (n0 : Nat) (X : World) : Prop where
  b9 : Blk T9 #[.int .i64 (lev f L)] 2 X
  b10 : Blk T10 #[.bool (fnd L)] 4 X
  b11 : Blk T11 #[.slice (some ⟨b, o, none⟩) l.length c] 85 X
  b12 : Blk T12 #[.int .i64 (tw l)] 2 X
  pp : P2 Tp x z X
  row : Row X b o l
  bl : Below S w X
  sz : n0 ≤ X.heap.size
theorem SI.below {T9 T10 T11 T12 Tp b o c : Nat} {l : List Pt} {x z : Int} {f : Pt → Int} {L : List Pt} {S : Nat} {w : World} {n0 : Nat} {X C : World} (h : SI T9 T10 T11 T12 Tp b o c l x z f L S w n0 X) (k : Below X.heap.size X C) (hS : S ≤ X.heap.size) : SI T9 T10 T11 T12 Tp b o c l x z f L S w n0 C :=
  ⟨h.b9.below k, h.b10.below k, h.b11.below k, h.b12.below k, h.pp.below k, h.row.keep k, Below.thru h.bl hS k, Nat.le_trans h.sz k.size⟩
theorem SI.ch {T9 T10 T11 T12 Tp b o c : Nat} {l : List Pt} {x z : Int} {f : Pt → Int} {L : List Pt} {S : Nat} {w : World} {n0 : Nat} {X C : World} {B : Nat} {Bs : List Nat} (h : SI T9 T10 T11 T12 Tp b o c l x z f L S w n0 X) (k : Ch B Bs X C) (h9 : T9 < B) (h10 : T10 < B) (h11 : T11 < B) (h12 : T12 < B) (hp : Tp < B) (hb : b < B) (hS : S ≤ B) (hw : S ≤ w.heap.size) : SI T9 T10 T11 T12 Tp b o c l x z f L S w n0 C :=
  ⟨h.b9.ch k h9, h.b10.ch k h10, h.b11.ch k h11, h.b12.ch k h12, h.pp.ch k hp, h.row.ch k hb, below_ch h.bl k hS hw, Nat.le_trans h.sz k.size⟩
theorem P2.far1 {T C i : Nat} {x z : Int} {W : World} (v : Value) (h : P2 T x z W) (hn : T ≠ C) : P2 T x z (W.setCell ⟨C, i, none⟩ v) := (Below.heap_setCell _ _ _ _ hn).trans h
theorem Row.far1 {b o C i : Nat} {l : List Pt} {W : World} (v : Value) (h : Row W b o l) (hn : b ≠ C) : Row (W.setCell ⟨C, i, none⟩ v) b o l := fun j hj =>
  ⟨(cell_same (a := ⟨b, _, none⟩) (Below.heap_setCell _ _ _ _ hn)).trans (h j hj).1, (cell_same (a := ⟨b, _, none⟩) (Below.heap_setCell _ _ _ _ hn)).trans (h j hj).2⟩
set_option maxHeartbeats 16000000 in
theorem sure_any (s : SV) (v : Value) (x z t : Int) (w : World) (hn : s.nm.size ≤ maxLen) (h : Pts w v s.l) :
    Calls Try.prog 38 #[stv s v, .agg #[.int .i64 x, .int .i64 z], .int .i64 t] w (PSu s x z t w) := by
  obtain ⟨p, c, hv⟩ : ∃ p c, v = .slice p s.l.length c := ⟨_, _, h.2.choose_spec.choose_spec.1⟩
  subst hv
  have HC := Lib.hid (fun W (k : Below w.heap.size w W) => checkBlow_any s (.slice p s.l.length c) x z t W hn (h.keep k))
  have HPT := Lib.hid h
  obtain ⟨nm, l, dp, dn, gx, gz⟩ := s
  have HE : Hid (∀ W er, er ≠ 0 → BlowE ⟨nm, l, dp, dn, gx, gz⟩ x z t er → Below w.heap.size w W → PSu ⟨nm, l, dp, dn, gx, gz⟩ x z t w (.returned (.tuple #[.int .i64 0, .int .i64 er])) W) := fun W er h0 hb k => ⟨⟨0, er, er, rfl, hb, .inl ⟨h0, rfl, rfl⟩⟩, k⟩
  have HF : Hid (∀ W, BlowE ⟨nm, l, dp, dn, gx, gz⟩ x z t 0 → outc l gx gz (x, z) t = [] → Below w.heap.size w W → PSu ⟨nm, l, dp, dn, gx, gz⟩ x z t w (.returned (.tuple #[.int .i64 0, .int .i64 8])) W) := fun W hb ho k => ⟨⟨0, 0, 8, rfl, hb, .inr (.inl ⟨rfl, ho, rfl, rfl⟩)⟩, k⟩
  have HG : Hid (∀ W, BlowE ⟨nm, l, dp, dn, gx, gz⟩ x z t 0 → outc l gx gz (x, z) t ≠ [] → Below w.heap.size w W → PSu ⟨nm, l, dp, dn, gx, gz⟩ x z t w (.returned (.tuple #[.int .i64 (lev (grP l (x, z)) (outc l gx gz (x, z) t)), .int .i64 0])) W) := fun W hb ho k => ⟨⟨_, 0, 0, rfl, hb, .inr (.inr ⟨rfl, ho, rfl, by unfold lev; rw [if_neg ho]⟩)⟩, k⟩
  unfold stv at *
  dsimp only at *
  clear h hn
  have s0 := (StB.new w nm (.slice p l.length c) dp dn gx gz 34).keep (bl1 _ (.cells #[.int .i64 x, .int .i64 z] 32))
  have s1 : P2 (w.heap.size + 1) x z ((w.alloc (.cells #[.string nm, .slice p l.length c, .int .i64 dp, .int .i64 dn, .int .i64 gx, .int .i64 gz] 34)).alloc (.cells #[.int .i64 x, .int .i64 z] 32)) := by
    have := P2.new (w.alloc (.cells #[.string nm, .slice p l.length c, .int .i64 dp, .int .i64 dn, .int .i64 gx, .int .i64 gz] 34)) x z
    rw [World.size_alloc] at this
    exact this
  have k0 := bl2 w (.cells #[.string nm, .slice p l.length c, .int .i64 dp, .int .i64 dn, .int .i64 gx, .int .i64 gz] 34) (.cells #[.int .i64 x, .int .i64 z] 32)
  have hz0' : ((w.alloc (.cells #[.string nm, .slice p l.length c, .int .i64 dp, .int .i64 dn, .int .i64 gx, .int .i64 gz] 34)).alloc (.cells #[.int .i64 x, .int .i64 z] 32)).heap.size = w.heap.size + 2 := by simp
  refine (callsIn_wide (n := 4)).1 ?_
  refine callsIn_of_wp_marks Try.func38 rfl trivial ?_ rfl
  simp only [Try.ntmps38, List.size_toArray, List.length_cons, List.length_nil, Nat.reduceAdd, Nat.reduceSub, Array.replicate_succ, Array.replicate_zero, List.push_toArray, List.append_toArray, List.nil_append, List.cons_append]
  gi_wp2_with fail
  refine ⟨trivial, ?_⟩
  refine (callsIn_wide.2 (HC.out _ k0)).mono ?_
  rintro e w1 ⟨⟨er, rfl, hx⟩, hb1⟩
  have k1 := Below.thru k0 k0.size hb1
  have hz1' := hb1.size
  replace s0 := s0.keep hb1
  replace s1 := s1.below hb1
  clear hb1 k0
  have HX := Lib.hid hx
  have K1 := Lib.hid k1
  have hsz1 : w.heap.size + 2 ≤ w1.heap.size := by omega
  clear hz1' hz0' k1
  by_cases he : er = 0
  · subst he
    obtain ⟨⟨hvld, hisp⟩, ht⟩ : (Vld ⟨nm, l, dp, dn, gx, gz⟩ ∧ IsP l x z) ∧ (0 ≤ t ∧ t ≤ 100) := by
      rcases hx with ⟨_, h⟩ | ⟨_, _, h⟩ | ⟨_, _, h⟩ | ⟨h, h', _⟩
      · cases h
      · cases h
      · cases h
      · exact ⟨h, h'⟩
    have h3 := hvld.2.1.1
    have hbx := hvld.2.1.2.1
    have hap := hvld.2.1.apart
    have hgr := hvld.2.2
    have htr := hvld.2.1.tr
    obtain ⟨b, o, c', hpe, hrow⟩ := (HPT.out.keep K1.out).some (show 0 < l.length by have : 3 ≤ l.length := h3.1; omega)
    cases hpe
    have hpb := hisp.bd hbx
    have HV := Lib.hid (And.intro hbx (And.intro hap (And.intro hgr (And.intro hpb ht))))
    have HTR := Lib.hid (And.intro htr (And.intro h3 hisp))
    have h3' : 0 < l.length := by have : 3 ≤ l.length := h3.1; omega
    have h12' : l.length ≤ 12 := h3.2
    have HR := Lib.hid hrow
    have hbl := hrow.lt h3'
    have HTW := Lib.hid (fun W g o c (L : List Pt) (hr : Row W g o L) (h3 : 0 < L.length) (h12 : L.length ≤ 1000) (hx : Bx L) => twice_any g o c L W hr h3 h12 hx)
    have htb := tw_bd hbx (by omega : l.length ≤ 1000)
    have hb9 := bl2 w1 (.cells #[.int .i64 0] 2) (.cells #[.bool false] 4)
    obtain ⟨_, _, _, _, _, _⟩ := s0.keep hb9
    have hbA := bl3 w1 (.cells #[.int .i64 0] 2) (.cells #[.bool false] 4) (.cells #[.slice (some ⟨b, o, none⟩) l.length c] 85)
    have HS0 := Lib.hid (And.intro (s0.keep hbA) (And.intro (s1.below hbA) (HR.out.keep hbA)))
    have HBA := Lib.hid hbA
    clear hx hvld hisp ht h3 hbx hap hgr hpb hrow hb9 s0 s1 htr hbA
    gi_wp2_with fail
    refine ⟨trivial, ?_⟩
    refine (callsIn_wide.2 (HTW.out _ b o c l HS0.out.2.2 h3' (by omega) HV.out.1)).mono ?_
    rintro e w3 ⟨rfl, hb3⟩
    have hT9 : Blk w1.heap.size #[.int .i64 0] 2 w3 := (((Blk.new w1 #[.int .i64 0] 2).alloc _).alloc _).below hb3
    have hT10 : Blk (w1.heap.size + 1) #[.bool false] 4 w3 := by
      have := Blk.new (w1.alloc (.cells #[.int .i64 0] 2)) #[.bool false] 4
      rw [World.size_alloc] at this
      exact (this.alloc _).below hb3
    have hT11 : Blk (w1.heap.size + 1 + 1) #[.slice (some ⟨b, o, none⟩) l.length c] 85 w3 := by
      have := Blk.new ((w1.alloc (.cells #[.int .i64 0] 2)).alloc (.cells #[.bool false] 4)) #[.slice (some ⟨b, o, none⟩) l.length c] 85
      simp only [World.size_alloc] at this
      exact this.below hb3
    have hz3 : w1.heap.size + 3 ≤ w3.heap.size := by have := hb3.size; simp at this; omega
    have HS3 := Lib.hid (And.intro (HS0.out.1.keep hb3) (And.intro (HS0.out.2.1.below hb3) (HS0.out.2.2.keep hb3)))
    have K3 := Lib.hid (Below.thru K1.out K1.out.size (Below.thru HBA.out HBA.out.size hb3))
    clear hb3
    have hb4 := bl1 w3 (.cells #[.int .i64 (tw l)] 2)
    obtain ⟨_, _, _, _, _, _⟩ := HS3.out.1.keep hb4
    obtain ⟨d0, d1⟩ := (HS3.out.2.1.below hb4).cells
    clear hb4
    gi_wp2_with fail
    refine ⟨trivial, ?_⟩
    refine (callsIn_wide.2 (outcomesv_any _ _ _ _ _ _ _ _ _ _ _ _)).mono ?_
    rintro e w' ⟨rfl, rfl⟩
    gi_wp2
    have hB1 : Below w3.heap.size w3 ((((w3.alloc (.cells #[.int .i64 (tw l)] 2)).alloc (.cells #[.string nm, .slice (some ⟨b, o, none⟩) l.length c, .int .i64 dp, .int .i64 dn, .int .i64 gx, .int .i64 gz] 34)).alloc (.cells #[.int .i64 x, .int .i64 z] 32)).alloc (.cells #[.int .i64 t] 3)) := (bl3 w3 _ _ _).alloc (by simp; omega) _
    have hsz : ((((w3.alloc (.cells #[.int .i64 (tw l)] 2)).alloc (.cells #[.string nm, .slice (some ⟨b, o, none⟩) l.length c, .int .i64 dp, .int .i64 dn, .int .i64 gx, .int .i64 gz] 34)).alloc (.cells #[.int .i64 x, .int .i64 z] 32)).alloc (.cells #[.int .i64 t] 3)).heap.size = w3.heap.size + 4 := by simp
    have hT12 : Blk w3.heap.size #[.int .i64 (tw l)] 2 ((((w3.alloc (.cells #[.int .i64 (tw l)] 2)).alloc (.cells #[.string nm, .slice (some ⟨b, o, none⟩) l.length c, .int .i64 dp, .int .i64 dn, .int .i64 gx, .int .i64 gz] 34)).alloc (.cells #[.int .i64 x, .int .i64 z] 32)).alloc (.cells #[.int .i64 t] 3)) := (((Blk.new w3 _ 2).alloc _).alloc _).alloc _
    have hSt : Blk (w3.heap.size + 1) #[.string nm, .slice (some ⟨b, o, none⟩) l.length c, .int .i64 dp, .int .i64 dn, .int .i64 gx, .int .i64 gz] 34 ((((w3.alloc (.cells #[.int .i64 (tw l)] 2)).alloc (.cells #[.string nm, .slice (some ⟨b, o, none⟩) l.length c, .int .i64 dp, .int .i64 dn, .int .i64 gx, .int .i64 gz] 34)).alloc (.cells #[.int .i64 x, .int .i64 z] 32)).alloc (.cells #[.int .i64 t] 3)) := by
      have := Blk.new (w3.alloc (.cells #[.int .i64 (tw l)] 2)) #[.string nm, .slice (some ⟨b, o, none⟩) l.length c, .int .i64 dp, .int .i64 dn, .int .i64 gx, .int .i64 gz] 34
      rw [World.size_alloc] at this
      exact (this.alloc _).alloc _
    have hPp : P2 (w3.heap.size + 1 + 1) x z ((((w3.alloc (.cells #[.int .i64 (tw l)] 2)).alloc (.cells #[.string nm, .slice (some ⟨b, o, none⟩) l.length c, .int .i64 dp, .int .i64 dn, .int .i64 gx, .int .i64 gz] 34)).alloc (.cells #[.int .i64 x, .int .i64 z] 32)).alloc (.cells #[.int .i64 t] 3)) := by
      have := P2.new ((w3.alloc (.cells #[.int .i64 (tw l)] 2)).alloc (.cells #[.string nm, .slice (some ⟨b, o, none⟩) l.length c, .int .i64 dp, .int .i64 dn, .int .i64 gx, .int .i64 gz] 34)) x z
      simp only [World.size_alloc] at this
      exact this.alloc _
    have hTt : Blk (w3.heap.size + 1 + 1 + 1) #[.int .i64 t] 3 ((((w3.alloc (.cells #[.int .i64 (tw l)] 2)).alloc (.cells #[.string nm, .slice (some ⟨b, o, none⟩) l.length c, .int .i64 dp, .int .i64 dn, .int .i64 gx, .int .i64 gz] 34)).alloc (.cells #[.int .i64 x, .int .i64 z] 32)).alloc (.cells #[.int .i64 t] 3)) := by
      have := Blk.new (((w3.alloc (.cells #[.int .i64 (tw l)] 2)).alloc (.cells #[.string nm, .slice (some ⟨b, o, none⟩) l.length c, .int .i64 dp, .int .i64 dn, .int .i64 gx, .int .i64 gz] 34)).alloc (.cells #[.int .i64 x, .int .i64 z] 32)) #[.int .i64 t] 3
      simp only [World.size_alloc] at this
      exact this
    generalize ((((w3.alloc (.cells #[.int .i64 (tw l)] 2)).alloc (.cells #[.string nm, .slice (some ⟨b, o, none⟩) l.length c, .int .i64 dp, .int .i64 dn, .int .i64 gx, .int .i64 gz] 34)).alloc (.cells #[.int .i64 x, .int .i64 z] 32)).alloc (.cells #[.int .i64 t] 3)) = w0 at *
    have hT9' := hT9.below hB1
    have hT10' := hT10.below hB1
    have hno : ∀ k, ¬ ow [w1.heap.size, w1.heap.size + 1] w0 k := fun k => by
      rintro ⟨⟨B, n, c', hB, hq⟩, _⟩
      simp only [List.mem_cons, List.not_mem_nil, or_false] at hB
      rcases hB with rfl | rfl
      · rw [hT9'.cell (i := 0) rfl] at hq; cases hq
      · rw [hT10'.cell (i := 0) rfl] at hq; cases hq
    have hsane : Sane [w1.heap.size, w1.heap.size + 1] w0 := fun B hB => by
      simp only [List.mem_cons, List.not_mem_nil, or_false] at hB
      rcases hB with rfl | rfl
      · exact ⟨by omega, fun k n c' hq => by rw [hT9'.cell (i := 0) rfl] at hq; cases hq⟩
      · exact ⟨by omega, fun k n c' hq => by rw [hT10'.cell (i := 0) rfl] at hq; cases hq⟩
    have hBw : Below w.heap.size w w0 := Below.thru K3.out K3.out.size hB1
    have hF : ∀ p, 0 ≤ grP l (x, z) p := fun p => grP_nn HTR.out.1 (x, z) p
    have HFN := Lib.hid hF
    refine rangeX [w1.heap.size, w1.heap.size + 1] (gf := 107) (lb := #[.pointer (some ⟨w3.heap.size + 1, 0, none⟩), .pointer (some ⟨w3.heap.size + 1 + 1, 0, none⟩), .pointer (some ⟨w3.heap.size + 1 + 1 + 1, 0, none⟩)]) rfl (enters_of Try.func107 (by kernel_rfl) rfl)
      (outcomesR_seq (w3.heap.size + 1) (w3.heap.size + 1 + 1) (w3.heap.size + 1 + 1 + 1) b o c nm l dp dn gx gz (x, z) t w0 h3' (by omega) HV.out.1 HV.out.2.1 HTR.out.1 HTR.out.2.1.1 HV.out.2.2.1.2.2.2.1 HV.out.2.2.1.2.2.2.2 HV.out.2.2.2.1 (by have := HV.out.2.2.2.2; omega) hSt hPp hTt (HS3.out.2.2.keep hB1)) (Below.refl _ _) (fun _ => rfl) hsane
      (fun k hk => ⟨by omega, by simp; omega, hno k⟩)
      (fun pre X => SI w1.heap.size (w1.heap.size + 1) (w1.heap.size + 1 + 1) w3.heap.size (w.heap.size + 1) b o c l x z (grP l (x, z)) (valsR pre) w.heap.size w w0.heap.size X) (fun _ _ _ => False)
      (fun s A C h hq => h.ch hq (by omega) (by omega) (by omega) (by omega) (by omega) (by omega) (by omega) (Nat.le_refl _)) (fun _ _ _ _ h _ => h)
      ⟨hT9', hT10', hT11.below hB1, hT12, HS3.out.2.1.below hB1, HS3.out.2.2.keep hB1, hBw, Nat.le_refl _⟩
      (fun q a' X => ∃ T13, P2 T13 q.1.1 q.1.2 X ∧ a' = { tmps := #[.agg #[.string nm, .slice (some ⟨b, o, none⟩) l.length c, .int .i64 dp, .int .i64 dn, .int .i64 gx, .int .i64 gz], .agg #[.int .i64 x, .int .i64 z], .int .i64 t, .pointer (some ⟨w.heap.size, 0, none⟩), .pointer (some ⟨w.heap.size + 1, 0, none⟩), undef, .int .i64 0, .int .i64 0, .int .i64 0, .pointer (some ⟨w1.heap.size, 0, none⟩), .pointer (some ⟨w1.heap.size + 1, 0, none⟩), .pointer (some ⟨w1.heap.size + 1 + 1, 0, none⟩), .pointer (some ⟨w3.heap.size, 0, none⟩), .pointer (some ⟨T13, 0, none⟩), undef, undef,
        .agg #[.string nm, .slice (some ⟨b, o, none⟩) l.length c, .int .i64 dp, .int .i64 dn, .int .i64 gx, .int .i64 gz], .agg #[.int .i64 x, .int .i64 z], .int .i64 t, .int .i64 0, .int .i64 0, .bool false, undef, .pointer (some ⟨w.heap.size, 1, none⟩), .slice (some ⟨b, o, none⟩) l.length c, .slice (some ⟨b, o, none⟩) l.length c, .int .i64 (tw l), .agg #[.string nm, .slice (some ⟨b, o, none⟩) l.length c, .int .i64 dp, .int .i64 dn, .int .i64 gx, .int .i64 gz], .agg #[.int .i64 x, .int .i64 z], .int .i64 t, .func (.func 107) #[] #[.pointer (some ⟨w3.heap.size + 1, 0, none⟩), .pointer (some ⟨w3.heap.size + 1 + 1, 0, none⟩), .pointer (some ⟨w3.heap.size + 1 + 1 + 1, 0, none⟩)], .agg #[.int .i64 q.1.1, .int .i64 q.1.2], undef, undef, undef, undef, undef, undef, undef, undef, undef, undef, undef, undef, undef, undef, undef, undef, undef, undef, undef, undef, undef], defers := [] })
      (fun q a' X k q0 q' hl ho ho' ⟨T3, h, e⟩ => ⟨T3, h.putObj q' hl ho, e⟩) ?assign ?body ?done ?stop
    case assign =>
      rintro lr' pre q X K hI hsX hK
      unfold encR
      gi_wp2
      have hb1 := bl1 X (.cells #[.int .i64 q.1.1, .int .i64 q.1.2] 32)
      exact hK _ _ (KO.of_below hb1 hsX) (hI.below hb1 (by have := hI.sz; omega)) ⟨X.heap.size, P2.new X _ _, rfl⟩
    case body =>
      rintro lr' pre ⟨⟨xa, xz⟩, hq⟩ a' X hI hsX ⟨T13, hp, rfl⟩ hlt
      dsimp only at hp hq ⊢
      have HI0 := Lib.hid (And.intro hI hsX)
      obtain ⟨p0, p1⟩ := hp.cells
      have c11 := hI.b11.cell (i := 0) rfl
      obtain ⟨d0, d1⟩ := hI.pp.cells
      have hszX : w0.heap.size ≤ X.heap.size := hI.sz
      have HPART := Lib.hid (fun V (k : Below X.heap.size X V) => part_any b o c l x z xa xz V (hI.row.keep k) h3' (by omega) HV.out.1 HTR.out.2.2 hq)
      have hlp := partL_len l (x, z) (xa, xz) (eo_isp HTR.out.2.2) (eo_isp hq)
      have hl2 := partL_two l (x, z) (xa, xz)
      have HBP := Lib.hid (partL_bx (p := (x, z)) (q := (xa, xz)) HV.out.1 h3' (HTR.out.2.2.bd HV.out.1) (hq.bd HV.out.1))
      have htp := tw_bd HBP.out (by omega)
      have HGP : Hid (grP l (x, z) (xa, xz) = max (tw (partL l (x, z) (xa, xz))) (tw l - tw (partL l (x, z) (xa, xz)))) := rfl
      have HLS := Lib.hid (lev_snoc HFN.out (valsR pre) (xa, xz))
      have HVS : Hid (valsR (pre ++ [(⟨(xa, xz), hq⟩ : Bq9 l)]) = valsR pre ++ [(xa, xz)]) := valsR_snoc _ _
      clear hI hsX hp
      gi_wp2_with fail
      refine ⟨trivial, (by first | rfl | (intro h; cases h)), ?_⟩
      refine (CallsIn.inRound _ (callsIn_wide.2 (HPART.out _ (Below.refl _ _)))).mono ?_
      rintro e w2 ⟨⟨v2, rfl, ho⟩, hb2⟩
      obtain ⟨g2, c2, rfl, hr2⟩ := ho.some (by omega)
      have K2 := Lib.hid hb2
      have HR2 := Lib.hid hr2
      clear ho hb2 hr2 p0 p1 c11 d0 d1
      gi_wp2_with fail
      refine ⟨trivial, (by first | rfl | (intro h; cases h)), ?_⟩
      refine (CallsIn.inRound _ (callsIn_wide.2 (HTW.out _ g2 0 c2 _ HR2.out (by omega) (by omega) HBP.out))).mono ?_
      rintro e w4 ⟨rfl, hb4⟩
      have K4 := Lib.hid (Below.thru K2.out K2.out.size hb4)
      have hI4 := HI0.out.1.below K4.out (by omega)
      have c12 := hI4.b12.cell (i := 0) rfl
      have c9 := hI4.b9.cell (i := 0) rfl
      have f9 := hI4.b9.frozen 0
      have c10 := hI4.b10.cell (i := 0) rfl
      have f10 := hI4.b10.frozen 0
      have HI4 := Lib.hid hI4
      have HKO := Lib.hid (KO.of_below (B := w0.heap.size) K4.out HI0.out.2)
      have HEND1 : Hid (∀ gq : Int, lev (grP l (x, z)) (valsR pre ++ [(xa, xz)]) = gq → KO w0.heap.size [w1.heap.size, w1.heap.size + 1] X ((w4.setCell ⟨w1.heap.size, 0, none⟩ (.int .i64 gq)).setCell ⟨w1.heap.size + 1, 0, none⟩ (.bool true)) ∧
          SI w1.heap.size (w1.heap.size + 1) (w1.heap.size + 1 + 1) w3.heap.size (w.heap.size + 1) b o c l x z (grP l (x, z)) (valsR (pre ++ [(⟨(xa, xz), hq⟩ : Bq9 l)])) w.heap.size w w0.heap.size ((w4.setCell ⟨w1.heap.size, 0, none⟩ (.int .i64 gq)).setCell ⟨w1.heap.size + 1, 0, none⟩ (.bool true))) := fun gq hgq => by
        have h10 := HI4.out.b10.far (i := 0) (.int .i64 gq) (show w1.heap.size + 1 ≠ w1.heap.size by omega)
        refine ⟨HKO.out.trans ((KO.set (by simp) (by omega) (HI4.out.b9.cell (i := 0) rfl) (fun a n c h => by cases h)).trans (KO.set (by simp) (by omega) (h10.cell (i := 0) rfl) (fun a n c h => by cases h))), ?_⟩
        have hsz4 := HI4.out.sz
        refine ⟨?_, ?_, (HI4.out.b11.far _ (by omega)).far _ (by omega), (HI4.out.b12.far _ (by omega)).far _ (by omega), (HI4.out.pp.far1 _ (by omega)).far1 _ (by omega), (HI4.out.row.far1 _ (by omega)).far1 _ (by omega), (HI4.out.bl.setCell (show w.heap.size ≤ w1.heap.size by omega) _).setCell (show w.heap.size ≤ w1.heap.size + 1 by omega) _, by simp; exact hsz4⟩
        · have h := ((HI4.out.b9).set (i := 0) (.int .i64 gq)).far (i := 0) (.bool true) (show w1.heap.size ≠ w1.heap.size + 1 by omega)
          rw [HVS.out, hgq]
          exact h
        · have h := h10.set (i := 0) (.bool true)
          have e : fnd (valsR (pre ++ [(⟨(xa, xz), hq⟩ : Bq9 l)])) = true := by rw [HVS.out]; unfold fnd; simp
          rw [e]
          exact h
      have HEND2 : Hid (valsR pre ≠ [] → lev (grP l (x, z)) (valsR pre ++ [(xa, xz)]) = lev (grP l (x, z)) (valsR pre) → KO w0.heap.size [w1.heap.size, w1.heap.size + 1] X w4 ∧
          SI w1.heap.size (w1.heap.size + 1) (w1.heap.size + 1 + 1) w3.heap.size (w.heap.size + 1) b o c l x z (grP l (x, z)) (valsR (pre ++ [(⟨(xa, xz), hq⟩ : Bq9 l)])) w.heap.size w w0.heap.size w4) := fun hne hgq => by
        refine ⟨HKO.out, ?_, ?_, HI4.out.b11, HI4.out.b12, HI4.out.pp, HI4.out.row, HI4.out.bl, HI4.out.sz⟩
        · rw [HVS.out, hgq]
          exact HI4.out.b9
        · have e : fnd (valsR (pre ++ [(⟨(xa, xz), hq⟩ : Bq9 l)])) = fnd (valsR pre) := by
            rw [HVS.out]
            unfold fnd
            cases h : valsR pre with
            | nil => exact absurd h hne
            | cons a t => rfl
          rw [e]
          exact HI4.out.b10
      have HFE : Hid (fnd (valsR pre) = !(valsR pre).isEmpty) := rfl
      clear hI4 hb4
      generalize grP l (x, z) (xa, xz) = gq at *
      generalize lev (grP l (x, z)) (valsR pre) = lv at *
      generalize tw (partL l (x, z) (xa, xz)) = r at *
      generalize tw l = T at *
      have y1 := IntWalk.i64_in (T - r) (by omega)
      have hcs : (valsR pre = [] ∧ fnd (valsR pre) = false) ∨ (valsR pre ≠ [] ∧ fnd (valsR pre) = true) := by
        rw [HFE.out]
        cases valsR pre with
        | nil => exact .inl ⟨rfl, rfl⟩
        | cons a t => exact .inr ⟨by simp, rfl⟩
      by_cases hmx : r < T - r
      · obtain rfl : gq = T - r := by have := HGP.out; omega
        rcases hcs with ⟨hL, hf⟩ | ⟨hL, hf⟩
        · rw [hf] at c10
          have HE9 := Lib.hid (HEND1.out (T - r) (by rw [HLS.out, if_pos (.inl hL)]))
          clear hL hf
          gi_wp2
          exact HE9.out
        · rw [hf] at c10
          by_cases hlt2 : T - r < lv
          · have HE9 := Lib.hid (HEND1.out (T - r) (by rw [HLS.out, if_pos (.inr hlt2)]))
            clear hL hf
            gi_wp2
            exact HE9.out
          · have HE9 := Lib.hid (HEND2.out hL (by rw [HLS.out, if_neg (fun h => h.elim hL hlt2)]))
            clear hL hf
            gi_wp2
            exact HE9.out
      · obtain rfl : gq = r := by have := HGP.out; omega
        rcases hcs with ⟨hL, hf⟩ | ⟨hL, hf⟩
        · rw [hf] at c10
          have HE9 := Lib.hid (HEND1.out gq (by rw [HLS.out, if_pos (.inl hL)]))
          clear hL hf
          gi_wp2
          exact HE9.out
        · rw [hf] at c10
          by_cases hlt2 : gq < lv
          · have HE9 := Lib.hid (HEND1.out gq (by rw [HLS.out, if_pos (.inr hlt2)]))
            clear hL hf
            gi_wp2
            exact HE9.out
          · have HE9 := Lib.hid (HEND2.out hL (by rw [HLS.out, if_neg (fun h => h.elim hL hlt2)]))
            clear hL hf
            gi_wp2
            exact HE9.out
    case done =>
      rintro D ys X hD hS hI hK
      have c9 := hI.b9.cell (i := 0) rfl
      have c10 := hI.b10.cell (i := 0) rfl
      rw [hS] at c9 c10
      have H3 := Lib.hid (hI.bl.trans (belowK_b (w := w) (Nat.le_refl _) _ D _ (.deferred none) (by omega) hK rfl rfl))
      clear hI
      by_cases ho : outc l gx gz (x, z) t = []
      · have hf : fnd (outc l gx gz (x, z) t) = false := by rw [ho]; rfl
        rw [hf] at c10
        have HO := Lib.hid ho
        clear ho hf
        gi_wp2
        refine ⟨by simp, .inl ⟨_, _, rfl, run_takeDeferred hK, ?_⟩⟩
        exact ⟨_, by simp [results, Try.results38, go_sem], HF.out _ HX.out HO.out H3.out⟩
      · have hf : fnd (outc l gx gz (x, z) t) = true := by
          unfold fnd
          cases h : outc l gx gz (x, z) t with
          | nil => exact absurd h ho
          | cons a q => rfl
        rw [hf] at c10
        have HO := Lib.hid ho
        have HGG := Lib.hid (HG.out _ HX.out HO.out H3.out)
        clear ho hf HG HF HE
        generalize lev (grP l (x, z)) (outc l gx gz (x, z) t) = lv at *
        gi_wp2
        refine ⟨by simp, .inl ⟨_, _, rfl, run_takeDeferred hK, ?_⟩⟩
        exact ⟨_, by simp [results, Try.results38, go_sem], HGG.out⟩
    case stop =>
      rintro D cc pre X _ h _
      exact h.elim
  · clear hx
    gi_wp2
    refine ⟨_, by simp [results, Try.results38, go_sem], HE.out _ _ he HX.out K1.out⟩
end Go.Proofs.Ytljmhejljpfaiaa
namespace Go.Proofs.Ytljmhejljpfaiaa
set_option maxRecDepth 100000
open Go.RowKit Go.Shelf

/-! StoneOutcomes -/
theorem outc_len {l : List Pt} {gx gz x z t : Int} (ht : Tr l) (h3 : 3 ≤ l.length) (h12 : l.length ≤ 12) (hx : Bx l) (hp : IsP l x z) : (outc l gx gz (x, z) t).length ≤ 24000 := by
  have h1 := ouR_oth ht h3 (p := (x, z)) hp (okq l gx gz (x, z) t)
  have h2 := ouR_len (bp l) (ixL (bp l) (x, z) (bp l).length) (okq l gx gz (x, z) t) ((bp l).length - 1)
  rw [h1] at h2
  have := bp_len2 ht h3 h12 hx
  unfold outc
  omega
theorem outc_mem {l : List Pt} {gx gz x z t : Int} (ht : Tr l) (h3 : 3 ≤ l.length) (hp : IsP l x z) {q : Pt} (h : q ∈ outc l gx gz (x, z) t) : IsP l q.1 q.2 ∧ CanC l x z q.1 q.2 := by
  unfold outc at h
  obtain ⟨h1, h2⟩ := List.mem_filter.1 h
  obtain ⟨X, Y, e, _, _, ho⟩ := oth_split ht h3 (p := (x, z)) hp
  refine ⟨(bp_mem ht h3 q).1 ?_, ?_⟩
  · rw [ho] at h1
    rw [e]
    rcases List.mem_append.1 h1 with h | h
    · exact List.mem_append_right _ (List.mem_cons_of_mem _ h)
    · exact List.mem_append_left _ h
  · unfold okq at h2
    rw [Bool.and_eq_true] at h2
    exact (canB_iff l (x, z) q).1 h2.2
theorem blowE_one {s : SV} {x z t a b : Int} (h1 : BlowE s x z t a) (h2 : BlowE s x z t b) : a = b := by
  unfold BlowE at h1 h2
  rcases h1 with ⟨p1, q1⟩ | ⟨p1, p2, q1⟩ | ⟨⟨p1, p2⟩, p3, q1⟩ | ⟨⟨p1, p2⟩, p3, q1⟩ <;>
  rcases h2 with ⟨r1, s1⟩ | ⟨r1, r2, s1⟩ | ⟨⟨r1, r2⟩, r3, s1⟩ | ⟨⟨r1, r2⟩, r3, s1⟩ <;>
  first | (exact absurd r1 p1) | (exact absurd p1 r1) | (exact absurd r2 p2) | (exact absurd p2 r2) | (exact absurd r3 p3) | (exact absurd p3 r3) | (rw [q1, s1])
theorem field24_0 (x y : Value) (W : World) : (Instr.field 24 (.agg #[x, y]) 0).run Try.prog W = .ok x W := by kernel_rfl
theorem field24_1 (x y : Value) (W : World) : (Instr.field 24 (.agg #[x, y]) 1).run Try.prog W = .ok y W := by kernel_rfl
set_option maxHeartbeats 32000000 in
theorem outcomesL_any (s : SV) (p : Option Addr) (c : Nat) (x z t : Int) (w : World) (hn : s.nm.size ≤ maxLen) (hlm : s.l.length ≤ maxLen) (h : s.l.length ≤ 1000000 → Pts w (.slice p s.l.length c) s.l) : Calls Try.prog 8 #[stv s (.slice p s.l.length c), .agg #[.int .i64 x, .int .i64 z], .int .i64 t] w (PT w) := by
  have HS := Lib.hid (fun W (k : Below w.heap.size w W) (hm : s.l.length ≤ 1000000) => stonev_any s (.slice p s.l.length c) W ((h hm).keep k) hm)
  have HV := Lib.hid (fun W (k : Below w.heap.size w W) (hm : s.l.length ≤ 1000000) => validv_any s (.slice p s.l.length c) W hn ((h hm).keep k))
  have HO1 := Lib.hid (fun W v (hp : Pts W v s.l) => outcomes_any s v x z t W hn hp)
  have HO2 := Lib.hid (fun W v (hp : Pts W v s.l) => sure_any s v x z t W hn hp)
  have HPT := Lib.hid h
  have hn1 := hn
  obtain ⟨nm, l, dp, dn, gx, gz⟩ := s
  have HVI : Hid (Vld ⟨nm, l, dp, dn, gx, gz⟩ → (3 ≤ l.length ∧ l.length ≤ 12) ∧ Bx l ∧ Tr l ∧ ((-100 ≤ gx ∧ gx ≤ 100) ∧ (-100 ≤ gz ∧ gz ≤ 100))) := fun h => ⟨h.2.1.1, h.2.1.2.1, h.2.1.tr, h.2.2.2.2.2⟩
  have HSL : Hid (∀ (W : World) (base : Nat) (v : Value), Own W base v l → ∃ a m, v = .slice a l.length m) := fun W base v h => by
    rcases h.row with ⟨rfl, h0⟩ | ⟨g, c, h1, _⟩
    · exact ⟨none, 0, by rw [h0]; rfl⟩
    · exact ⟨_, _, h1⟩
  unfold maxLen at hn1 hlm
  unfold stv at *
  dsimp only at *
  have HP : Hid (∀ (W W' : World) (base : Nat) (v : Value), l.length ≤ 1000000 → Own W base v l → Below W.heap.size W W' → Pts W' v l) := fun W W' base v hb h k => (h.pts (by omega)).keep k
  have HBE : Hid (∀ er, BlowE ⟨nm, l, dp, dn, gx, gz⟩ x z t er ↔ (¬ Vld ⟨nm, l, dp, dn, gx, gz⟩ ∧ er = 2) ∨ (Vld ⟨nm, l, dp, dn, gx, gz⟩ ∧ ¬ IsP l x z ∧ er = 8) ∨ ((Vld ⟨nm, l, dp, dn, gx, gz⟩ ∧ IsP l x z) ∧ ¬ (0 ≤ t ∧ t ≤ 100) ∧ er = 3) ∨ ((Vld ⟨nm, l, dp, dn, gx, gz⟩ ∧ IsP l x z) ∧ (0 ≤ t ∧ t ≤ 100) ∧ er = 0)) := fun _ => Iff.rfl
  -- both answers
  have HAN : Hid (∀ W e W', POu ⟨nm, l, dp, dn, gx, gz⟩ x z t W e W' → ∃ pa na ca er1, e = .returned (.tuple #[.slice pa na ca, .int .i64 er1]) ∧ Below W.heap.size W W' ∧ Hid (BlowE ⟨nm, l, dp, dn, gx, gz⟩ x z t er1 ∧ ((er1 = 0 ∧ Own W' W.heap.size (.slice pa na ca) (outc l gx gz (x, z) t)) ∨ (er1 ≠ 0 ∧ Value.slice pa na ca = .slice none 0 0)))) := by
    rintro W e W' ⟨⟨v', er, he, ⟨a, m, cc, rfl⟩, hb, ho⟩, hk⟩
    exact ⟨a, m, cc, er, he, hk, hb, ho⟩
  have HSN : Hid (∀ W e W', PSu ⟨nm, l, dp, dn, gx, gz⟩ x z t W e W' → ∃ nn er2, e = .returned (.tuple #[.int .i64 nn, .int .i64 er2]) ∧ Below W.heap.size W W' ∧ Hid (∃ er0, BlowE ⟨nm, l, dp, dn, gx, gz⟩ x z t er0 ∧ ((er0 ≠ 0 ∧ er2 = er0 ∧ nn = 0) ∨ (er0 = 0 ∧ outc l gx gz (x, z) t = [] ∧ er2 = 8 ∧ nn = 0) ∨ (er0 = 0 ∧ outc l gx gz (x, z) t ≠ [] ∧ er2 = 0 ∧ nn = sur (grP l (x, z)) (outc l gx gz (x, z) t) (outc l gx gz (x, z) t).length)))) := by
    rintro W e W' ⟨⟨nn, er0, er, he, hb, ho⟩, hk⟩
    exact ⟨nn, er, he, hk, er0, hb, ho⟩
  have HB1E : Hid (∀ a b, BlowE ⟨nm, l, dp, dn, gx, gz⟩ x z t a → BlowE ⟨nm, l, dp, dn, gx, gz⟩ x z t b → a = b) := fun a b h1 h2 => blowE_one h1 h2
  -- the reference, of a valid stone
  have HIB : Hid (∀ W, Below w.heap.size w W → Vld ⟨nm, l, dp, dn, gx, gz⟩ → l.length ≤ 1000000 → Calls Try.prog 39 #[.slice p l.length c, .agg #[.int .i64 x, .int .i64 z]] W (PBt (IsP l x z) W)) := fun W k hv hm => by
    obtain ⟨h3, hbx, htr, _⟩ := HVI.out hv
    obtain ⟨b, o, c', hpe, hrow⟩ := ((HPT.out hm).keep k).some (by show 0 < l.length; omega)
    cases hpe
    exact isBorder_any b o c l x z W hrow h3.1 h3.2 hbx htr
  have HHI : Hid (∀ W, Below w.heap.size w W → Vld ⟨nm, l, dp, dn, gx, gz⟩ → l.length ≤ 1000000 → Calls Try.prog 25 #[.slice p l.length c] W fun e w' => e = .returned (.agg #[.int .i64 (mxx l l.length), .int .i64 (mxz l l.length)]) ∧ Below W.heap.size W w') := fun W k hv hm => by
    obtain ⟨h3, hbx, htr, _⟩ := HVI.out hv
    obtain ⟨b, o, c', hpe, hrow⟩ := ((HPT.out hm).keep k).some (by show 0 < l.length; omega)
    cases hpe
    exact high_any b o c l W hrow (by omega) (by omega)
  have HRO : Hid (∀ W, Below w.heap.size w W → Vld ⟨nm, l, dp, dn, gx, gz⟩ → IsP l x z → (0 ≤ t ∧ t ≤ 100) → l.length ≤ 1000000 → Calls Try.prog 40 #[.agg (c6 nm (.slice p l.length c) dp dn gx gz), .agg #[.int .i64 x, .int .i64 z], .int .i64 t] W fun e w' => (∃ v, e = .returned v ∧ OwnR w' W.heap.size v (outc l gx gz (x, z) t)) ∧ Below W.heap.size W w') := fun W k hv hp ht hm => by
    obtain ⟨h3, hbx, htr, hg⟩ := HVI.out hv
    obtain ⟨b, o, c', hpe, hrow⟩ := ((HPT.out hm).keep k).some (by show 0 < l.length; omega)
    cases hpe
    exact routcomes_any nm b o c l dp dn gx gz x z t W hrow h3.1 h3.2 hbx htr hp hg ht
  have HRS : Hid (∀ W g cq, Below w.heap.size w W → Vld ⟨nm, l, dp, dn, gx, gz⟩ → IsP l x z → l.length ≤ 1000000 → Row W g 0 (outc l gx gz (x, z) t) → 0 < (outc l gx gz (x, z) t).length → Calls Try.prog 41 #[.agg (c6 nm (.slice p l.length c) dp dn gx gz), .agg #[.int .i64 x, .int .i64 z], .slice (some ⟨g, 0, none⟩) (outc l gx gz (x, z) t).length cq] W fun e w' => e = .returned (.int .i64 (sur (grP l (x, z)) (outc l gx gz (x, z) t) (outc l gx gz (x, z) t).length)) ∧ Below W.heap.size W w') := fun W g cq k hv hp hm hrow2 h0 => by
    obtain ⟨h3, hbx, htr, hg⟩ := HVI.out hv
    obtain ⟨b, o, c', hpe, hrow⟩ := ((HPT.out hm).keep k).some (by show 0 < l.length; omega)
    cases hpe
    have hQ := fun q (hq : q ∈ outc l gx gz (x, z) t) => outc_mem htr h3.1 hp hq
    have h := rsure_any nm b o c g cq l (outc l gx gz (x, z) t) dp dn gx gz x z W hrow hrow2 h3.1 h3.2 hbx htr hp hQ h0 (by have := outc_len (gx := gx) (gz := gz) (t := t) htr h3.1 h3.2 hbx hp; omega)
    rw [sur_congr (fun q hq => gr_eq (p := (x, z)) htr h3.1 hp (hQ q hq).1 (hQ q hq).2) _ (Nat.le_refl _)] at h
    exact h
  have HOL : Hid (Vld ⟨nm, l, dp, dn, gx, gz⟩ → IsP l x z → (outc l gx gz (x, z) t).length ≤ 24000) := fun hv hp => by
    obtain ⟨h3, hbx, htr, hg⟩ := HVI.out hv
    exact outc_len htr h3.1 h3.2 hbx hp
  clear h hn HPT HVI
  generalize BlowE ⟨nm, l, dp, dn, gx, gz⟩ x z t = BE at *
  generalize Vld ⟨nm, l, dp, dn, gx, gz⟩ = V at *
  generalize hQQ : outc l gx gz (x, z) t = Q at *
  generalize IsP l x z = IP at *
  generalize sur (grP l (x, z)) Q Q.length = SQ at *
  generalize mxx l l.length = MX at *
  generalize mxz l l.length = MZ at *
  clear hQQ
  obtain ⟨n, hnn⟩ : ∃ n, n = l.length := ⟨_, rfl⟩
  rw [← hnn] at hlm HS HV HSL HP HIB HHI HRO HRS ⊢
  clear hnn
  have k1 := bl2 w (.cells (c6 nm (.slice p n c) dp dn gx gz) 26) (.cells #[.int .i64 x, .int .i64 z] 24)
  have b1 : Blk w.heap.size (c6 nm (.slice p n c) dp dn gx gz) 26 ((w.alloc (.cells (c6 nm (.slice p n c) dp dn gx gz) 26)).alloc (.cells #[.int .i64 x, .int .i64 z] 24)) ∧ B2 (w.heap.size + 1) x z ((w.alloc (.cells (c6 nm (.slice p n c) dp dn gx gz) 26)).alloc (.cells #[.int .i64 x, .int .i64 z] 24)) := ⟨(Blk.new w _ 26).alloc _, ⟨by simp [go_sem], by simp [go_sem], by simp [go_sem], by simp [go_sem]⟩⟩
  have HB1 : Hid (∀ W, Below ((w.alloc (.cells (c6 nm (.slice p n c) dp dn gx gz) 26)).alloc (.cells #[.int .i64 x, .int .i64 z] 24)).heap.size ((w.alloc (.cells (c6 nm (.slice p n c) dp dn gx gz) 26)).alloc (.cells #[.int .i64 x, .int .i64 z] 24)) W → Blk w.heap.size (c6 nm (.slice p n c) dp dn gx gz) 26 W ∧ B2 (w.heap.size + 1) x z W ∧ Below w.heap.size w W) := fun W k => ⟨b1.1.below k, b1.2.keep k, Below.thru k1 k1.size k⟩
  have K1 := Lib.hid k1
  clear b1 k1
  have hcell := (HB1.out _ (Below.refl _ _)).1.cell (i := 1) rfl
  have hcs := (HB1.out _ (Below.refl _ _)).1
  go_enter Try.func8, Try.ntmps8
  go_upto_region 1 with fail
  generalize ((w.alloc (.cells (c6 nm (.slice p n c) dp dn gx gz) 26)).alloc (.cells #[.int .i64 x, .int .i64 z] 24)) = w1 at *
  go_cut [36] (fun cc wx => ∃ bb : Bool, cc = .bool bb ∧ Hid (bb = true ∨ n ≤ 20) ∧ Hid (Below w1.heap.size w1 wx))
  case first =>
    rename_i J K' hJ hK
    by_cases h20 : 20 < n
    · go_wp2
      all_goals
        refine Met.intro (hJ _ _ ?_)
        (repeat apply Exists.intro)
        exact ⟨⟨_, rfl, .inl rfl, Below.refl _ _⟩, rfl⟩
    · have s0 := hcs.cell (i := 0) rfl; have s1 := hcs.cell (i := 1) rfl; have s2 := hcs.cell (i := 2) rfl; have s3 := hcs.cell (i := 3) rfl; have s4 := hcs.cell (i := 4) rfl; have s5 := hcs.cell (i := 5) rfl
      go_wp2_with fail
      refine (HV.out _ K1.out (by omega)).mono ?_
      rintro e w2 ⟨⟨bv, rfl, hbv⟩, hb2⟩
      have K2 := Lib.hid hb2
      have HBV := Lib.hid hbv
      clear hb2 hbv s0 s1 s2 s3 s4 s5
      cases bv with
      | false =>
        go_wp2
        all_goals
          refine Met.intro (hJ _ _ ?_)
          (repeat apply Exists.intro)
          exact ⟨⟨_, rfl, .inr (by omega), K2.out⟩, rfl⟩
      | true =>
        have HV1 : Hid V := HBV.out.1 rfl
        have s1 := (HB1.out _ K2.out).1.cell (i := 1) rfl
        have hf0 := fun W => field24_0 (.int .i64 MX) (.int .i64 MZ) W
        have hf1 := fun W => field24_1 (.int .i64 MX) (.int .i64 MZ) W
        go_wp2_with fail
        refine (HHI.out _ (HB1.out _ K2.out).2.2 HV1.out (by omega)).mono ?_
        rintro e w3 ⟨rfl, hb3⟩
        have K3 := Lib.hid (Below.thru K2.out K2.out.size hb3)
        clear hb3 s1
        by_cases g1 : 300 < MX
        · go_wp2
          all_goals
            refine Met.intro (hJ _ _ ?_)
            (repeat apply Exists.intro)
            exact ⟨⟨_, rfl, .inr (by omega), K3.out⟩, rfl⟩
        · have s1 := (HB1.out _ K3.out).1.cell (i := 1) rfl
          go_wp2_with fail
          refine (HHI.out _ (HB1.out _ K3.out).2.2 HV1.out (by omega)).mono ?_
          rintro e w4 ⟨rfl, hb4⟩
          have K4 := Lib.hid (Below.thru K3.out K3.out.size hb4)
          clear hb4 s1
          go_wp2
          all_goals
            refine Met.intro (hJ _ _ ?_)
            (repeat apply Exists.intro)
            exact ⟨⟨_, rfl, .inr (by omega), K4.out⟩, rfl⟩
  obtain ⟨bb, rfl, HBB, HWC⟩ := hcut
  clear hcell hcs HHI
  cases bb with
  | true =>
    go_wp2_with fail
    refine (wakes_any _).mono ?_
    rintro e wd ⟨rfl, hbd⟩
    have k8 := (HB1.out _ (Below.thru HWC.out HWC.out.size hbd)).2.2
    clear hbd
    go_wp2
    go_ret
    exact ⟨rfl, k8⟩
  | false =>
    have h20 : n ≤ 20 := HBB.out.elim (fun h => by cases h) id
    have qc := HB1.out _ HWC.out
    have KW := Lib.hid qc.2.2
    have s0 := qc.1.cell (i := 0) rfl; have s1 := qc.1.cell (i := 1) rfl; have s2 := qc.1.cell (i := 2) rfl; have s3 := qc.1.cell (i := 3) rfl; have s4 := qc.1.cell (i := 4) rfl; have s5 := qc.1.cell (i := 5) rfl
    go_wp2_with fail
    refine (HS.out _ KW.out (by omega)).mono ?_
    rintro e w2 ⟨⟨v5, rfl, ho5⟩, hb2⟩
    have K2 := Lib.hid (Below.thru HWC.out HWC.out.size hb2)
    obtain ⟨a5, c5, rfl⟩ := HSL.out _ _ _ ho5
    have HO5 := Lib.hid ho5
    clear hb2 ho5 qc s0 s1 s2 s3 s4 s5
    obtain ⟨w3, hw3⟩ : ∃ w3, w3 = (w2.alloc (.cells (c6 nm (.slice a5 n c5) dp dn gx gz) 34)).alloc (.cells #[.int .i64 x, .int .i64 z] 32) := ⟨_, rfl⟩
    have hb3 : Below w2.heap.size w2 w3 := by rw [hw3]; exact bl2 w2 _ _
    have K3 := Lib.hid (Below.thru K2.out K2.out.size hb3)
    have b7 : Blk w2.heap.size (c6 nm (.slice a5 n c5) dp dn gx gz) 34 w3 := by rw [hw3]; exact (Blk.new _ _ _).alloc _
    have b8 : B2 (w2.heap.size + 1) x z w3 := by rw [hw3]; exact ⟨by simp [go_sem], by simp [go_sem], by simp [go_sem], by simp [go_sem]⟩
    have HP5 := Lib.hid (HP.out _ _ _ _ (by omega) HO5.out hb3)
    have q3 := HB1.out _ K3.out
    have HBC : Hid (∀ W, Below w3.heap.size w3 W → Blk w.heap.size (c6 nm (.slice p n c) dp dn gx gz) 26 W ∧ B2 (w.heap.size + 1) x z W ∧ (Blk w2.heap.size (c6 nm (.slice a5 n c5) dp dn gx gz) 34 W ∧ B2 (w2.heap.size + 1) x z W) ∧ Below w.heap.size w W) := fun W k => ⟨q3.1.below k, q3.2.1.keep k, ⟨b7.below k, b8.keep k⟩, Below.thru q3.2.2 q3.2.2.size k⟩
    have HW3 := Lib.hid hw3
    have qx := HB1.out _ (Below.thru K2.out K2.out.size (bl1 w2 (.cells (c6 nm (.slice a5 n c5) dp dn gx gz) 34)))
    obtain ⟨e0, e1, _, _⟩ := qx.2.1
    obtain ⟨p0, p1, _, _⟩ := (HB1.out _ K2.out).2.1
    have t0 := b7.cell (i := 0) rfl; have t1 := b7.cell (i := 1) rfl; have t2 := b7.cell (i := 2) rfl; have t3 := b7.cell (i := 3) rfl; have t4 := b7.cell (i := 4) rfl; have t5 := b7.cell (i := 5) rfl
    obtain ⟨r0, r1, _, _⟩ := id b8
    rw [hw3] at t0 t1 t2 t3 t4 t5 r0 r1
    clear hw3 q3 hb3 b7 b8 qx
    go_wp2_with fail
    rw [← HW3.out]
    clear t0 t1 t2 t3 t4 t5 r0 r1 e0 e1 p0 p1
    refine (HO1.out w3 _ HP5.out).mono ?_
    rintro e w4 hx
    obtain ⟨pa, na, ca, er1, rfl, hb4, HA1⟩ := HAN.out _ _ _ hx
    have K4 := Lib.hid hb4
    clear hx hb4
    have q4 := HBC.out _ K4.out
    have t0 := q4.2.2.1.1.cell (i := 0) rfl; have t1 := q4.2.2.1.1.cell (i := 1) rfl; have t2 := q4.2.2.1.1.cell (i := 2) rfl; have t3 := q4.2.2.1.1.cell (i := 3) rfl; have t4 := q4.2.2.1.1.cell (i := 4) rfl; have t5 := q4.2.2.1.1.cell (i := 5) rfl
    obtain ⟨r0, r1, _, _⟩ := q4.2.2.1.2
    clear q4
    go_wp2_with fail
    clear t0 t1 t2 t3 t4 t5 r0 r1
    refine (HO2.out w4 _ (HP5.out.keep K4.out)).mono ?_
    rintro e w5 hx
    obtain ⟨nn, er2, rfl, hb5, HA2⟩ := HSN.out _ _ _ hx
    have K45 := Lib.hid hb5
    have K5 := Lib.hid (Below.thru K4.out K4.out.size hb5)
    have HBQ : Hid (∀ W, Below w5.heap.size w5 W → Blk w.heap.size (c6 nm (.slice p n c) dp dn gx gz) 26 W ∧ B2 (w.heap.size + 1) x z W ∧ True ∧ Below w.heap.size w W) := fun W k => by
      have h := HBC.out W (Below.thru K5.out K5.out.size k)
      exact ⟨h.1, h.2.1, trivial, h.2.2.2⟩
    have HBAD : Hid (∀ er, er ≠ 0 → BE er → er1 = er ∧ Value.slice pa na ca = .slice none 0 0 ∧ er2 = er ∧ nn = 0) := fun er h0 hb => by
      have e1 := HB1E.out _ _ HA1.out.1 hb
      obtain ⟨er0, hb0, h⟩ := HA2.out
      have e2 := HB1E.out _ _ hb0 hb
      refine ⟨e1, ?_, ?_⟩
      · rcases HA1.out.2 with ⟨h, _⟩ | ⟨_, h⟩
        · exact absurd (e1.symm.trans h) h0
        · exact h
      · rcases h with ⟨_, h1, h2⟩ | ⟨h1, _⟩ | ⟨h1, _⟩
        · exact ⟨h1.trans e2, h2⟩
        · exact absurd (e2.symm.trans h1) h0
        · exact absurd (e2.symm.trans h1) h0
    have q5 := HBQ.out _ (Below.refl _ _)
    have s0 := q5.1.cell (i := 0) rfl; have s1 := q5.1.cell (i := 1) rfl; have s2 := q5.1.cell (i := 2) rfl; have s3 := q5.1.cell (i := 3) rfl; have s4 := q5.1.cell (i := 4) rfl; have s5 := q5.1.cell (i := 5) rfl
    have KW5 := Lib.hid q5.2.2.2
    clear hx hb5 q5
    go_wp2_with fail
    refine (HV.out w5 KW5.out (by omega)).mono ?_
    rintro e w6 ⟨⟨bv, rfl, hbv⟩, hb6⟩
    have K6 := Lib.hid hb6
    have HBV := Lib.hid hbv
    clear hb6 hbv s0 s1 s2 s3 s4 s5
    cases bv with
    | false =>
      have hv : ¬ V := fun h => by cases HBV.out.2 h
      have HEE := (HBE.out 2).2 (.inl ⟨hv, rfl⟩)
      clear hv
      obtain ⟨e1, e2, e3, e4⟩ := HBAD.out 2 (by decide) HEE
      subst e1 e3 e4
      cases e2
      clear HEE
      go_wp2_with fail
      refine (wakes_any _).mono ?_
      rintro e wd ⟨rfl, hbd⟩
      have k8 := (HBQ.out _ (Below.thru K6.out K6.out.size hbd)).2.2.2
      clear hbd
      go_wp2
      go_ret
      exact ⟨rfl, k8⟩
    | true =>
      have HV1 : Hid V := HBV.out.1 rfl
      have q6 := HBQ.out _ K6.out
      have s1 := q6.1.cell (i := 1) rfl
      obtain ⟨p0, p1, _, _⟩ := q6.2.1
      have KW6 := Lib.hid q6.2.2.2
      clear q6
      go_wp2_with fail
      refine (HIB.out w6 KW6.out HV1.out (by omega)).mono ?_
      rintro e w7 ⟨⟨bp, rfl, hbp⟩, hb7⟩
      have K7 := Lib.hid (Below.thru K6.out K6.out.size hb7)
      have HBP := Lib.hid hbp
      clear hb7 hbp s1 p0 p1
      cases bp with
      | false =>
        have hp : ¬ IP := fun h => by cases HBP.out.2 h
        have HEE := (HBE.out 8).2 (.inr (.inl ⟨HV1.out, hp, rfl⟩))
        clear hp
        obtain ⟨e1, e2, e3, e4⟩ := HBAD.out 8 (by decide) HEE
        subst e1 e3 e4
        cases e2
        clear HEE
        go_wp2_with fail
        refine (wakes_any _).mono ?_
        rintro e wd ⟨rfl, hbd⟩
        have k8 := (HBQ.out _ (Below.thru K7.out K7.out.size hbd)).2.2.2
        clear hbd
        go_wp2
        go_ret
        exact ⟨rfl, k8⟩
      | true =>
        have HP1 : Hid IP := HBP.out.1 rfl
        have hts : t < 0 ∨ (¬ t < 0 ∧ 100 < t) ∨ (¬ t < 0 ∧ ¬ 100 < t) := by omega
        rcases hts with u1 | ⟨u1, u2⟩ | ⟨u1, u2⟩
        · have HEE := (HBE.out 3).2 (.inr (.inr (.inl ⟨⟨HV1.out, HP1.out⟩, by omega, rfl⟩)))
          obtain ⟨e1, e2, e3, e4⟩ := HBAD.out 3 (by decide) HEE
          subst e1 e3 e4
          cases e2
          clear HEE
          go_wp2_with fail
          refine (wakes_any _).mono ?_
          rintro e wd ⟨rfl, hbd⟩
          have k8 := (HBQ.out _ (Below.thru K7.out K7.out.size hbd)).2.2.2
          clear hbd
          go_wp2
          go_ret
          exact ⟨rfl, k8⟩
        · have HEE := (HBE.out 3).2 (.inr (.inr (.inl ⟨⟨HV1.out, HP1.out⟩, by omega, rfl⟩)))
          obtain ⟨e1, e2, e3, e4⟩ := HBAD.out 3 (by decide) HEE
          subst e1 e3 e4
          cases e2
          clear HEE
          go_wp2_with fail
          refine (wakes_any _).mono ?_
          rintro e wd ⟨rfl, hbd⟩
          have k8 := (HBQ.out _ (Below.thru K7.out K7.out.size hbd)).2.2.2
          clear hbd
          go_wp2
          go_ret
          exact ⟨rfl, k8⟩
        · have htt : 0 ≤ t ∧ t ≤ 100 := by omega
          have HE0 := (HBE.out 0).2 (.inr (.inr (.inr ⟨⟨HV1.out, HP1.out⟩, htt, rfl⟩)))
          obtain rfl : er1 = 0 := HB1E.out _ _ HA1.out.1 HE0
          have HOW : Hid (Own w4 w3.heap.size (.slice pa na ca) Q) := by
            rcases HA1.out.2 with ⟨_, h⟩ | ⟨h, _⟩
            · exact h
            · exact absurd rfl h
          have HAQ : Hid ((Q = [] ∧ er2 = 8 ∧ nn = 0) ∨ (Q ≠ [] ∧ er2 = 0 ∧ nn = SQ)) := by
            obtain ⟨er0, hb0, h⟩ := HA2.out
            have e2 := HB1E.out _ _ hb0 HE0
            rcases h with ⟨h1, _⟩ | ⟨_, h⟩ | ⟨_, h⟩
            · exact absurd e2 h1
            · exact .inl h
            · exact .inr h
          have hql := HOL.out HV1.out HP1.out
          have q7 := HBQ.out _ K7.out
          have s0 := q7.1.cell (i := 0) rfl; have s1 := q7.1.cell (i := 1) rfl; have s2 := q7.1.cell (i := 2) rfl; have s3 := q7.1.cell (i := 3) rfl; have s4 := q7.1.cell (i := 4) rfl; have s5 := q7.1.cell (i := 5) rfl
          obtain ⟨p0, p1, _, _⟩ := q7.2.1
          have KW7 := Lib.hid q7.2.2.2
          have HRO2 := Lib.hid (HRO.out w7 KW7.out HV1.out HP1.out htt (by omega))
          clear q7 htt HE0
          go_wp2_with fail
          refine HRO2.out.mono ?_
          rintro e w8 ⟨⟨v14, rfl, ho14⟩, hb8⟩
          have K8 := Lib.hid (Below.thru K7.out K7.out.size hb8)
          have HO14 := Lib.hid ho14
          have HSM : Hid (Calls Try.prog 33 #[.slice pa na ca, v14] w8 fun e w' => e = .returned (.bool true) ∧ Below w8.heap.size w8 w') :=
            samePoints_any _ _ Q w8 ((HOW.out.pts (by omega)).keep (Below.thru K45.out K45.out.size K8.out)) (HO14.out.pts (by omega)) (by omega)
          clear hb8 ho14 s0 s1 s2 s3 s4 s5 p0 p1
          obtain ⟨a14, m14, c14, rfl⟩ := own_form HO14.out
          go_wp2_with fail
          refine HSM.out.mono ?_
          rintro e w9 ⟨rfl, hb9⟩
          have K89 := Lib.hid hb9
          have K9 := Lib.hid (Below.thru K8.out K8.out.size hb9)
          clear hb9
          rcases HAQ.out with ⟨hQ, rfl, rfl⟩ | ⟨hQ, rfl, rfl⟩
          · obtain rfl : m14 = 0 := by
              have h := HO14.out.row
              rw [hQ] at h
              rcases h with ⟨h, _⟩ | ⟨g, cc, h, _⟩
              · cases h; rfl
              · cases h; rfl
            clear hQ
            go_wp2_with fail
            refine (wakes_any _).mono ?_
            rintro e wd ⟨rfl, hbd⟩
            have k8 := (HBQ.out _ (Below.thru K9.out K9.out.size hbd)).2.2.2
            clear hbd
            go_wp2
            go_ret
            exact ⟨rfl, k8⟩
          · have hq0 : 0 < Q.length := List.length_pos_iff.2 hQ
            obtain ⟨g14, cc14, hve, hrow14, -⟩ := OwnR.at' HO14.out hq0
            cases hve
            have q9 := HBQ.out _ K9.out
            have s0 := q9.1.cell (i := 0) rfl; have s1 := q9.1.cell (i := 1) rfl; have s2 := q9.1.cell (i := 2) rfl; have s3 := q9.1.cell (i := 3) rfl; have s4 := q9.1.cell (i := 4) rfl; have s5 := q9.1.cell (i := 5) rfl
            obtain ⟨p0, p1, _, _⟩ := q9.2.1
            have HRS2 := Lib.hid (fun cc => HRS.out w9 g14 cc q9.2.2.2 HV1.out HP1.out (by omega) (hrow14.keep K89.out) hq0)
            have hqn : ¬ Q.length = 0 := by omega
            clear q9 hQ hrow14
            generalize Q.length = ql at *
            go_wp2_with fail
            refine (HRS2.out _).mono ?_
            rintro e w10 ⟨rfl, hb10⟩
            have K10 := Lib.hid (Below.thru K9.out K9.out.size hb10)
            clear hb10 s0 s1 s2 s3 s4 s5 p0 p1
            go_wp2_with fail
            refine (wakes_any _).mono ?_
            rintro e wd ⟨rfl, hbd⟩
            have k8 := (HBQ.out _ (Below.thru K10.out K10.out.size hbd)).2.2.2
            clear hbd
            go_wp2
            go_ret
            exact ⟨rfl, k8⟩
end Go.Proofs.Ytljmhejljpfaiaa
