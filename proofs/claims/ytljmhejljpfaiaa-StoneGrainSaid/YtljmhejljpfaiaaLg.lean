import Derived.Test.YtljmhejljpfaiaaJa
import Derived.Test.YtljmhejljpfaiaaCb
import Derived.Test.YtljmhejljpfaiaaFd
import Derived.Test.YtljmhejljpfaiaaBc
import Derived.Test.YtljmhejljpfaiaaGh
import Derived.Test.YtljmhejljpfaiaaHd
import Derived.Test.YtljmhejljpfaiaaDi
namespace Go.Proofs.Ytljmhejljpfaiaa
open Go.RowKit Go.Shelf

/-! plain mathematics: the pieces of a cut are convex -/
def TrL : List Pt → Prop
  | [] => True
  | a :: t => TrL t ∧ t.Pairwise (fun b c => 0 < D3 a b c)
theorem TrL.tr : ∀ {l : List Pt}, TrL l → Tr l
  | [], _ => fun i j k _ _ hk => absurd hk (by simp)
  | a :: t, h => fun i j k hij hjk hk => by
    have ht := TrL.tr h.1
    have e : ∀ m, pt (a :: t) (m + 1) = pt t m := fun m => by unfold pt; simp
    obtain ⟨j, rfl⟩ : ∃ m, j = m + 1 := ⟨j - 1, by omega⟩
    obtain ⟨k, rfl⟩ : ∃ m, k = m + 1 := ⟨k - 1, by omega⟩
    rw [List.length_cons] at hk
    rw [e, e]
    cases i with
    | zero =>
      have hp := List.pairwise_iff_getElem.1 h.2 j k (by omega) (by omega) (by omega)
      have eg : ∀ m (hm : m < t.length), pt t m = t[m] := fun m hm => by unfold pt; simp [hm]
      rw [eg j (by omega), eg k (by omega)]
      have e0 : pt (a :: t) 0 = a := rfl
      rw [e0]
      exact hp
    | succ i =>
      rw [e]
      exact ht i j k (by omega) (by omega) (by omega)
theorem TrL.sub : ∀ {l m : List Pt}, m.Sublist l → TrL l → TrL m := by
  intro l m h
  induction h with
  | slnil => intro h; exact h
  | cons a _ ih => intro h; exact ih h.1
  | cons_cons a hs ih => intro h; exact ⟨ih h.1, h.2.sublist hs⟩
theorem TrL.snoc {p : Pt} : ∀ {W : List Pt}, TrL W → W.Pairwise (fun a b => 0 < D3 a b p) → TrL (W ++ [p])
  | [], _, _ => ⟨trivial, List.Pairwise.nil⟩
  | a :: t, h, hp => by
    have hp' := List.pairwise_cons.1 hp
    refine ⟨TrL.snoc h.1 hp'.2, ?_⟩
    show (t ++ [p]).Pairwise (fun b c => 0 < D3 a b c)
    rw [List.pairwise_append]
    exact ⟨h.2, List.pairwise_singleton _ _, fun b hb c hc => by rw [List.mem_singleton.1 hc]; exact hp'.1 b hb⟩
theorem trl_behind {l : List Pt} (ht : Tr l) : ∀ k i, k ≤ l.length → TrL (behind l i k)
  | 0, _, _ => trivial
  | k + 1, i, hk => by
    rw [behind_succ]
    refine ⟨trl_behind ht k (i + 1) (by omega), ?_⟩
    unfold behind
    rw [List.pairwise_map]
    refine List.Pairwise.imp_of_mem (R := fun a b => a < b) (fun {a b} ha hb hlt => ?_) List.pairwise_lt_range
    have := List.mem_range.1 hb
    exact ht.cyc _ _ _ (by omega) (by omega) (by omega)
theorem Ct.trl {l : List Pt} {p q : Pt} {i d : Nat} (h : Ct l p q i d) : TrL (q :: ((behind l i d).filter (fun c => decide (c ≠ p)) ++ [p])) := by
  obtain ⟨A, B, mp⟩ := h.hp.mx
  obtain ⟨C, D, mq⟩ := h.hq.mx
  have hA := mp.na h.hp'
  have hC := mq.na h.hq'
  have hd := h.hd; have hn := h.hn
  have s1 : TrL ((behind l i d).filter (fun c => decide (c ≠ p))) := (trl_behind h.tr d i (by omega)).sub List.filter_sublist
  have s2 : ((behind l i d).filter (fun c => decide (c ≠ p))).Pairwise (fun a b => 0 < D3 a b p) := by
    rw [List.pairwise_filter]
    unfold behind
    rw [List.pairwise_map]
    refine List.Pairwise.imp_of_mem (R := fun a b => a < b) (fun {a b} ha hb hlt _ hpb => ?_) List.pairwise_lt_range
    have hb := List.mem_range.1 hb
    have hne : pc l (i + 1 + b) ≠ p := by simpa using hpb
    have e := mp.d3 (pc l (i + 1 + a)) (pc l (i + 1 + b))
    rw [D3_rot] at e
    have r1 : D3 (pc l (i + d)) (pc l (i + 1 + a)) (pc l (i + 1 + b)) = D3 (pc l (i + 1 + a)) (pc l (i + 1 + b)) (pc l (i + d)) := D3_rot _ _ _
    have r2 : D3 (pc l (i + d + 1)) (pc l (i + 1 + a)) (pc l (i + 1 + b)) = D3 (pc l (i + 1 + a)) (pc l (i + 1 + b)) (pc l (i + d + 1)) := D3_rot _ _ _
    rw [r1, r2] at e
    have t1 := h.tr.cyc0 (a := i + 1 + a) (b := i + 1 + b) (c := i + d) (by omega) (by omega) (by omega)
    have t2 := h.tr.cyc0 (a := i + 1 + a) (b := i + 1 + b) (c := i + d + 1) (by omega) (by omega) (by omega)
    have u1 := Int.mul_nonneg (show 0 ≤ A by omega) t1
    have u2 := Int.mul_nonneg mp.hb t2
    have hpos : 0 < (A + B) * D3 (pc l (i + 1 + a)) (pc l (i + 1 + b)) p := by
      rw [e]
      rcases Nat.lt_or_ge (1 + b) d with q1 | q1
      · have := Int.mul_pos hA (h.tr.cyc (i + 1 + a) (i + 1 + b) (i + d) (by omega) (by omega) (by omega))
        omega
      · have hB := mp.nb (fun k => hne (by rw [k]; congr 1; omega))
        have := Int.mul_pos hB (h.tr.cyc (i + 1 + a) (i + 1 + b) (i + d + 1) (by omega) (by omega) (by omega))
        omega
    rcases Int.lt_or_le 0 (D3 (pc l (i + 1 + a)) (pc l (i + 1 + b)) p) with q1 | q1
    · exact q1
    · have := Int.mul_nonneg (show 0 ≤ A + B by have := mp.hb; omega) (show 0 ≤ -D3 (pc l (i + 1 + a)) (pc l (i + 1 + b)) p by omega)
      rw [Int.mul_neg] at this
      omega
  have s3 : ((behind l i d).filter (fun c => decide (c ≠ p))).Pairwise (fun a b => 0 < D3 q a b) := by
    rw [List.pairwise_filter]
    unfold behind
    rw [List.pairwise_map]
    refine List.Pairwise.imp_of_mem (R := fun a b => a < b) (fun {a b} ha hb hlt _ _ => ?_) List.pairwise_lt_range
    have hb := List.mem_range.1 hb
    have e := mq.d3 (pc l (i + 1 + a)) (pc l (i + 1 + b))
    have t2 := h.tr.cyc0 (a := i + 1) (b := i + 1 + a) (c := i + 1 + b) (by omega) (by omega) (by omega)
    have u2 := Int.mul_nonneg mq.hb t2
    have := Int.mul_pos hC (h.tr.cyc i (i + 1 + a) (i + 1 + b) (by omega) (by omega) (by omega))
    rcases Int.lt_or_le 0 (D3 q (pc l (i + 1 + a)) (pc l (i + 1 + b))) with q1 | q1
    · exact q1
    · have := Int.mul_nonneg (show 0 ≤ C + D by have := mq.hb; omega) (show 0 ≤ -D3 q (pc l (i + 1 + a)) (pc l (i + 1 + b)) by omega)
      rw [Int.mul_neg] at this
      omega
  refine ⟨s1.snoc s2, ?_⟩
  rw [List.pairwise_append]
  refine ⟨s3, List.pairwise_singleton _ _, fun a ha b hb => ?_⟩
  rw [List.mem_singleton.1 hb]
  obtain ⟨ha1, ha2⟩ := List.mem_filter.1 ha
  obtain ⟨m, h1, h2, e⟩ := behind_mem.1 ha1
  have := h.pos h1 h2 (by rw [e]; simpa using ha2)
  rw [e, D3_rot] at this
  exact this
theorem Ct.some {l : List Pt} {p q : Pt} {i d : Nat} (h : Ct l p q i d) : 0 < ((behind l i d).filter (fun c => decide (c ≠ p))).length := by
  have hd := h.hd; have hn := h.hn; have h3 := h.h3
  refine List.length_pos_of_mem (a := pc l (i + 1)) (List.mem_filter.2 ⟨behind_mem.2 ⟨1, by omega, by omega, rfl⟩, ?_⟩)
  simp only [ne_eq, decide_not, Bool.not_eq_true', decide_eq_false_iff_not]
  intro e
  rcases Nat.lt_or_ge 1 d with q1 | q1
  · have h5 := h.tr.cyc (i + 1) (i + d) (i + d + 1) (by omega) (by omega) (by omega)
    rw [e, D3_rot, h.hp.2.2] at h5
    omega
  · obtain rfl : d = 1 := by omega
    refine h.hc i ⟨?_, h.hq⟩
    rw [← e]
    exact ⟨by unfold Bt; omega, by unfold Bt; omega, D3_same _ _⟩
theorem part_trl {l : List Pt} {p q : Pt} (ht : Tr l) (h3 : 3 ≤ l.length) (hp : IsP l p.1 p.2) (hq : IsP l q.1 q.2) (hc : CanC l p.1 p.2 q.1 q.2) : Tr (partL l q p) ∧ 3 ≤ (partL l q p).length := by
  have h := ct_of ht h3 hp hq hc
  have hi : eo l q < l.length := eo_isp hq
  have w1 := wkR_behind l p (dist l.length (eo l q) (eo l p)) (eo l q)
  rw [Nat.mod_eq_of_lt hi] at w1
  have e : partL l q p = q :: ((behind l (eo l q) (dist l.length (eo l q) (eo l p))).filter (fun c => decide (c ≠ p)) ++ [p]) := by
    unfold partL
    rw [w1]
    rfl
  rw [e]
  refine ⟨h.trl.tr, ?_⟩
  have := h.some
  simp only [List.length_cons, List.length_append, List.length_nil]
  omega
end Go.Proofs.Ytljmhejljpfaiaa
namespace Go.Proofs.Ytljmhejljpfaiaa
open Go.RowKit Go.Shelf

/-! plain mathematics: sums over the edges of a shape, of any quantity that an edge's parts add up to -/
/-- an amount of an edge: turned round it changes its sign; that of the edge of a cut adds up -/
structure Amt (g : Pt → Pt → Int) : Prop where
  self : ∀ a, g a a = 0
  swap : ∀ a b, g a b + g b a = 0
  on : ∀ a b c A B, Mx a b c A B → 0 < A + B → g a c + g c b = g a b
section
variable {g : Pt → Pt → Int}
def pthG (g : Pt → Pt → Int) : List Pt → Int
  | a :: b :: t => g a b + pthG g (b :: t)
  | _ => 0
theorem pthG_cons (a b : Pt) (t : List Pt) : pthG g (a :: b :: t) = g a b + pthG g (b :: t) := rfl
theorem pthG_join (x : Pt) (t : List Pt) : ∀ s : List Pt, pthG g (s ++ x :: t) = pthG g (s ++ [x]) + pthG g (x :: t)
  | [] => by show pthG g (x :: t) = 0 + pthG g (x :: t); omega
  | [a] => by show g a x + pthG g (x :: t) = (g a x + 0) + pthG g (x :: t); omega
  | a :: b :: s => by
    have := pthG_join x t (b :: s)
    show g a b + pthG g (b :: s ++ x :: t) = (g a b + pthG g (b :: s ++ [x])) + pthG g (x :: t)
    omega
/-- around a shape -/
def twG (g : Pt → Pt → Int) (l : List Pt) : Int := rsm (fun k => g (pc l k) (pc l (k + 1))) l.length
def pIG (g : Pt → Pt → Int) (l : List Pt) (a k : Nat) : Int := rsm (fun m => g (pc l (a + m)) (pc l (a + m + 1))) k
theorem pIG_add (l : List Pt) (a x y : Nat) : pIG g l a (x + y) = pIG g l a x + pIG g l (a + x) y := by
  unfold pIG
  rw [rsm_add]
  congr 1
  exact rsm_congr y fun i _ => by rw [Nat.add_assoc a x i]
theorem pIG_one (l : List Pt) (a : Nat) : pIG g l a 1 = g (pc l a) (pc l (a + 1)) := by
  show 0 + g (pc l (a + 0)) (pc l (a + 0 + 1)) = _
  rw [Nat.add_zero]; omega
theorem pIG_behind (l : List Pt) (i : Nat) : ∀ k, pthG g (behind l i (k + 1)) = pIG g l (i + 1) k
  | 0 => rfl
  | k + 1 => by
    have ih := pIG_behind l (i + 1) k
    rw [behind_succ, behind_succ, pthG_cons, ← behind_succ, ih, Nat.add_comm k 1, pIG_add, pIG_one]
theorem pIG_round (l : List Pt) : ∀ a, pIG g l a l.length = pIG g l 0 l.length
  | 0 => rfl
  | a + 1 => by
    have ih := pIG_round l a
    have h1 := pIG_add (g := g) l a 1 l.length
    have h2 := pIG_add (g := g) l a l.length 1
    rw [Nat.add_comm l.length 1] at h2
    rw [h1, pIG_one, pIG_one] at h2
    have e : g (pc l (a + l.length)) (pc l (a + l.length + 1)) = g (pc l a) (pc l (a + 1)) := by
      rw [pc_add, show a + l.length + 1 = a + 1 + l.length by omega, pc_add]
    rw [e] at h2
    omega
theorem twG_at (l : List Pt) (a : Nat) : twG g l = pIG g l a l.length := by
  rw [pIG_round l a]
  unfold twG pIG
  refine rsm_congr _ fun i _ => ?_
  rw [Nat.zero_add]
theorem twG_pth (a : Pt) (t : List Pt) : twG g (a :: t) = pthG g ((a :: t) ++ [a]) := by
  have gen : ∀ (l : List Pt), rsm (fun i => g (l.getD i (0, 0)) (l.getD (i + 1) (0, 0))) (l.length - 1) = pthG g l := by
    intro l
    induction l with
    | nil => rfl
    | cons x l ih =>
      cases l with
      | nil => rfl
      | cons y l =>
        show rsm _ (l.length + 1) = _
        rw [rsm_shift, pthG_cons]
        congr 1
  have h := gen ((a :: t) ++ [a])
  rw [← h]
  have e : ((a :: t) ++ [a]).length - 1 = (a :: t).length := by simp
  rw [e]
  unfold twG
  refine rsm_congr _ fun i hi => ?_
  have e1 : ((a :: t) ++ [a]).getD i (0, 0) = pc (a :: t) i := by
    unfold pc pt
    rw [Nat.mod_eq_of_lt hi]
    simp only [List.getD_eq_getElem?_getD]
    rw [List.getElem?_append_left hi]
  have e2 : ((a :: t) ++ [a]).getD (i + 1) (0, 0) = pc (a :: t) (i + 1) := by
    unfold pc pt
    simp only [List.getD_eq_getElem?_getD]
    rcases Nat.lt_or_ge (i + 1) (a :: t).length with q | q
    · rw [List.getElem?_append_left q, Nat.mod_eq_of_lt q]
    · have : i + 1 = (a :: t).length := by omega
      rw [List.getElem?_append_right q, this, Nat.sub_self, Nat.mod_self]
      rfl
  rw [e1, e2]
theorem Ct.areaG (hg : Amt g) {l : List Pt} {p q : Pt} {i d : Nat} (h : Ct l p q i d) :
    twG g (([q] ++ (behind l i d).filter (fun c => decide (c ≠ p))) ++ [p]) = g q (pc l (i + 1)) + pIG g l (i + 1) (d - 1) + g (pc l (i + d)) p + g p q := by
  obtain ⟨k, rfl⟩ : ∃ k, d = k + 1 := ⟨d - 1, by have := h.hd; omega⟩
  have hn := h.hn
  have hne : ∀ m, 1 ≤ m → m ≤ k → pc l (i + m) ≠ p := fun m h1 h2 e => by
    have h5 := h.tr.cyc (i + m) (i + (k + 1)) (i + (k + 1) + 1) (by omega) (by omega) (by omega)
    rw [e, D3_rot, h.hp.2.2] at h5
    omega
  have hB : behind l i (k + 1) = behind l i k ++ [pc l (i + (k + 1))] := by
    rw [behind_add]
    show _ ++ [pc l (i + k + 1 + 0)] = _
    rw [show i + k + 1 + 0 = i + (k + 1) by omega]
  have hF : (behind l i k).filter (fun c => decide (c ≠ p)) = behind l i k := List.filter_eq_self.2 fun c hc => by
    obtain ⟨m, h1, h2, e⟩ := behind_mem.1 hc
    have := hne m h1 h2
    rw [e] at this
    simpa using this
  have hT : pthG g (q :: behind l i (k + 1)) = g q (pc l (i + 1)) + pIG g l (i + 1) k := by
    rw [← pIG_behind, behind_succ, pthG_cons]
  show twG g (q :: ((behind l i (k + 1)).filter (fun c => decide (c ≠ p)) ++ [p])) = _
  rw [twG_pth, Nat.add_sub_cancel]
  have key : pthG g (q :: ((behind l i (k + 1)).filter (fun c => decide (c ≠ p)) ++ [p])) = g q (pc l (i + 1)) + pIG g l (i + 1) k + g (pc l (i + (k + 1))) p := by
    rw [hB, List.filter_append, hF]
    by_cases hp : pc l (i + (k + 1)) = p
    · have : [pc l (i + (k + 1))].filter (fun c => decide (c ≠ p)) = [] := by rw [hp]; simp
      rw [this, List.append_nil, hp, hg.self]
      rw [← hT, hB, hp]
      omega
    · have : [pc l (i + (k + 1))].filter (fun c => decide (c ≠ p)) = [pc l (i + (k + 1))] := by simp [hp]
      rw [this]
      have e : q :: (behind l i k ++ [pc l (i + (k + 1))] ++ [p]) = (q :: behind l i k) ++ pc l (i + (k + 1)) :: [p] := by simp
      rw [e, pthG_join]
      have e2 : (q :: behind l i k) ++ [pc l (i + (k + 1))] = q :: behind l i (k + 1) := by rw [hB]; rfl
      rw [e2, hT]
      show _ + (g _ _ + 0) = _
      omega
  have e : q :: ((behind l i (k + 1)).filter (fun c => decide (c ≠ p)) ++ [p]) ++ [q] = (q :: (behind l i (k + 1)).filter (fun c => decide (c ≠ p))) ++ p :: [q] := by simp
  rw [e, pthG_join]
  have e2 : (q :: (behind l i (k + 1)).filter (fun c => decide (c ≠ p))) ++ [p] = q :: ((behind l i (k + 1)).filter (fun c => decide (c ≠ p)) ++ [p]) := rfl
  rw [e2, key]
  show _ + (g p q + 0) = _
  omega
theorem OnE.mx' {a b p : Pt} (h : OnE a b p) (hne : p ≠ b) : ∃ A B, Mx a b p A B ∧ 0 < A + B := by
  obtain ⟨A, B, m⟩ := h.mx
  exact ⟨A, B, m, by have := m.na hne; have := m.hb; omega⟩
theorem Ct.areasG (hg : Amt g) {l : List Pt} {p q : Pt} {i d : Nat} (h : Ct l p q i d) :
    twG g (([q] ++ (behind l i d).filter (fun c => decide (c ≠ p))) ++ [p]) + twG g (([p] ++ (behind l (i + d) (l.length - d)).filter (fun c => decide (c ≠ q))) ++ [q]) = twG g l := by
  have hd := h.hd; have hn := h.hn
  have h1 := h.areaG hg
  have h2 := h.swap.areaG hg
  obtain ⟨A, B, m1, m1'⟩ := h.hq.mx' h.hq'
  obtain ⟨C, D, m2, m2'⟩ := h.hp.mx' h.hp'
  have e1 := hg.on _ _ _ _ _ m1 m1'
  have e2 := hg.on _ _ _ _ _ m2 m2'
  have e3 : i + d + (l.length - d) = i + l.length := by omega
  rw [e3, pc_add] at h2
  have e4 : pIG g l (i + 1) l.length = pIG g l (i + 1) (d - 1) + g (pc l (i + d)) (pc l (i + d + 1)) + pIG g l (i + d + 1) (l.length - d - 1) + g (pc l i) (pc l (i + 1)) := by
    have e : l.length = (d - 1) + (1 + ((l.length - d - 1) + 1)) := by omega
    have e9 : pIG g l (i + 1) l.length = pIG g l (i + 1) ((d - 1) + (1 + ((l.length - d - 1) + 1))) := by rw [← e]
    rw [e9, pIG_add, pIG_add, pIG_add, pIG_one, pIG_one]
    have a1 : i + 1 + (d - 1) = i + d := by omega
    have a2 : i + d + 1 + (l.length - d - 1) = i + l.length := by omega
    rw [a1, a2, show i + l.length + 1 = i + 1 + l.length by omega, pc_add, pc_add]
    omega
  have e5 := twG_at (g := g) l (i + 1)
  have e6 := hg.swap p q
  rw [h1, h2, e5, e4]
  omega
theorem areasG (hg : Amt g) {l : List Pt} {p q : Pt} (ht : Tr l) (h3 : 3 ≤ l.length) (hp : IsP l p.1 p.2) (hq : IsP l q.1 q.2) (hc : CanC l p.1 p.2 q.1 q.2) : twG g (partL l q p) + twG g (partL l p q) = twG g l := by
  have h := ct_of ht h3 hp hq hc
  have h1 := h.areasG hg
  have hi : eo l q < l.length := eo_isp hq
  have hj : eo l p < l.length := eo_isp hp
  have w1 := wkR_behind l p (dist l.length (eo l q) (eo l p)) (eo l q)
  have w2 := wkR_behind l q (dist l.length (eo l p) (eo l q)) (eo l p)
  rw [Nat.mod_eq_of_lt hi] at w1
  rw [Nat.mod_eq_of_lt hj] at w2
  have hne : eo l q ≠ eo l p := fun e => by have := h.hd; unfold dist at this; rw [e] at this; simp at this
  have ed : l.length - dist l.length (eo l q) (eo l p) = dist l.length (eo l p) (eo l q) := by unfold dist; split <;> split <;> omega
  have eb : ∀ k, behind l (eo l q + dist l.length (eo l q) (eo l p)) k = behind l (eo l p) k := fun k => by
    unfold behind
    refine List.map_congr_left fun m _ => ?_
    obtain ⟨_, _, d3⟩ := dist_to hi hj hne
    unfold pc
    rw [show eo l q + dist l.length (eo l q) (eo l p) + 1 + m = (eo l q + dist l.length (eo l q) (eo l p)) + (1 + m) by omega, ← Nat.mod_add_mod, d3, Nat.add_assoc]
  rw [eb, ed] at h1
  unfold partL
  rw [w1, w2]
  exact h1
end
/-- the amounts that make the centre -/
def gX (a b : Pt) : Int := (a.1 + b.1) * cr2 a b
def gZ (a b : Pt) : Int := (a.2 + b.2) * cr2 a b
theorem zero_of {N x : Int} (hN : 0 < N) (h : N * N * x = 0) : x = 0 := by
  rcases Int.mul_eq_zero.1 h with h | h
  · have := Int.mul_pos hN hN; omega
  · exact h
theorem amtX : Amt gX := by
  refine ⟨fun a => by unfold gX; rw [cr2_self, Int.mul_zero], fun a b => by unfold gX cr2; grind, fun a b c A B m h0 => ?_⟩
  have h1 := m.h1; have h2 := m.h2
  have key : (A + B) * (A + B) * (gX a c + gX c b - gX a b) = 0 := by unfold gX cr2; grind
  have := zero_of h0 key
  omega
theorem amtZ : Amt gZ := by
  refine ⟨fun a => by unfold gZ; rw [cr2_self, Int.mul_zero], fun a b => by unfold gZ cr2; grind, fun a b c A B m h0 => ?_⟩
  have h1 := m.h1; have h2 := m.h2
  have key : (A + B) * (A + B) * (gZ a c + gZ c b - gZ a b) = 0 := by unfold gZ cr2; grind
  have := zero_of h0 key
  omega
theorem rsm_plus (f h : Nat → Int) : ∀ k, rsm (fun i => f i + h i) k = rsm f k + rsm h k
  | 0 => rfl
  | k + 1 => by
    have := rsm_plus f h k
    show rsm (fun i => f i + h i) k + (f k + h k) = (rsm f k + f k) + (rsm h k + h k)
    omega
theorem rsm_times (c : Int) (f : Nat → Int) : ∀ k, rsm (fun i => c * f i) k = c * rsm f k
  | 0 => by show 0 = c * 0; omega
  | k + 1 => by
    have := rsm_times c f k
    show rsm (fun i => c * f i) k + c * f k = c * (rsm f k + f k)
    rw [Int.mul_add]; omega
theorem rsm_tele (f : Nat → Int) : ∀ k, rsm (fun i => f (i + 1) - f i) k = f k - f 0
  | 0 => by show 0 = f 0 - f 0; omega
  | k + 1 => by
    have := rsm_tele f k
    show rsm (fun i => f (i + 1) - f i) k + (f (k + 1) - f k) = _
    omega
theorem gX_move (a b : Pt) (d e : Int) : gX (a.1 + d, a.2 + e) (b.1 + d, b.2 + e) = gX a b + 3 * d * cr2 a b + ((d * b.1 * b.2 - e * b.1 * b.1 + 2 * d * d * b.2 - 2 * d * e * b.1) - (d * a.1 * a.2 - e * a.1 * a.1 + 2 * d * d * a.2 - 2 * d * e * a.1)) := by
  unfold gX cr2; dsimp only; grind
theorem gZ_move (a b : Pt) (d e : Int) : gZ (a.1 + d, a.2 + e) (b.1 + d, b.2 + e) = gZ a b + 3 * e * cr2 a b + ((d * b.2 * b.2 - e * b.1 * b.2 + 2 * d * e * b.2 - 2 * e * e * b.1) - (d * a.2 * a.2 - e * a.1 * a.2 + 2 * d * e * a.2 - 2 * e * e * a.1)) := by
  unfold gZ cr2; dsimp only; grind
theorem tw_cr (l : List Pt) : tw l = twG cr2 l := by
  rw [tw_pI]
  unfold pI twG
  exact rsm_congr _ fun i _ => by rw [Nat.zero_add]
theorem sim_gX {l l' : List Pt} {r : Nat} {d e : Int} (h : Sim l l' r d e) (h0 : 0 < l.length) : twG gX l' = twG gX l + 3 * d * tw l := by
  rw [tw_cr, twG_at l r, twG_at (g := cr2) l r]
  unfold twG
  rw [h.len]
  obtain ⟨f, hf⟩ : ∃ f : Nat → Int, ∀ j, f j = d * (pc l (r + j)).1 * (pc l (r + j)).2 - e * (pc l (r + j)).1 * (pc l (r + j)).1 + 2 * d * d * (pc l (r + j)).2 - 2 * d * e * (pc l (r + j)).1 := ⟨_, fun _ => rfl⟩
  have e1 : ∀ i, gX (pc l' i) (pc l' (i + 1)) = (gX (pc l (r + i)) (pc l (r + i + 1)) + 3 * d * cr2 (pc l (r + i)) (pc l (r + i + 1))) + (f (i + 1) - f i) := fun i => by
    rw [h.pc h0, h.pc h0, gX_move, show i + r = r + i by omega, show i + 1 + r = r + i + 1 by omega, hf, hf]
    rfl
  rw [rsm_congr l.length (fun i _ => e1 i), rsm_plus, rsm_plus, rsm_times, rsm_tele]
  have e2 : f l.length = f 0 := by rw [hf, hf, pc_add]; rfl
  rw [e2]
  unfold pIG
  omega
theorem sim_gZ {l l' : List Pt} {r : Nat} {d e : Int} (h : Sim l l' r d e) (h0 : 0 < l.length) : twG gZ l' = twG gZ l + 3 * e * tw l := by
  rw [tw_cr, twG_at l r, twG_at (g := cr2) l r]
  unfold twG
  rw [h.len]
  obtain ⟨f, hf⟩ : ∃ f : Nat → Int, ∀ j, f j = d * (pc l (r + j)).2 * (pc l (r + j)).2 - e * (pc l (r + j)).1 * (pc l (r + j)).2 + 2 * d * e * (pc l (r + j)).2 - 2 * e * e * (pc l (r + j)).1 := ⟨_, fun _ => rfl⟩
  have e1 : ∀ i, gZ (pc l' i) (pc l' (i + 1)) = (gZ (pc l (r + i)) (pc l (r + i + 1)) + 3 * e * cr2 (pc l (r + i)) (pc l (r + i + 1))) + (f (i + 1) - f i) := fun i => by
    rw [h.pc h0, h.pc h0, gZ_move, show i + r = r + i by omega, show i + 1 + r = r + i + 1 by omega, hf, hf]
    rfl
  rw [rsm_congr l.length (fun i _ => e1 i), rsm_plus, rsm_plus, rsm_times, rsm_tele]
  have e2 : f l.length = f 0 := by rw [hf, hf, pc_add]; rfl
  rw [e2]
  unfold pIG
  omega
end Go.Proofs.Ytljmhejljpfaiaa
namespace Go.Proofs.Ytljmhejljpfaiaa
open Go.RowKit Go.Shelf

/-! the pieces of a cut: valid, and what they weigh -/
theorem canC_sw {l : List Pt} {x1 z1 x2 z2 : Int} (h : CanC l x1 z1 x2 z2) : CanC l x2 z2 x1 z1 := fun i hi => by
  have := h i hi
  unfold both at this ⊢
  rw [Bool.and_comm]
  exact this
theorem mx3_G (l : List Pt) : mx3 l = twG gX l := by
  unfold mx3 twG
  rw [← sm_rsm]
  congr 1
  funext i
  have e1 : pc l i.1 = (px l i.1, pz l i.1) := pc_lt i.2
  rw [e1, pc_nx]
  rfl
theorem mz3_G (l : List Pt) : mz3 l = twG gZ l := by
  unfold mz3 twG
  rw [← sm_rsm]
  congr 1
  funext i
  have e1 : pc l i.1 = (px l i.1, pz l i.1) := pc_lt i.2
  rw [e1, pc_nx]
  rfl
theorem mx3_bd {l : List Pt} (h : Bx l) (h12 : l.length ≤ 12) : -384000000000 ≤ mx3 l ∧ mx3 l ≤ 384000000000 := by
  have := sm_bd (mox l) 32000000000 h.mox (List.finRange l.length) 12 (by rw [List.length_finRange]; exact h12) (by omega)
  unfold mx3; omega
theorem mz3_bd {l : List Pt} (h : Bx l) (h12 : l.length ≤ 12) : -384000000000 ≤ mz3 l ∧ mz3 l ≤ 384000000000 := by
  have := sm_bd (moz l) 32000000000 h.moz (List.finRange l.length) 12 (by rw [List.length_finRange]; exact h12) (by omega)
  unfold mz3; omega
theorem twG_rot {g : Pt → Pt → Int} (x : Pt) (ys : List Pt) : twG g (x :: ys) = twG g (ys ++ [x]) := by
  cases ys with
  | nil => rfl
  | cons y ys =>
    rw [twG_pth]
    show pthG g (x :: y :: ys ++ [x]) = twG g (y :: (ys ++ [x]))
    rw [twG_pth]
    have e1 : x :: y :: ys ++ [x] = x :: y :: (ys ++ [x]) := rfl
    have e2 : y :: (ys ++ [x]) ++ [y] = (y :: ys) ++ x :: [y] := by simp
    rw [e1, pthG_cons, e2, pthG_join]
    show g x y + pthG g (y :: (ys ++ [x])) = pthG g (y :: ys ++ [x]) + (g x y + 0)
    have e3 : y :: ys ++ [x] = y :: (ys ++ [x]) := rfl
    rw [e3]
    omega
section
variable {l : List Pt} {p q : Pt}
theorem twG_left {g : Pt → Pt → Int} (ht : Tr l) (h3 : 3 ≤ l.length) (hp : IsP l p.1 p.2) (hq : IsP l q.1 q.2) (hc : CanC l p.1 p.2 q.1 q.2) : twG g (leftR l p q) = twG g (partL l q p) := by
  obtain ⟨ys, h1, h2⟩ := leftR_eq ht h3 hp hq hc
  rw [h1, h2, twG_rot]
theorem stl_mx3 (ht : Tr l) (h3 : 3 ≤ l.length) (hp : IsP l p.1 p.2) (hq : IsP l q.1 q.2) (hc : CanC l p.1 p.2 q.1 q.2) :
    tw (stl (partL l q p)) = tw (partL l q p) ∧
    mx3 (stl (partL l q p)) + mnx (leftR l p q) (leftR l p q).length * (3 * tw (stl (partL l q p))) = twG gX (partL l q p) ∧
    mz3 (stl (partL l q p)) + mnz (leftR l p q) (leftR l p q).length * (3 * tw (stl (partL l q p))) = twG gZ (partL l q p) := by
  obtain ⟨e1, e2⟩ := stl_left ht h3 hp hq hc
  have h0 : 0 < (leftR l p q).length := by rw [e2]; have := (part_trl ht h3 hp hq hc).2; omega
  have hs := stl_sim (leftR l p q)
  have t1 := hs.tw h0
  have t2 := sim_gX hs h0
  have t3 := sim_gZ hs h0
  rw [e1] at t1 t2 t3
  rw [twG_left ht h3 hp hq hc, tw_left ht h3 hp hq hc] at t2 t3
  rw [tw_left ht h3 hp hq hc] at t1
  rw [mx3_G, mz3_G, t1, t2, t3]
  refine ⟨rfl, ?_, ?_⟩
  · generalize mnx (leftR l p q) (leftR l p q).length = m
    generalize tw (partL l q p) = t
    grind
  · generalize mnz (leftR l p q) (leftR l p q).length = m
    generalize tw (partL l q p) = t
    grind
theorem halves (ht : Tr l) (h3 : 3 ≤ l.length) (hp : IsP l p.1 p.2) (hq : IsP l q.1 q.2) (hc : CanC l p.1 p.2 q.1 q.2) :
    tw (stl (partL l q p)) + tw (stl (partL l p q)) = tw l ∧
    mx3 (stl (partL l q p)) + mnx (leftR l p q) (leftR l p q).length * (3 * tw (stl (partL l q p))) + mx3 (stl (partL l p q)) + mnx (leftR l q p) (leftR l q p).length * (3 * tw (stl (partL l p q))) = mx3 l ∧
    mz3 (stl (partL l q p)) + mnz (leftR l p q) (leftR l p q).length * (3 * tw (stl (partL l q p))) + mz3 (stl (partL l p q)) + mnz (leftR l q p) (leftR l q p).length * (3 * tw (stl (partL l p q))) = mz3 l := by
  obtain ⟨a1, a2, a3⟩ := stl_mx3 ht h3 hp hq hc
  obtain ⟨b1, b2, b3⟩ := stl_mx3 (p := q) (q := p) ht h3 hq hp (canC_sw hc)
  have c1 := areas ht h3 hp hq hc
  have c2 := areasG amtX ht h3 hp hq hc
  have c3 := areasG amtZ ht h3 hp hq hc
  refine ⟨by rw [a1, b1]; exact c1, ?_, ?_⟩
  · rw [mx3_G l]; omega
  · rw [mz3_G l]; omega
theorem piece_pl (hl : Pl l) (hp : IsP l p.1 p.2) (hq : IsP l q.1 q.2) (hc : CanC l p.1 p.2 q.1 q.2) (h12 : (partL l q p).length ≤ 12) : Pl (stl (partL l q p)) := by
  have h3 := hl.1.1
  obtain ⟨t, k3⟩ := part_trl hl.tr h3 hp hq hc
  have hb := partL_bx hl.2.1 (by omega) (hq.bd hl.2.1) (hp.bd hl.2.1)
  exact t.pl k3 h12 (a := 0) (b := 0) fun i hi => by have := hb i hi; omega
end
theorem byte_push (s t : ByteArray) (i : Nat) (_hi : i < (s ++ t).size) : byteAt (s ++ t) i = if i < s.size then byteAt s i else byteAt t (i - s.size) := by
  unfold byteAt
  rw [ByteArray.data_append, Array.toList_append, List.getD_eq_getElem?_getD, List.getD_eq_getElem?_getD, List.getD_eq_getElem?_getD]
  have e : s.data.toList.length = s.size := rfl
  split
  · rw [List.getElem?_append_left (by omega)]
  · rw [List.getElem?_append_right (by omega), e]
theorem nm_piece {s t : ByteArray} (h : Nm s) (h16 : s.size ≠ 16) (ht : t.size = 1) (hl : Lt (byteAt t 0)) : Nm (s ++ t) := by
  refine ⟨?_, fun i hi => ?_⟩
  · rw [ByteArray.size_append, ht]
    have := h.1
    omega
  · rw [byte_push s t i hi]
    split
    · exact h.2 i ‹_›
    · rw [ByteArray.size_append, ht] at hi
      rw [show i - s.size = 0 by omega]
      exact hl
/-- both pieces of a cut are valid, and what they are together -/
theorem pieces_vld {s : SV} {x1 z1 x2 z2 : Int} (h : SplE s (x1, z1) (x2, z2) 0) : Vld (pieceS s lta (partL s.l (x2, z2) (x1, z1))) ∧ Vld (pieceS s ltb (partL s.l (x1, z1) (x2, z2))) ∧ (Vld s ∧ IsP s.l x1 z1 ∧ IsP s.l x2 z2) ∧ CanC s.l x1 z1 x2 z2 := by
  rcases h with ⟨_, h⟩ | ⟨_, _, h⟩ | ⟨_, _, h⟩ | ⟨_, _, h⟩ | ⟨⟨⟨hv, hp, hq⟩, hc⟩, hb, _⟩
  · omega
  · omega
  · omega
  · omega
  · have h1 : s.nm.size ≠ 16 := fun e => hb (.inl e)
    have h2 : ¬ 12 < (partL s.l (x2, z2) (x1, z1)).length := fun e => hb (.inr (.inl e))
    have h3 : ¬ 12 < (partL s.l (x1, z1) (x2, z2)).length := fun e => hb (.inr (.inr e))
    exact ⟨⟨nm_piece hv.1 h1 rfl (.inl (by decide)), piece_pl hv.2.1 hp hq hc (by omega), hv.2.2⟩,
      ⟨nm_piece hv.1 h1 rfl (.inl (by decide)), piece_pl (p := (x2, z2)) (q := (x1, z1)) hv.2.1 hq hp (canC_sw hc) (by omega), hv.2.2⟩, ⟨hv, hp, hq⟩, hc⟩
end Go.Proofs.Ytljmhejljpfaiaa
namespace Go.Proofs.Ytljmhejljpfaiaa
set_option maxRecDepth 100000
open Go.RowKit Go.Shelf

/-! StoneHalves -/
set_option maxHeartbeats 4000000 in
theorem shift_any (b o c : Nat) (l : List Pt) (w : World) (hr : Row w b o l) (h3 : 1 ≤ l.length) (h12 : l.length ≤ 1000000) :
    Calls Try.prog 45 #[.slice (some ⟨b, o, none⟩) l.length c] w fun e w' => e = .returned (.tuple #[.int .i64 (mnx l l.length), .int .i64 (mnz l l.length)]) ∧ Below w.heap.size w w' := by
  have HL := Lib.hid (low_any b o c l w hr h3 h12)
  clear hr
  generalize mnx l l.length = x at *
  generalize mnz l l.length = z at *
  generalize l.length = n at *
  go_enter Try.func45, Try.ntmps45
  go_wp2_with fail
  refine HL.out.mono ?_
  rintro e w1 ⟨rfl, hb1⟩
  have K1 := Lib.hid hb1
  clear hb1
  go_wp2_with fail
  have b7 : Blk w1.heap.size #[.int .i64 x, .int .i64 z] 24 (w1.alloc (.cells #[.int .i64 x, .int .i64 z] 24)) := Blk.new w1 _ 24
  have c0 := b7.cell (i := 0) rfl; have c1 := b7.cell (i := 1) rfl
  have K7 := Lib.hid (Below.thru K1.out K1.out.size (bl1 w1 (.cells #[.int .i64 x, .int .i64 z] 24)))
  clear b7
  generalize w1.alloc (.cells #[.int .i64 x, .int .i64 z] 24) = w7 at *
  generalize w1.heap.size = T6 at *
  have f0 := cell_regrown c0
  have f1 := cell_regrown c1
  refine wp_region_quiet_below (by kernel_rfl) (by kernel_rfl) ?_
  repeat (any_goals (first | go_big_quiet_step (fail) | quiet_step (fail)))
  refine wpQuiet_nil ?_
  intro _ hw'
  obtain ⟨⟨dq, osq⟩, hw''⟩ := hw'
  subst hw''
  have k9 := Below.thru K7.out K7.out.size (below_regrown w7 dq osq)
  clear f0 f1 c0 c1
  generalize Sort.grow (redrawn w7 dq) osq = w9 at *
  go_wp2
  exact bodyPost_ret (v := .tuple #[.int .i64 x, .int .i64 z]) (by simp [results, Try.results45, go_sem]) rfl ⟨rfl, k9⟩
end Go.Proofs.Ytljmhejljpfaiaa
namespace Go.Proofs.Ytljmhejljpfaiaa
set_option maxRecDepth 100000
open Go.RowKit Go.Shelf

/-! more operations of a region, one by one -/
section
variable {ρ : Operand → Value} {o : Oper} {w : World} {t x y c : Operand}
theorem rn_uint {a r : Int} (ho : o.op = .convert 3 75 t) (h1 : ρ t = .int .i64 a) (hr : IntKind.u64.wrap a = r) : (execOp ρ o).run Try.prog w = .ok (.value (.int .u64 r)) w := by
  subst hr
  unfold execOp; rw [ho]; simp [go_sem, h1]
theorem rn_int {a r : Int} (ho : o.op = .convert 75 3 t) (h1 : ρ t = .int .u64 a) (hr : IntKind.i64.wrap a = r) : (execOp ρ o).run Try.prog w = .ok (.value (.int .i64 r)) w := by
  subst hr
  unfold execOp; rw [ho]; simp [go_sem, h1]
theorem Try.underlying31' : Try.prog.underlying 31 = some (.slice 32) := by kernel_rfl
theorem rn_len31 {p : Option Addr} {n cp : Nat} (ho : o.op = .call { callee := .builtin .len, args := #[t], argTypes := #[31] }) (h1 : ρ t = .slice p n cp) : (execOp ρ o).run Try.prog w = .ok (.value (.int .i64 (n : Int))) w := by
  unfold execOp; rw [ho]; simp [go_sem, h1, Builtin.len_, run_underlying Try.underlying31', goInt, Result.andThen]
theorem rn_rem75 {a b r : Int} (ho : o.op = .binOp .rem 75 t c 75) (h1 : ρ t = .int .u64 a) (h2 : ρ c = .int .u64 b) (h0 : ¬ b = 0) (hr : a.tmod b = r) : (execOp ρ o).run Try.prog w = .ok (.value (.int .u64 r)) w := by
  subst hr
  unfold execOp; rw [ho]; simp [go_sem, h1, h2, h0]
theorem rn_field32_0 {b : Nat} (ho : o.op = .fieldAddr 32 t 0) (he : ρ t = .pointer (some ⟨b, 0, none⟩)) : (execOp ρ o).run Try.prog w = .ok (.value (.pointer (some ⟨b, 0, none⟩))) w := by
  unfold execOp; rw [ho]; simp [go_sem, he]
theorem rn_field32_1 {b : Nat} (ho : o.op = .fieldAddr 32 t 1) (he : ρ t = .pointer (some ⟨b, 0, none⟩)) : (execOp ρ o).run Try.prog w = .ok (.value (.pointer (some ⟨b, 1, none⟩))) w := by
  unfold execOp; rw [ho]; simp [go_sem, he]
theorem rn_load3 {b i : Nat} {a : Int} (ho : o.op = .load 3 t) (he : ρ t = .pointer (some ⟨b, i, none⟩)) (h1 : w.cell? ⟨b, i, none⟩ = some (.int .i64 a)) : (execOp ρ o).run Try.prog w = .ok (.value (.int .i64 a)) w := by
  unfold execOp; rw [ho]; simp [go_sem, he, h1]
theorem rn_build24 {a b : Int} (ho : o.op = .build 24 #[(0, t), (1, x)]) (h1 : ρ t = .int .i64 a) (h2 : ρ x = .int .i64 b) : (execOp ρ o).run Try.prog w = .ok (.value (.agg #[.int .i64 a, .int .i64 b])) w := by
  unfold execOp; rw [ho]; simp [go_sem, h1, h2]
end
/-- a table: two new boxes, all other slots hold what is known -/
def tabE (a1 a2 : Nat) (vals : Nat → Value) (W d : Nat) : Kd := if d = a1 then kP32 W else if d = a2 then kP32 W else .v (vals d)
theorem tabE_st {a1 a2 : Nat} {vals : Nat → Value} {W T : Nat} {w : World} {p0 q0 p q : Int} (h : w.heap[T]? = some (.cells #[.int .i64 p0, .int .i64 q0] 32 (0, 0))) (d : Nat) (v : Value) (hk : kd (tabE a1 a2 vals W d) v w) :
    kd (tabE a1 a2 vals W d) v ((w.setCell ⟨T, 0, none⟩ (.int .i64 p)).setCell ⟨T, 1, none⟩ (.int .i64 q)) := by
  have kp : ∀ v, kd (kP32 W) v w → kd (kP32 W) v ((w.setCell ⟨T, 0, none⟩ (.int .i64 p)).setCell ⟨T, 1, none⟩ (.int .i64 q)) := by
    rintro v ⟨C, h1, h2, x, z, h3⟩
    by_cases e : C = T
    · subst e; exact ⟨C, h1, h2, p, q, blk32_st h3⟩
    · exact ⟨C, h1, h2, x, z, blk2_far h3 e⟩
  unfold tabE at hk ⊢
  split at hk
  · rw [if_pos ‹_›]; exact kp v hk
  · rw [if_neg ‹_›]
    split at hk
    · rw [if_pos ‹_›]; exact kp v hk
    · rw [if_neg ‹_›]; exact hk
def tabF (a1 a2 : Nat) (vals : Nat → Value) (W d : Nat) : Kd := if d = a1 then kP W else if d = a2 then kP W else .v (vals d)
theorem tabF_st {a1 a2 : Nat} {vals : Nat → Value} {W T : Nat} {w : World} {p0 q0 p q : Int} (h : w.heap[T]? = some (.cells #[.int .i64 p0, .int .i64 q0] 24 (0, 0))) (d : Nat) (v : Value) (hk : kd (tabF a1 a2 vals W d) v w) :
    kd (tabF a1 a2 vals W d) v ((w.setCell ⟨T, 0, none⟩ (.int .i64 p)).setCell ⟨T, 1, none⟩ (.int .i64 q)) := by
  have kp : ∀ v, kd (kP W) v w → kd (kP W) v ((w.setCell ⟨T, 0, none⟩ (.int .i64 p)).setCell ⟨T, 1, none⟩ (.int .i64 q)) := by
    rintro v ⟨C, h1, h2, x, z, h3⟩
    by_cases e : C = T
    · subst e; exact ⟨C, h1, h2, p, q, blk2_st h3⟩
    · exact ⟨C, h1, h2, x, z, blk2_far h3 e⟩
  unfold tabF at hk ⊢
  split at hk
  · rw [if_pos ‹_›]; exact kp v hk
  · rw [if_neg ‹_›]
    split at hk
    · rw [if_pos ‹_›]; exact kp v hk
    · rw [if_neg ‹_›]; exact hk
end Go.Proofs.Ytljmhejljpfaiaa
namespace Go.Proofs.Ytljmhejljpfaiaa
set_option maxRecDepth 100000
open Go.RowKit Go.Shelf

/-! what StoneHalves' calls answer -/
/-- in every later world a call answers so -/
def Ans (f : FuncId) (args : Array Value) (w : World) (r : Value) : Prop := ∀ W, Below w.heap.size w W → Calls Try.prog f args W fun e w' => e = .returned r ∧ Below W.heap.size W w'
theorem ans_weight {s : SV} {v : Value} {w : World} (hn : s.nm.size ≤ maxLen) (h : Pts w v s.l) (hv : Vld s) : Ans 19 #[stv s v] w (.tuple #[.int .i64 (tw s.l * s.dp * s.dn), .int .i64 0]) := fun W k =>
  (weightF_any s v W hn (h.keep k)).mono fun e w' ⟨⟨r, x, he, hx⟩, hb⟩ => ⟨by
    rcases hx with ⟨_, rfl, rfl⟩ | ⟨hx, _⟩
    · exact he
    · exact absurd hv hx, hb⟩
theorem ans_check {s : SV} {v : Value} {w : World} (hn : s.nm.size ≤ maxLen) (h : Pts w v s.l) (hv : Vld s) : Ans 16 #[stv s v] w (.int .i64 0) := fun W k =>
  (check_any s v W hn (h.keep k)).mono fun e w' ⟨⟨x, he, hx⟩, hb⟩ => ⟨by
    rcases hx with ⟨rfl, _⟩ | ⟨_, hx⟩
    · exact he
    · exact absurd hv hx, hb⟩
theorem ans_centre {s : SV} {v : Value} {w : World} (hn : s.nm.size ≤ maxLen) (h : Pts w v s.l) (hv : Vld s) : Ans 20 #[stv s v] w (.tuple #[.int .i64 (mx3 s.l), .int .i64 (mz3 s.l), .int .i64 (3 * tw s.l), .int .i64 0]) := fun W k =>
  (centreF_any s v W hn (h.keep k)).mono fun e w' ⟨⟨x, y, z, f, he, hx⟩, hb⟩ => ⟨by
    rcases hx with ⟨_, rfl, rfl, rfl, rfl⟩ | ⟨hx, _⟩
    · exact he
    · exact absurd hv hx, hb⟩
theorem ans_valid {s : SV} {v : Value} {w : World} (hn : s.nm.size ≤ maxLen) (h : Pts w v s.l) (hv : Vld s) : Ans 15 #[stv s v] w (.bool true) := fun W k =>
  (validv_any s v W hn (h.keep k)).mono fun e w' ⟨⟨b, he, hx⟩, hb⟩ => ⟨by rw [he, hx.2 hv], hb⟩
theorem leftR_len (l : List Pt) (p q : Pt) : 2 ≤ (leftR l p q).length ∧ (leftR l p q).length ≤ l.length + 2 := by
  have := lfL_len l p q (lfI l p q l.length) l.length
  unfold leftR
  rw [List.length_append]
  simp only [List.length_cons, List.length_nil]
  omega
/-- Left and then shift -/
theorem left_shift (b o c : Nat) (l : List Pt) (x1 z1 x2 z2 : Int) (W : World) (hr : Row W b o l) (h3 : 0 < l.length) (h12 : l.length ≤ 1000) (hx : Bx l) (hp : Sm x1 ∧ Sm z1) (hq : Sm x2 ∧ Sm z2) :
    Calls Try.prog 46 #[.slice (some ⟨b, o, none⟩) l.length c, .agg #[.int .i64 x1, .int .i64 z1], .agg #[.int .i64 x2, .int .i64 z2]] W fun e w' =>
      (∃ v, e = .returned v ∧ Ans 45 #[v] w' (.tuple #[.int .i64 (mnx (leftR l (x1, z1) (x2, z2)) (leftR l (x1, z1) (x2, z2)).length), .int .i64 (mnz (leftR l (x1, z1) (x2, z2)) (leftR l (x1, z1) (x2, z2)).length)])) ∧ Below W.heap.size W w' :=
  (left_any b o c l x1 z1 x2 z2 W hr h3 h12 hx hp hq).mono fun e w' ⟨⟨v, he, ho⟩, hb⟩ => ⟨⟨v, he, fun W2 k2 => by
    have hl := leftR_len l (x1, z1) (x2, z2)
    rcases ho.row with ⟨_, h0⟩ | ⟨g, cp, rfl, hrow, _, _⟩
    · rw [h0] at hl; simp at hl
    · exact shift_any g 0 cp _ W2 (hrow.keep k2) (by omega) (by omega)⟩, hb⟩
theorem i64w (a : Int) (h : -9223372036854775808 ≤ a ∧ a ≤ 9223372036854775807) : IntKind.i64.wrap a = a := IntWalk.i64_in a (by omega)
theorem mnx_bd {l : List Pt} {p q : Pt} (ht : Tr l) (h3 : 3 ≤ l.length) (hx : Bx l) (hp : IsP l p.1 p.2) (hq : IsP l q.1 q.2) (hc : CanC l p.1 p.2 q.1 q.2) : (0 ≤ mnx (leftR l p q) (leftR l p q).length ∧ mnx (leftR l p q) (leftR l p q).length ≤ 2000) ∧ (0 ≤ mnz (leftR l p q) (leftR l p q).length ∧ mnz (leftR l p q) (leftR l p q).length ≤ 2000) := by
  obtain ⟨ys, h1, h2⟩ := leftR_eq ht h3 hp hq hc
  have hb := partL_bx hx (by omega) (hq.bd hx) (hp.bd hx)
  have hm : ∀ r ∈ leftR l p q, (0 ≤ r.1 ∧ r.1 ≤ 2000) ∧ (0 ≤ r.2 ∧ r.2 ≤ 2000) := fun r hr => by
    have hr' : r ∈ partL l q p := by
      rw [h1] at hr; rw [h2]
      rcases List.mem_cons.1 hr with h | h
      · exact List.mem_append_right _ (by rw [h]; exact List.mem_singleton.2 rfl)
      · exact List.mem_append_left _ h
    obtain ⟨i, hi, e⟩ := List.mem_iff_getElem.1 hr'
    have := hb i hi
    have e1 : px (partL l q p) i = r.1 := by unfold px; simp [hi, e]
    have e2 : pz (partL l q p) i = r.2 := by unfold pz; simp [hi, e]
    rw [e1, e2] at this
    exact this
  have hl := leftR_len l p q
  have hi : ∀ i, i < (leftR l p q).length → (0 ≤ px (leftR l p q) i ∧ px (leftR l p q) i ≤ 2000) ∧ (0 ≤ pz (leftR l p q) i ∧ pz (leftR l p q) i ≤ 2000) := fun i hi => by
    have e1 : px (leftR l p q) i = ((leftR l p q)[i]).1 := by unfold px; simp [hi]
    have e2 : pz (leftR l p q) i = ((leftR l p q)[i]).2 := by unfold pz; simp [hi]
    rw [e1, e2]
    exact hm _ (List.getElem_mem _)
  obtain ⟨_, _, c3⟩ := mnx_le (leftR l p q) (leftR l p q).length
  have ez := mnz_fst (leftR l p q) ((leftR l p q).length - 1)
  rw [show (leftR l p q).length - 1 + 1 = (leftR l p q).length by omega] at ez
  have hf := (fst_least (leftR l p q) (leftR l p q).length).2.2 (by omega)
  refine ⟨?_, by rw [ez]; exact (hi _ hf).2⟩
  rcases c3 with e | ⟨j, hj, e⟩
  · rw [e]; exact (hi 0 (by omega)).1
  · rw [e]; exact (hi j hj).1
/-- a chain of sums -/
structure Chn (a b p q ta tb m : Int) : Prop where
  ex : ∃ u1 u2 u3 u4, IntKind.i64.wrap (a * ta) = u1 ∧ IntKind.i64.wrap (p + u1) = u2 ∧ IntKind.i64.wrap (u2 + q) = u3 ∧ IntKind.i64.wrap (b * tb) = u4 ∧ IntKind.i64.wrap (u3 + u4) = m
theorem chn_of {a b p q ta tb m : Int} (ha : 0 ≤ a ∧ a ≤ 2000) (hb : 0 ≤ b ∧ b ≤ 2000) (hp : -384000000000 ≤ p ∧ p ≤ 384000000000) (hq : -384000000000 ≤ q ∧ q ≤ 384000000000) (h1 : -24000000000 ≤ ta ∧ ta ≤ 24000000000) (h2 : -24000000000 ≤ tb ∧ tb ≤ 24000000000) (h : p + a * ta + q + b * tb = m) : Chn a b p q ta tb m := by
  have e1 := mul_bd (A := 2000) (B := 24000000000) ha h1 (by omega)
  have e2 := mul_bd (A := 2000) (B := 24000000000) hb h2 (by omega)
  refine ⟨a * ta, p + a * ta, p + a * ta + q, b * tb, i64w _ (by omega), i64w _ (by omega), i64w _ (by omega), i64w _ (by omega), ?_⟩
  rw [i64w _ (by omega), h]
/-- what the calls on the pieces answer -/
structure HF (s : SV) (x1 z1 x2 z2 : Int) (VA VB : Value) (w : World) (wa wb ax az bx bz pxa pza pba qxa qza qba : Int) : Prop where
  wA : Ans 19 #[VA] w (.tuple #[.int .i64 wa, .int .i64 0])
  wB : Ans 19 #[VB] w (.tuple #[.int .i64 wb, .int .i64 0])
  kA : Ans 16 #[VA] w (.int .i64 0)
  kB : Ans 16 #[VB] w (.int .i64 0)
  cA : Ans 20 #[VA] w (.tuple #[.int .i64 pxa, .int .i64 pza, .int .i64 pba, .int .i64 0])
  cB : Ans 20 #[VB] w (.tuple #[.int .i64 qxa, .int .i64 qza, .int .i64 qba, .int .i64 0])
  sum : IntKind.i64.wrap (wa + wb) = tw s.l * s.dp * s.dn
  x : Chn ax bx pxa qxa pba qba (mx3 s.l)
  z : Chn az bz pza qza pba qba (mz3 s.l)
  ax : ax = mnx (leftR s.l (x1, z1) (x2, z2)) (leftR s.l (x1, z1) (x2, z2)).length
  az : az = mnz (leftR s.l (x1, z1) (x2, z2)) (leftR s.l (x1, z1) (x2, z2)).length
  bx : bx = mnx (leftR s.l (x2, z2) (x1, z1)) (leftR s.l (x2, z2) (x1, z1)).length
  bz : bz = mnz (leftR s.l (x2, z2) (x1, z1)) (leftR s.l (x2, z2) (x1, z1)).length
theorem halves_facts {s : SV} {x1 z1 x2 z2 : Int} {VA VB ua ub : Value} {w : World} {base : Nat} (h : SplE s (x1, z1) (x2, z2) 0)
    (hA : VA = stv (pieceS s lta (partL s.l (x2, z2) (x1, z1))) ua ∧ Own w base ua (stl (partL s.l (x2, z2) (x1, z1))))
    (hB : VB = stv (pieceS s ltb (partL s.l (x1, z1) (x2, z2))) ub ∧ Own w base ub (stl (partL s.l (x1, z1) (x2, z2)))) :
    ∃ wa wb ax az bx bz pxa pza pba qxa qza qba, HF s x1 z1 x2 z2 VA VB w wa wb ax az bx bz pxa pza pba qxa qza qba := by
  obtain ⟨va, vb, ⟨hv, hp, hq⟩, hc⟩ := pieces_vld h
  obtain ⟨rfl, oA⟩ := hA
  obtain ⟨rfl, oB⟩ := hB
  have n1 : (pieceS s lta (partL s.l (x2, z2) (x1, z1))).nm.size ≤ maxLen := by have := va.1.1; unfold maxLen; omega
  have n2 : (pieceS s ltb (partL s.l (x1, z1) (x2, z2))).nm.size ≤ maxLen := by have := vb.1.1; unfold maxLen; omega
  have pA : Pts w ua (pieceS s lta (partL s.l (x2, z2) (x1, z1))).l := oA.pts (by have := va.2.1.1.2; exact Nat.le_trans this (by omega))
  have pB : Pts w ub (pieceS s ltb (partL s.l (x1, z1) (x2, z2))).l := oB.pts (by have := vb.2.1.1.2; exact Nat.le_trans this (by omega))
  have h3 := hv.2.1.1.1
  obtain ⟨f1, f2, f3⟩ := halves (p := (x1, z1)) (q := (x2, z2)) hv.2.1.tr h3 hp hq hc
  have g1 := mnx_bd (p := (x1, z1)) (q := (x2, z2)) hv.2.1.tr h3 hv.2.1.2.1 hp hq hc
  have g2 := mnx_bd (p := (x2, z2)) (q := (x1, z1)) hv.2.1.tr h3 hv.2.1.2.1 hq hp (canC_sw hc)
  have t1 : -8000000000 ≤ tw (stl (partL s.l (x2, z2) (x1, z1))) ∧ tw (stl (partL s.l (x2, z2) (x1, z1))) ≤ 8000000000 := tw_bd va.2.1.2.1 (Nat.le_trans va.2.1.1.2 (by omega))
  have t2 : -8000000000 ≤ tw (stl (partL s.l (x1, z1) (x2, z2))) ∧ tw (stl (partL s.l (x1, z1) (x2, z2))) ≤ 8000000000 := tw_bd vb.2.1.2.1 (Nat.le_trans vb.2.1.1.2 (by omega))
  have t3 := tw_bd hv.2.1.2.1 (Nat.le_trans hv.2.1.1.2 (by omega))
  have b1 := mx3_bd va.2.1.2.1 va.2.1.1.2
  have b2 := mx3_bd vb.2.1.2.1 vb.2.1.1.2
  have b3 := mz3_bd va.2.1.2.1 va.2.1.1.2
  have b4 := mz3_bd vb.2.1.2.1 vb.2.1.1.2
  refine ⟨_, _, _, _, _, _, _, _, _, _, _, _, ans_weight n1 pA va, ans_weight n2 pB vb, ans_check n1 pA va, ans_check n2 pB vb, ans_centre n1 pA va, ans_centre n2 pB vb, ?_, chn_of g1.1 g2.1 b1 b2 ?_ ?_ f2, chn_of g1.2 g2.2 b3 b4 ?_ ?_ f3, rfl, rfl, rfl, rfl⟩
  · show IntKind.i64.wrap (tw (stl (partL s.l (x2, z2) (x1, z1))) * s.dp * s.dn + tw (stl (partL s.l (x1, z1) (x2, z2))) * s.dp * s.dn) = _
    rw [← Int.add_mul, ← Int.add_mul, f1]
    have m1 := mul_bd (A := 2000) (B := 8000000000) (a := s.dp) (b := tw s.l) (by have := hv.2.2.1; omega) t3 (by omega)
    have m2 := mul_bd (A := 10000) (B := 16000000000000) (a := s.dn) (b := s.dp * tw s.l) (by have := hv.2.2.2.1; omega) (by omega) (by omega)
    rw [Int.mul_comm (tw s.l) s.dp, Int.mul_comm _ s.dn]
    exact i64w _ (by omega)
  · show _ ≤ 3 * tw (stl (partL s.l (x2, z2) (x1, z1))) ∧ 3 * tw (stl (partL s.l (x2, z2) (x1, z1))) ≤ _; omega
  · show _ ≤ 3 * tw (stl (partL s.l (x1, z1) (x2, z2))) ∧ 3 * tw (stl (partL s.l (x1, z1) (x2, z2))) ≤ _; omega
  · show _ ≤ 3 * tw (stl (partL s.l (x2, z2) (x1, z1))) ∧ 3 * tw (stl (partL s.l (x2, z2) (x1, z1))) ≤ _; omega
  · show _ ≤ 3 * tw (stl (partL s.l (x1, z1) (x2, z2))) ∧ 3 * tw (stl (partL s.l (x1, z1) (x2, z2))) ≤ _; omega
end Go.Proofs.Ytljmhejljpfaiaa
namespace Go.Proofs.Ytljmhejljpfaiaa
set_option maxRecDepth 100000
open Go.RowKit Go.Shelf

/-! StoneHalves -/
def D7h (t : Nat) : Bool := Nat.beq t 10 || Nat.beq t 11 || (Nat.ble 63 t && Nat.ble t 82)
def al7h (t : Nat) : Bool := Nat.beq t 10 || Nat.beq t 11
def vals7 (g N cp : Nat) (i ui : Int) (m1 : Nat) (k uk : Int) (m2 : Nat) (x1 z1 x2 z2 : Int) (d : Nat) : Value :=
  [.slice (some ⟨g, 0, none⟩) N cp, .int .i64 i, .int .u64 ui, .slice (some ⟨g, 0, none⟩) N cp, .int .i64 N, .int .u64 N, .int .u64 m1, .int .i64 m1, .pointer (some ⟨g, 0 + m1 * 2, none⟩), .agg #[.int .i64 x1, .int .i64 z1],
   .slice (some ⟨g, 0, none⟩) N cp, .int .i64 k, .int .u64 uk, .slice (some ⟨g, 0, none⟩) N cp, .int .i64 N, .int .u64 N, .int .u64 m2, .int .i64 m2, .pointer (some ⟨g, 0 + m2 * 2, none⟩), .agg #[.int .i64 x2, .int .i64 z2]].getD (d - 63) undef
def D16h (t : Nat) : Bool := Nat.beq t 21 || Nat.beq t 22 || (Nat.ble 144 t && Nat.ble t 153)
def al16h (t : Nat) : Bool := Nat.beq t 21 || Nat.beq t 22
def vals16 (T U : Nat) (x1 z1 x2 z2 : Int) (d : Nat) : Value :=
  [.pointer (some ⟨T, 0, none⟩), .int .i64 x1, .pointer (some ⟨T, 1, none⟩), .int .i64 z1, .agg #[.int .i64 x1, .int .i64 z1],
   .pointer (some ⟨U, 0, none⟩), .int .i64 x2, .pointer (some ⟨U, 1, none⟩), .int .i64 z2, .agg #[.int .i64 x2, .int .i64 z2]].getD (d - 144) undef
/-- Split's answer, its rows of one's own -/
def PSh (s : SV) (x1 z1 x2 z2 : Int) (base : Nat) (e : Ending) (w' : World) : Prop :=
  (∃ na pa ma ca da ea ga ha nb pb mb cb db eb gb ib er, e = .returned (.tuple #[.agg (c6 na (.slice pa ma ca) da ea ga ha), .agg (c6 nb (.slice pb mb cb) db eb gb ib), .int .i64 er]) ∧ SplE s (x1, z1) (x2, z2) er ∧
    (er ≠ 0 → (Value.agg (c6 na (.slice pa ma ca) da ea ga ha) = zst ∧ Value.agg (c6 nb (.slice pb mb cb) db eb gb ib) = zst)) ∧
    (er = 0 → ((Value.agg (c6 na (.slice pa ma ca) da ea ga ha) = stv (pieceS s lta (partL s.l (x2, z2) (x1, z1))) (.slice pa ma ca) ∧ Own w' base (.slice pa ma ca) (stl (partL s.l (x2, z2) (x1, z1)))) ∧
      (Value.agg (c6 nb (.slice pb mb cb) db eb gb ib) = stv (pieceS s ltb (partL s.l (x1, z1) (x2, z2))) (.slice pb mb cb) ∧ Own w' base (.slice pb mb cb) (stl (partL s.l (x1, z1) (x2, z2)))))))
theorem splith_any (s : SV) (p : Option Addr) (c : Nat) (x1 z1 x2 z2 : Int) (w : World) (hn : s.nm.size ≤ maxLen) (h : Pts w (.slice p s.l.length c) s.l) : Calls Try.prog 35 #[stv s (.slice p s.l.length c), .agg #[.int .i64 x1, .int .i64 z1], .agg #[.int .i64 x2, .int .i64 z2]] w fun e w' => PSh s x1 z1 x2 z2 w.heap.size e w' ∧ Below w.heap.size w w' :=
  (split_all s p c x1 z1 x2 z2 w hn h).mono fun e w' ⟨⟨va, vb, er, he, hE, hx⟩, hk⟩ => ⟨by
    rcases hx with ⟨h0, rfl, rfl⟩ | ⟨h0, u1, u2, rfl, o1, rfl, o2⟩
    · exact ⟨_, _, _, _, _, _, _, _, _, _, _, _, _, _, _, _, er, he, hE, fun _ => ⟨rfl, rfl⟩, fun h => absurd h h0⟩
    · subst h0
      obtain ⟨a1, m1, c1, rfl⟩ := o1.form
      obtain ⟨a2, m2, c2, rfl⟩ := o2.form
      exact ⟨_, _, _, _, _, _, _, _, _, _, _, _, _, _, _, _, 0, he, hE, fun h => absurd rfl h, fun _ => ⟨⟨rfl, o1⟩, ⟨rfl, o2⟩⟩⟩, hk⟩
theorem bp_len3 {l : List Pt} (h : Pl l) : (bp l).length ≤ 24000 := by
  rw [← rbp_bp h.apart]
  have := rbp_len h.2.1 l.length (Nat.le_refl _)
  have := h.1
  omega
theorem bp_pos {l : List Pt} (ht : Tr l) (h3 : 3 ≤ l.length) : 0 < (bp l).length := by
  refine List.length_pos_of_mem (a := pc l 0) ((bp_mem ht h3 _).2 ⟨0, by omega, (hit_iff (by omega)).2 ⟨ht.inj h3 (by omega) (by omega), ?_⟩⟩)
  exact ⟨by unfold Bt; omega, by unfold Bt; omega, D3_same1 _ _⟩
theorem uidx (i : Int) {N : Nat} (hN : 0 < N) (h24 : N ≤ 24000) : ∃ ui m, IntKind.u64.wrap i = ui ∧ ui.tmod N = ((m : Nat) : Int) ∧ m < N ∧ IntKind.i64.wrap (m : Int) = (m : Int) := by
  obtain ⟨u, hu⟩ : ∃ u : Nat, IntKind.u64.wrap i = (u : Int) := ⟨(IntKind.u64.wrap i).toNat, by rw [IntKind.wrap_u64]; omega⟩
  have hm := Nat.mod_lt u hN
  exact ⟨_, u % N, hu, by rw [← Int.ofNat_tmod], hm, i64w _ (by omega)⟩
theorem px_mem {l : List Pt} {j : Nat} (hj : j < l.length) : (px l j, pz l j) ∈ l := by
  have e : (px l j, pz l j) = l[j] := by unfold px pz; simp [hj]
  rw [e]; exact List.getElem_mem _
set_option maxHeartbeats 16000000 in
theorem halvesL_any (s : SV) (p : Option Addr) (c : Nat) (i k : Int) (w : World) (hn : s.nm.size ≤ maxLen) (hlm : s.l.length ≤ maxLen) (h : s.l.length ≤ 1000000 → Pts w (.slice p s.l.length c) s.l) : Calls Try.prog 11 #[stv s (.slice p s.l.length c), .int .i64 i, .int .i64 k] w (PT w) := by
  have HV := Lib.hid (fun W (k : Below w.heap.size w W) (hm : s.l.length ≤ 1000000) => validv_any s (.slice p s.l.length c) W hn ((h hm).keep k))
  have HS := Lib.hid (fun W (k : Below w.heap.size w W) (hm : s.l.length ≤ 1000000) => stonev_any s (.slice p s.l.length c) W ((h hm).keep k) hm)
  have HSP := Lib.hid (fun W a m x1 z1 x2 z2 (hp : Pts W (.slice a s.l.length m) s.l) => splith_any s a m x1 z1 x2 z2 W hn hp)
  have HBD : Hid (∀ W v, Vld s → Pts W v s.l → Calls Try.prog 32 #[stv s v] W fun e w' => (∃ g cp, e = .returned (.tuple #[.slice (some ⟨g, 0, none⟩) (bp s.l).length cp, .int .i64 0]) ∧ Row w' g 0 (bp s.l)) ∧ Below W.heap.size W w') := fun W v hv hp => (border_any s v W hn hp).mono fun e w' ⟨⟨r, x, he, _, hx⟩, hb⟩ => ⟨by
    rcases hx with ⟨_, rfl, ho⟩ | ⟨hx, _⟩
    · rcases ho.row with ⟨_, h0⟩ | ⟨g, cp, rfl, hr, _, _⟩
      · have := bp_pos hv.2.1.tr hv.2.1.1.1; rw [h0] at this; simp at this
      · exact ⟨g, cp, he, hr⟩
    · exact absurd hv hx, hb⟩
  have HN : Hid (Vld s → 0 < (bp s.l).length ∧ (bp s.l).length ≤ 24000) := fun hv => ⟨bp_pos hv.2.1.tr hv.2.1.1.1, bp_len3 hv.2.1⟩
  have HIP : Hid (Vld s → ∀ j, j < (bp s.l).length → IsP s.l (px (bp s.l) j) (pz (bp s.l) j)) := fun hv j hj => (bp_mem hv.2.1.tr hv.2.1.1.1 _).1 (px_mem hj)
  have HWX : Hid (∀ W v, Vld s → Pts W v s.l → Ans 19 #[stv s v] W (.tuple #[.int .i64 (tw s.l * s.dp * s.dn), .int .i64 0]) ∧ Ans 20 #[stv s v] W (.tuple #[.int .i64 (mx3 s.l), .int .i64 (mz3 s.l), .int .i64 (3 * tw s.l), .int .i64 0])) := fun W v hv hp => ⟨ans_weight hn hp hv, ans_centre hn hp hv⟩
  have HLS : Hid (∀ W x1 z1 x2 z2, Vld s → s.l.length ≤ 1000000 → Below w.heap.size w W → IsP s.l x1 z1 → IsP s.l x2 z2 → Calls Try.prog 46 #[.slice p s.l.length c, .agg #[.int .i64 x1, .int .i64 z1], .agg #[.int .i64 x2, .int .i64 z2]] W fun e w' =>
      (∃ v, e = .returned v ∧ Ans 45 #[v] w' (.tuple #[.int .i64 (mnx (leftR s.l (x1, z1) (x2, z2)) (leftR s.l (x1, z1) (x2, z2)).length), .int .i64 (mnz (leftR s.l (x1, z1) (x2, z2)) (leftR s.l (x1, z1) (x2, z2)).length)])) ∧ Below W.heap.size W w') := fun W x1 z1 x2 z2 hv hm kk hp hq => by
    have h3 := hv.2.1.1
    obtain ⟨b, o, c', hpe, hrow⟩ := ((h hm).keep kk).some (by omega)
    cases hpe
    have b1 := hp.bd hv.2.1.2.1; have b2 := hq.bd hv.2.1.2.1
    exact left_shift b o c s.l x1 z1 x2 z2 W hrow (by omega) (by omega) hv.2.1.2.1 (by unfold Sm; omega) (by unfold Sm; omega)
  have hn1 := hn
  obtain ⟨nm, l, dp, dn, gx, gz⟩ := s
  have HSC : Hid (∀ (W : World) (x1 z1 x2 z2 : Int) (e : Ending) (W' : World), Vld ⟨nm, l, dp, dn, gx, gz⟩ → IsP l x1 z1 → IsP l x2 z2 → PSh ⟨nm, l, dp, dn, gx, gz⟩ x1 z1 x2 z2 W.heap.size e W' → ∃ na pa ma ca da ea ga ha nb pb mb cb db eb gb ib er, e = .returned (.tuple #[.agg (c6 na (.slice pa ma ca) da ea ga ha), .agg (c6 nb (.slice pb mb cb) db eb gb ib), .int .i64 er]) ∧
      ((er = 0 ∧ ∃ wa wb ax az bx bz pxa pza pba qxa qza qba, HF ⟨nm, l, dp, dn, gx, gz⟩ x1 z1 x2 z2 (.agg (c6 na (.slice pa ma ca) da ea ga ha)) (.agg (c6 nb (.slice pb mb cb) db eb gb ib)) W' wa wb ax az bx bz pxa pza pba qxa qza qba) ∨ er = 2 ∨ er = 5)) := by
    rintro W x1 z1 x2 z2 e W' hv hp hq ⟨na, pa, ma, ca, da, ea, ga, ha, nb, pb, mb, cb, db, eb, gb, ib, er, rfl, hE, _, hO⟩
    refine ⟨na, pa, ma, ca, da, ea, ga, ha, nb, pb, mb, cb, db, eb, gb, ib, er, rfl, ?_⟩
    by_cases h0 : er = 0
    · subst h0
      exact .inl ⟨rfl, halves_facts hE (hO rfl).1 (hO rfl).2⟩
    · refine .inr ?_
      rcases hE with ⟨h, _⟩ | ⟨_, h, _⟩ | ⟨_, _, h⟩ | ⟨_, _, h⟩ | ⟨_, _, h⟩
      · exact absurd hv h
      · exact absurd ⟨hp, hq⟩ h
      · exact .inl h
      · exact .inr h
      · exact absurd h h0
  have HSL : Hid (∀ (W : World) (base : Nat) (v : Value), Own W base v l → ∃ a m, v = .slice a l.length m) := fun W base v h => by
    rcases h.row with ⟨rfl, h0⟩ | ⟨g, c, h1, _⟩
    · exact ⟨none, 0, by rw [h0]; rfl⟩
    · exact ⟨_, _, h1⟩
  unfold maxLen at hn1 hlm
  unfold stv at *
  dsimp only at *
  have HP : Hid (∀ (W W' : World) (base : Nat) (v : Value), l.length ≤ 1000000 → Own W base v l → Below W.heap.size W W' → Pts W' v l) := fun W W' base v hb h k => (h.pts (by omega)).keep k
  clear h hn
  have HLT : Hid (∀ W' VA VB x1 z1 x2 z2 wa wb ax az bx bz pxa pza pba qxa qza qba, Vld ⟨nm, l, dp, dn, gx, gz⟩ → l.length ≤ 1000000 → IsP l x1 z1 → IsP l x2 z2 → HF ⟨nm, l, dp, dn, gx, gz⟩ x1 z1 x2 z2 VA VB W' wa wb ax az bx bz pxa pza pba qxa qza qba → ∀ W, Below w.heap.size w W →
      Calls Try.prog 46 #[.slice p l.length c, .agg #[.int .i64 x1, .int .i64 z1], .agg #[.int .i64 x2, .int .i64 z2]] W (fun e w' => (∃ v, e = .returned v ∧ Ans 45 #[v] w' (.tuple #[.int .i64 ax, .int .i64 az])) ∧ Below W.heap.size W w') ∧
      Calls Try.prog 46 #[.slice p l.length c, .agg #[.int .i64 x2, .int .i64 z2], .agg #[.int .i64 x1, .int .i64 z1]] W (fun e w' => (∃ v, e = .returned v ∧ Ans 45 #[v] w' (.tuple #[.int .i64 bx, .int .i64 bz])) ∧ Below W.heap.size W w')) := fun W' VA VB x1 z1 x2 z2 wa wb ax az bx bz pxa pza pba qxa qza qba hv hm hp hq hf W kk => by
    have e1 := hf.ax; have e2 := hf.az; have e3 := hf.bx; have e4 := hf.bz
    dsimp only at e1 e2 e3 e4
    rw [e1, e2, e3, e4]
    exact ⟨HLS.out W x1 z1 x2 z2 hv hm kk hp hq, HLS.out W x2 z2 x1 z1 hv hm kk hq hp⟩
  have HFS : Hid (∀ W' VA VB x1 z1 x2 z2 wa wb ax az bx bz pxa pza pba qxa qza qba, HF ⟨nm, l, dp, dn, gx, gz⟩ x1 z1 x2 z2 VA VB W' wa wb ax az bx bz pxa pza pba qxa qza qba → IntKind.i64.wrap (wa + wb) = tw l * dp * dn ∧ Chn ax bx pxa qxa pba qba (mx3 l) ∧ Chn az bz pza qza pba qba (mz3 l)) := fun W' VA VB x1 z1 x2 z2 wa wb ax az bx bz pxa pza pba qxa qza qba hf => ⟨hf.sum, hf.x, hf.z⟩
  clear HLS
  generalize tw l * dp * dn = WX at *
  generalize 3 * tw l = BX at *
  generalize mx3 l = MX at *
  generalize mz3 l = MZ at *
  generalize hVe : Vld ⟨nm, l, dp, dn, gx, gz⟩ = V at *
  clear hVe
  generalize bp l = L at *
  obtain ⟨n, hnn⟩ : ∃ n, n = l.length := ⟨_, rfl⟩
  rw [← hnn] at hlm HV HS HSP HSL HP HLT ⊢
  clear hnn
  obtain ⟨N, hNN⟩ : ∃ N, N = L.length := ⟨_, rfl⟩
  have HRL : Hid (∀ W g, Row W g 0 L → ∀ j, j < N → W.cell? ⟨g, 0 + j * 2, none⟩ = some (.int .i64 (px L j)) ∧ W.cell? ⟨g, 0 + j * 2 + 1, none⟩ = some (.int .i64 (pz L j))) := fun W g hr j hj => hr j (by rw [← hNN]; exact hj)
  rw [← hNN] at HBD HN HIP
  clear hNN
  have k1 := bl1 w (.cells (c6 nm (.slice p n c) dp dn gx gz) 26)
  have b1 : Blk w.heap.size (c6 nm (.slice p n c) dp dn gx gz) 26 (w.alloc (.cells (c6 nm (.slice p n c) dp dn gx gz) 26)) := Blk.new w _ 26
  have HB1 : Hid (∀ W, Below (w.alloc (.cells (c6 nm (.slice p n c) dp dn gx gz) 26)).heap.size (w.alloc (.cells (c6 nm (.slice p n c) dp dn gx gz) 26)) W → Blk w.heap.size (c6 nm (.slice p n c) dp dn gx gz) 26 W ∧ Below w.heap.size w W) := fun W k => ⟨b1.below k, Below.thru k1 k1.size k⟩
  have K1 := Lib.hid k1
  clear b1 k1
  by_cases h20 : 20 < n
  · go_enter Try.func11, Try.ntmps11
    go_wp2_with fail
    refine (wakes_any _).mono ?_
    rintro e w2 ⟨rfl, hb2⟩
    have k2 := Below.thru K1.out K1.out.size hb2
    clear hb2
    go_wp2
    go_ret
    exact ⟨rfl, k2⟩
  · go_enter Try.func11, Try.ntmps11
    go_wp2_with fail
    refine (HV.out _ K1.out (by omega)).mono ?_
    rintro e w1 ⟨⟨bv, rfl, hbv⟩, hb1⟩
    have q1 := HB1.out _ hb1
    have HB2 : Hid (∀ W, Below w1.heap.size w1 W → Blk w.heap.size (c6 nm (.slice p n c) dp dn gx gz) 26 W ∧ Below w.heap.size w W) := fun W k => ⟨q1.1.below k, Below.thru q1.2 q1.2.size k⟩
    have KW1 := Lib.hid q1.2
    have HBV := Lib.hid hbv
    have s0 := q1.1.cell (i := 0) rfl; have s1 := q1.1.cell (i := 1) rfl; have s2 := q1.1.cell (i := 2) rfl; have s3 := q1.1.cell (i := 3) rfl; have s4 := q1.1.cell (i := 4) rfl; have s5 := q1.1.cell (i := 5) rfl
    clear hb1 hbv q1
    cases bv with
    | false =>
      clear s0 s1 s2 s3 s4 s5
      go_wp2_with fail
      refine (wakes_any _).mono ?_
      rintro e w2 ⟨rfl, hb2⟩
      have k2 := Below.thru KW1.out KW1.out.size hb2
      clear hb2
      go_wp2
      go_ret
      exact ⟨rfl, k2⟩
    | true =>
      have HV1 : Hid V := HBV.out.1 rfl
      go_wp2_with fail
      refine (HS.out _ KW1.out (by omega)).mono ?_
      rintro e w2 ⟨⟨v5, rfl, ho5⟩, hb2⟩
      obtain ⟨a5, c5, rfl⟩ := HSL.out _ _ _ ho5
      have HP5 : Hid (∀ W, Below w2.heap.size w2 W → Pts W (.slice a5 n c5) l) := fun W k => HP.out _ _ _ _ (by omega) ho5 k
      have KW2 := Lib.hid hb2
      clear hb2 ho5 s0 s1 s2 s3 s4 s5
      obtain ⟨w3, hw3⟩ : ∃ w3, w3 = w2.alloc (.cells (c6 nm (.slice a5 n c5) dp dn gx gz) 34) := ⟨_, rfl⟩
      have hb3 : Below w2.heap.size w2 w3 := by rw [hw3]; exact bl1 w2 _
      have b7 : Blk w2.heap.size (c6 nm (.slice a5 n c5) dp dn gx gz) 34 w3 := by rw [hw3]; exact Blk.new _ _ _
      have HB3 : Hid (∀ W, Below w3.heap.size w3 W → (Blk w.heap.size (c6 nm (.slice p n c) dp dn gx gz) 26 W ∧ Blk w2.heap.size (c6 nm (.slice a5 n c5) dp dn gx gz) 34 W) ∧ Below w.heap.size w W) := fun W k => by
        have kk := Below.thru KW2.out KW2.out.size (Below.thru hb3 hb3.size k)
        exact ⟨⟨(HB2.out _ kk).1, b7.below k⟩, (HB2.out _ kk).2⟩
      have HP3 := Lib.hid (HP5.out w3 hb3)
      have HX3 := Lib.hid (HWX.out w3 _ HV1.out HP3.out)
      have HW3 := Lib.hid hw3
      have s0 := b7.cell (i := 0) rfl; have s1 := b7.cell (i := 1) rfl; have s2 := b7.cell (i := 2) rfl; have s3 := b7.cell (i := 3) rfl; have s4 := b7.cell (i := 4) rfl; have s5 := b7.cell (i := 5) rfl
      rw [hw3] at s0 s1 s2 s3 s4 s5
      clear hw3 b7 hb3
      go_wp2_with fail
      rw [← HW3.out]
      clear s0 s1 s2 s3 s4 s5
      refine (HBD.out w3 _ HV1.out HP3.out).mono ?_
      rintro e w4 ⟨⟨g, cp, rfl, hrow⟩, hb4⟩
      have KW4 := Lib.hid hb4
      have HCE : Hid (∀ W, Below w4.heap.size w4 W → ∀ j, j < N → W.cell? ⟨g, 0 + j * 2, none⟩ = some (.int .i64 (px L j)) ∧ W.cell? ⟨g, 0 + j * 2 + 1, none⟩ = some (.int .i64 (pz L j))) := fun W k j hj => HRL.out W g (hrow.keep k) j hj
      obtain ⟨hN, hN24⟩ := HN.out HV1.out
      obtain ⟨ui, m1, hui, hr1, hm1, hw1⟩ := uidx i hN hN24
      obtain ⟨uk, m2, huk, hr2, hm2, hw2⟩ := uidx k hN hN24
      have huN : IntKind.u64.wrap (N : Int) = (N : Int) := by rw [IntKind.wrap_u64]; omega
      have hN0 : ¬ (N : Int) = 0 := by omega
      have hN1 : ¬ N = 0 := by omega
      have HI1 := Lib.hid (HIP.out HV1.out m1 hm1)
      have HI2 := Lib.hid (HIP.out HV1.out m2 hm2)
      obtain ⟨x1, hx1⟩ : ∃ x, x = px L m1 := ⟨_, rfl⟩
      obtain ⟨z1, hz1⟩ : ∃ x, x = pz L m1 := ⟨_, rfl⟩
      obtain ⟨x2, hx2⟩ : ∃ x, x = px L m2 := ⟨_, rfl⟩
      obtain ⟨z2, hz2⟩ : ∃ x, x = pz L m2 := ⟨_, rfl⟩
      have HC1 : Hid (∀ W, Below w4.heap.size w4 W → (W.cell? ⟨g, 0 + m1 * 2, none⟩ = some (.int .i64 x1) ∧ W.cell? ⟨g, 0 + m1 * 2 + 1, none⟩ = some (.int .i64 z1)) ∧ (W.cell? ⟨g, 0 + m2 * 2, none⟩ = some (.int .i64 x2) ∧ W.cell? ⟨g, 0 + m2 * 2 + 1, none⟩ = some (.int .i64 z2))) := fun W k => by
        rw [hx1, hz1, hx2, hz2]; exact ⟨HCE.out W k m1 hm1, HCE.out W k m2 hm2⟩
      rw [← hx1, ← hz1] at HI1
      rw [← hx2, ← hz2] at HI2
      clear hb4 hrow hx1 hz1 hx2 hz2 HCE HRL HIP
      clear hlm hn1
      go_upto_region 7 with fail
      go_cut [10, 11] (fun u10 u11 wc => ∃ T10 T11, u10 = .pointer (some ⟨T10, 0, none⟩) ∧ u11 = .pointer (some ⟨T11, 0, none⟩) ∧ Hid ((wc.heap[T10]? = some (.cells #[.int .i64 x1, .int .i64 z1] 32 (0, 0)) ∧ wc.heap[T11]? = some (.cells #[.int .i64 x2, .int .i64 z2] 32 (0, 0))) ∧ Below w4.heap.size w4 wc ∧ w4.heap.size ≤ T10 ∧ w4.heap.size ≤ T11))
      case first =>
        rename_i J K' hJ hK
        refine wp_region_alf D7h (tabE 10 11 (vals7 g N cp i ui m1 k uk m2 x1 z1 x2 z2) w4.heap.size) al7h 22
          (fun i f w' => Below w4.heap.size w4 w' ∧ (23 ≤ i → ∃ T, f 10 = .pointer (some ⟨T, 0, none⟩) ∧ w4.heap.size ≤ T ∧ w'.heap[T]? = some (.cells #[.int .i64 x1, .int .i64 z1] 32 (0, 0))) ∧ (24 ≤ i → ∃ T, f 11 = .pointer (some ⟨T, 0, none⟩) ∧ w4.heap.size ≤ T ∧ w'.heap[T]? = some (.cells #[.int .i64 x2, .int .i64 z2] 32 (0, 0))))
          (by kernel_rfl) (by kernel_rfl) (by kernel_rfl) (by kernel_rfl) (by decide) (by kernel_rfl) (fun i f f' w' w'' hI hb he => ⟨Below.thru hI.1 hI.1.size hb, fun h => by
            obtain ⟨T, h1, h2, h3⟩ := hI.2.1 h
            rcases he with he | he
            · omega
            · exact ⟨T, (he 10 rfl).trans h1, h2, (hb.block T (Array.getElem?_eq_some_iff.1 h3).1).trans h3⟩, fun h => by
            obtain ⟨T, h1, h2, h3⟩ := hI.2.2 h
            rcases he with he | he
            · omega
            · exact ⟨T, (he 11 rfl).trans h1, h2, (hb.block T (Array.getElem?_eq_some_iff.1 h3).1).trans h3⟩⟩) (by kernel_rfl) (fun f => ⟨(Below.refl _ _).drew, fun h => by omega, fun h => by omega⟩) ?_ ?_ ?_
        · refine .cons (fun j f w' hj hI hs => ⟨wanted_none rfl, _, rfl, .val (rn_move rfl) ⟨⟨Below.refl _ _, fr_old rfl rfl⟩, (fun h => by cases h)⟩⟩) ?_
          refine .cons (fun j f w' hj hI hs => ⟨wanted_none rfl, _, rfl, .val (rn_move rfl) ⟨⟨Below.refl _ _, fr_old rfl rfl⟩, (fun h => by cases h)⟩⟩) ?_
          refine .cons (fun j f w' hj hI hs => ⟨wanted_none rfl, _, rfl, .val (rn_uint rfl ((fr_own rfl rfl).trans (hs 64 (by kernel_rfl))) hui) ⟨⟨Below.refl _ _, rfl⟩, (fun h => by cases h)⟩⟩) ?_
          refine .cons (fun j f w' hj hI hs => ⟨wanted_none rfl, _, rfl, .val (rn_move rfl) ⟨⟨Below.refl _ _, fr_old rfl rfl⟩, (fun h => by cases h)⟩⟩) ?_
          refine .cons (fun j f w' hj hI hs => ⟨wanted_none rfl, _, rfl, .val (rn_len31 rfl ((fr_own rfl rfl).trans (hs 66 (by kernel_rfl)))) ⟨⟨Below.refl _ _, rfl⟩, (fun h => by cases h)⟩⟩) ?_
          refine .cons (fun j f w' hj hI hs => ⟨wanted_none rfl, _, rfl, .val (rn_uint rfl ((fr_own rfl rfl).trans (hs 67 (by kernel_rfl))) huN) ⟨⟨Below.refl _ _, rfl⟩, (fun h => by cases h)⟩⟩) ?_
          refine .cons (fun j f w' hj hI hs => ⟨wanted_none rfl, _, rfl, .val (rn_rem75 rfl ((fr_own rfl rfl).trans (hs 65 (by kernel_rfl))) ((fr_own rfl rfl).trans (hs 68 (by kernel_rfl))) hN0 hr1) ⟨⟨Below.refl _ _, rfl⟩, (fun h => by cases h)⟩⟩) ?_
          refine .cons (fun j f w' hj hI hs => ⟨wanted_none rfl, _, rfl, .val (rn_int rfl ((fr_own rfl rfl).trans (hs 69 (by kernel_rfl))) hw1) ⟨⟨Below.refl _ _, rfl⟩, (fun h => by cases h)⟩⟩) ?_
          refine .cons (fun j f w' hj hI hs => ⟨wanted_none rfl, _, rfl, .val (rn_idx31 rfl ((fr_own rfl rfl).trans (hs 63 (by kernel_rfl))) ((fr_own rfl rfl).trans (hs 70 (by kernel_rfl))) hm1) ⟨⟨Below.refl _ _, rfl⟩, (fun h => by cases h)⟩⟩) ?_
          refine .cons (fun j f w' hj hI hs => ⟨wanted_none rfl, _, rfl, .val (rn_load32 rfl ((fr_own rfl rfl).trans (hs 71 (by kernel_rfl))) (HC1.out w' hI.1).1.1 (HC1.out w' hI.1).1.2) ⟨⟨Below.refl _ _, rfl⟩, (fun h => by cases h)⟩⟩) ?_
          refine .cons (fun j f w' hj hI hs => ⟨wanted_none rfl, _, rfl, .val (rn_move rfl) ⟨⟨Below.refl _ _, fr_old rfl rfl⟩, (fun h => by cases h)⟩⟩) ?_
          refine .cons (fun j f w' hj hI hs => ⟨wanted_none rfl, _, rfl, .val (rn_move rfl) ⟨⟨Below.refl _ _, fr_old rfl rfl⟩, (fun h => by cases h)⟩⟩) ?_
          refine .cons (fun j f w' hj hI hs => ⟨wanted_none rfl, _, rfl, .val (rn_uint rfl ((fr_own rfl rfl).trans (hs 74 (by kernel_rfl))) huk) ⟨⟨Below.refl _ _, rfl⟩, (fun h => by cases h)⟩⟩) ?_
          refine .cons (fun j f w' hj hI hs => ⟨wanted_none rfl, _, rfl, .val (rn_move rfl) ⟨⟨Below.refl _ _, fr_old rfl rfl⟩, (fun h => by cases h)⟩⟩) ?_
          refine .cons (fun j f w' hj hI hs => ⟨wanted_none rfl, _, rfl, .val (rn_len31 rfl ((fr_own rfl rfl).trans (hs 76 (by kernel_rfl)))) ⟨⟨Below.refl _ _, rfl⟩, (fun h => by cases h)⟩⟩) ?_
          refine .cons (fun j f w' hj hI hs => ⟨wanted_none rfl, _, rfl, .val (rn_uint rfl ((fr_own rfl rfl).trans (hs 77 (by kernel_rfl))) huN) ⟨⟨Below.refl _ _, rfl⟩, (fun h => by cases h)⟩⟩) ?_
          refine .cons (fun j f w' hj hI hs => ⟨wanted_none rfl, _, rfl, .val (rn_rem75 rfl ((fr_own rfl rfl).trans (hs 75 (by kernel_rfl))) ((fr_own rfl rfl).trans (hs 78 (by kernel_rfl))) hN0 hr2) ⟨⟨Below.refl _ _, rfl⟩, (fun h => by cases h)⟩⟩) ?_
          refine .cons (fun j f w' hj hI hs => ⟨wanted_none rfl, _, rfl, .val (rn_int rfl ((fr_own rfl rfl).trans (hs 79 (by kernel_rfl))) hw2) ⟨⟨Below.refl _ _, rfl⟩, (fun h => by cases h)⟩⟩) ?_
          refine .cons (fun j f w' hj hI hs => ⟨wanted_none rfl, _, rfl, .val (rn_idx31 rfl ((fr_own rfl rfl).trans (hs 73 (by kernel_rfl))) ((fr_own rfl rfl).trans (hs 80 (by kernel_rfl))) hm2) ⟨⟨Below.refl _ _, rfl⟩, (fun h => by cases h)⟩⟩) ?_
          refine .cons (fun j f w' hj hI hs => ⟨wanted_none rfl, _, rfl, .val (rn_load32 rfl ((fr_own rfl rfl).trans (hs 81 (by kernel_rfl))) (HC1.out w' hI.1).2.1 (HC1.out w' hI.1).2.2) ⟨⟨Below.refl _ _, rfl⟩, (fun h => by cases h)⟩⟩) ?_
          refine .cons (fun j f w' hj hI hs => ⟨wanted_none rfl, _, rfl, .val (rn_alloc32 rfl) ⟨⟨bl1 _ _, _, rfl, hI.1.size, 0, 0, World.alloc_heap_new _ _⟩, fun _ => ⟨rfl, by simp⟩⟩⟩) ?_
          refine .cons (fun j f w' hj hI hs => ⟨wanted_none rfl, _, rfl, .val (rn_alloc32 rfl) ⟨⟨bl1 _ _, _, rfl, hI.1.size, 0, 0, World.alloc_heap_new _ _⟩, fun _ => ⟨rfl, by simp⟩⟩⟩) .nil
        · refine .cons (fun f w' hI hs hne => ⟨wanted_none rfl, rfl, ?_⟩) ?_
          · have h20 : f 72 = _ := (hs 72 (by kernel_rfl))
            obtain ⟨T, e5, hW, x0, z0, hT⟩ : ∃ T, f 10 = .pointer (some ⟨T, 0, none⟩) ∧ w4.heap.size ≤ T ∧ ∃ x z : Int, w'.heap[T]? = some (.cells #[.int .i64 x, .int .i64 z] 32 (0, 0)) := (hs 10 (by kernel_rfl))
            exact .skip (rn_store32 rfl ((fr_own rfl rfl).trans e5) ((fr_own rfl rfl).trans h20) hT) ⟨⟨⟨(hI.1.setCell hW _).setCell hW _, fun _ => ⟨T, e5, hW, blk32_st hT⟩, fun h => by omega⟩, fun d v hk => tabE_st hT d v hk⟩, by simp [World.setCell]⟩
          refine .cons (fun f w' hI hs hne => ⟨wanted_none rfl, rfl, ?_⟩) .nil
          have h23 : f 82 = _ := (hs 82 (by kernel_rfl))
          obtain ⟨T, e6, hW, x0, z0, hT⟩ : ∃ T, f 11 = .pointer (some ⟨T, 0, none⟩) ∧ w4.heap.size ≤ T ∧ ∃ x z : Int, w'.heap[T]? = some (.cells #[.int .i64 x, .int .i64 z] 32 (0, 0)) := (hs 11 (by kernel_rfl))
          obtain ⟨T5, e5, hW5, h5⟩ := hI.2.1 (by decide)
          have hne2 : T5 ≠ T := by
            intro e
            have := hne 10 11 (by kernel_rfl) (by kernel_rfl) rfl rfl (by decide)
            rw [e5, e6, e] at this
            exact this rfl
          exact .skip (rn_store32 rfl ((fr_own rfl rfl).trans e6) ((fr_own rfl rfl).trans h23) hT) ⟨⟨⟨(hI.1.setCell hW _).setCell hW _, fun _ => ⟨T5, e5, hW5, blk2_far h5 hne2⟩, fun _ => ⟨T, e6, hW, blk32_st hT⟩⟩, fun d v hk => tabE_st hT d v hk⟩, by simp [World.setCell]⟩
        · intro f w' hI hs
          obtain ⟨T5, e5, hW5, h5⟩ := hI.2.1 (by decide)
          obtain ⟨T6, e6, hW6, h6⟩ := hI.2.2 (by decide)
          refine hK _ _ (Met.intro (hJ _ _ ?_))
          (repeat apply Exists.intro)
          refine ⟨⟨T5, T6, e5, e6, ⟨h5, h6⟩, hI.1, hW5, hW6⟩, rfl⟩
      obtain ⟨T10, T11, rfl, rfl, HTT⟩ := hcut
      generalize wc = w5 at *
      have K5 := Lib.hid HTT.out.2.1
      have HB5 : Hid (∀ W, Below w5.heap.size w5 W → ((Blk w.heap.size (c6 nm (.slice p n c) dp dn gx gz) 26 W ∧ Blk w2.heap.size (c6 nm (.slice a5 n c5) dp dn gx gz) 34 W) ∧ (Blk T10 #[.int .i64 x1, .int .i64 z1] 32 W ∧ Blk T11 #[.int .i64 x2, .int .i64 z2] 32 W)) ∧ Below w.heap.size w W ∧ Below w3.heap.size w3 W) := fun W k => by
        have kk := Below.thru KW4.out KW4.out.size (Below.thru K5.out K5.out.size k)
        have q := HB3.out _ kk
        have p1 : Blk T10 #[.int .i64 x1, .int .i64 z1] 32 w5 := HTT.out.1.1
        have p2 : Blk T11 #[.int .i64 x2, .int .i64 z2] 32 w5 := HTT.out.1.2
        exact ⟨⟨q.1, p1.below k, p2.below k⟩, q.2, kk⟩
      have q5 := HB5.out _ (Below.refl _ _)
      have HP5' := Lib.hid (HP3.out.keep q5.2.2)
      have s0 := q5.1.1.2.cell (i := 0) rfl; have s1 := q5.1.1.2.cell (i := 1) rfl; have s2 := q5.1.1.2.cell (i := 2) rfl; have s3 := q5.1.1.2.cell (i := 3) rfl; have s4 := q5.1.1.2.cell (i := 4) rfl; have s5 := q5.1.1.2.cell (i := 5) rfl
      have xc0 := q5.1.2.1.cell (i := 0) rfl; have xc1 := q5.1.2.1.cell (i := 1) rfl
      have yc0 := q5.1.2.2.cell (i := 0) rfl; have yc1 := q5.1.2.2.cell (i := 1) rfl
      clear q5 HC1 hui hr1 hm1 hw1 huk hr2 hm2 hw2 huN HTT
      go_wp2_with fail
      refine (HSP.out w5 a5 c5 x1 z1 x2 z2 HP5'.out).mono ?_
      rintro e w6 ⟨hx, hb6⟩
      obtain ⟨na, pa, ma, ca, da, ea, ga, ha, nb, pb, mb, cb, db, eb, gb, ib, er, rfl, hE⟩ := HSC.out w5 x1 z1 x2 z2 _ _ HV1.out HI1.out HI2.out hx
      have K6 := Lib.hid hb6
      clear hb6 hx s0 s1 s2 s3 s4 s5 xc0 xc1 yc0 yc1
      obtain ⟨w7, hw7⟩ : ∃ w7, w7 = (w6.alloc (.cells (c6 na (.slice pa ma ca) da ea ga ha) 34)).alloc (.cells (c6 nb (.slice pb mb cb) db eb gb ib) 34) := ⟨_, rfl⟩
      have hb7 : Below w6.heap.size w6 w7 := by rw [hw7]; exact bl2 w6 _ _
      have b12 : Blk w6.heap.size (c6 na (.slice pa ma ca) da ea ga ha) 34 w7 := by rw [hw7]; exact (Blk.new _ _ _).alloc _
      have b13 : Blk (w6.heap.size + 1) (c6 nb (.slice pb mb cb) db eb gb ib) 34 w7 := by
        rw [hw7]
        have := Blk.new (w6.alloc (.cells (c6 na (.slice pa ma ca) da ea ga ha) 34)) (c6 nb (.slice pb mb cb) db eb gb ib) 34
        simp only [World.size_alloc] at this
        exact this
      have HB7 : Hid (∀ W, Below w7.heap.size w7 W → (((Blk w.heap.size (c6 nm (.slice p n c) dp dn gx gz) 26 W ∧ Blk w2.heap.size (c6 nm (.slice a5 n c5) dp dn gx gz) 34 W) ∧ (Blk T10 #[.int .i64 x1, .int .i64 z1] 32 W ∧ Blk T11 #[.int .i64 x2, .int .i64 z2] 32 W)) ∧ (Blk w6.heap.size (c6 na (.slice pa ma ca) da ea ga ha) 34 W ∧ Blk (w6.heap.size + 1) (c6 nb (.slice pb mb cb) db eb gb ib) 34 W)) ∧ Below w.heap.size w W ∧ Below w3.heap.size w3 W ∧ Below w6.heap.size w6 W) := fun W k => by
        have k6 := Below.thru hb7 hb7.size k
        have q := HB5.out _ (Below.thru K6.out K6.out.size k6)
        exact ⟨⟨q.1, b12.below k, b13.below k⟩, q.2.1, q.2.2, k6⟩
      have HW7 := Lib.hid hw7
      clear hb7
      rcases hE with ⟨rfl, wa, wb, ax, az, bx, bz, pxa, pza, pba, qxa, qza, qba, hf⟩ | rfl | rfl
      · obtain ⟨hsum, hX, hZ⟩ := HFS.out _ _ _ _ _ _ _ _ _ _ _ _ _ _ _ _ _ _ _ hf
        have HLL := Lib.hid (HLT.out _ _ _ _ _ _ _ _ _ _ _ _ _ _ _ _ _ _ _ HV1.out (by omega) HI1.out HI2.out hf)
        have HwA := Lib.hid hf.wA; have HwB := Lib.hid hf.wB; have HkA := Lib.hid hf.kA; have HkB := Lib.hid hf.kB; have HcA := Lib.hid hf.cA; have HcB := Lib.hid hf.cB
        have HCX := Lib.hid hX; have HCZ := Lib.hid hZ
        clear hf hX hZ HFS HLT HSC HSP
        have zc0 := b12.cell (i := 0) rfl; have zc1 := b12.cell (i := 1) rfl; have zc2 := b12.cell (i := 2) rfl; have zc3 := b12.cell (i := 3) rfl; have zc4 := b12.cell (i := 4) rfl; have zc5 := b12.cell (i := 5) rfl
        have yc0 := b13.cell (i := 0) rfl; have yc1 := b13.cell (i := 1) rfl; have yc2 := b13.cell (i := 2) rfl; have yc3 := b13.cell (i := 3) rfl; have yc4 := b13.cell (i := 4) rfl; have yc5 := b13.cell (i := 5) rfl
        have HQ7 := Lib.hid (HB7.out _ (Below.refl _ _)).2
        rw [hw7] at zc0 zc1 zc2 zc3 zc4 zc5 yc0 yc1 yc2 yc3 yc4 yc5
        clear hw7 b12 b13
        go_wp2_with fail
        rw [← HW7.out]
        clear zc0 zc1 zc2 zc3 zc4 zc5 yc0 yc1 yc2 yc3 yc4 yc5
        refine (HwA.out w7 HQ7.out.2.2).mono ?_
        rintro e w8 ⟨rfl, hb8⟩
        have K8 := Lib.hid hb8
        have q8 := HB7.out _ K8.out
        have HQ8 := Lib.hid q8.2
        have yc0 := q8.1.2.2.cell (i := 0) rfl; have yc1 := q8.1.2.2.cell (i := 1) rfl; have yc2 := q8.1.2.2.cell (i := 2) rfl; have yc3 := q8.1.2.2.cell (i := 3) rfl; have yc4 := q8.1.2.2.cell (i := 4) rfl; have yc5 := q8.1.2.2.cell (i := 5) rfl
        clear hb8 q8
        go_wp2_with fail
        refine (HwB.out w8 HQ8.out.2.2).mono ?_
        rintro e w9 ⟨rfl, hb9⟩
        have K9 := Lib.hid (Below.thru K8.out K8.out.size hb9)
        have q9 := HB7.out _ K9.out
        have HQ9 := Lib.hid q9.2
        clear hb9 yc0 yc1 yc2 yc3 yc4 yc5
        have s0 := q9.1.1.1.2.cell (i := 0) rfl; have s1 := q9.1.1.1.2.cell (i := 1) rfl; have s2 := q9.1.1.1.2.cell (i := 2) rfl; have s3 := q9.1.1.1.2.cell (i := 3) rfl; have s4 := q9.1.1.1.2.cell (i := 4) rfl; have s5 := q9.1.1.1.2.cell (i := 5) rfl
        clear q9
        go_wp2_with fail
        refine (HX3.out.1 w9 HQ9.out.2.1).mono ?_
        rintro e w10 ⟨rfl, hb10⟩
        have K10 := Lib.hid (Below.thru K9.out K9.out.size hb10)
        have q10 := HB7.out _ K10.out
        have HQ10 := Lib.hid q10.2
        clear hb10 s0 s1 s2 s3 s4 s5
        have zc0 := q10.1.2.1.cell (i := 0) rfl; have zc1 := q10.1.2.1.cell (i := 1) rfl; have zc2 := q10.1.2.1.cell (i := 2) rfl; have zc3 := q10.1.2.1.cell (i := 3) rfl; have zc4 := q10.1.2.1.cell (i := 4) rfl; have zc5 := q10.1.2.1.cell (i := 5) rfl
        clear q10
        go_wp2_with fail
        refine (HkA.out w10 HQ10.out.2.2).mono ?_
        rintro e w11 ⟨rfl, hb11⟩
        have K11 := Lib.hid (Below.thru K10.out K10.out.size hb11)
        have q11 := HB7.out _ K11.out
        have HQ11 := Lib.hid q11.2
        clear hb11 zc0 zc1 zc2 zc3 zc4 zc5
        have yc0 := q11.1.2.2.cell (i := 0) rfl; have yc1 := q11.1.2.2.cell (i := 1) rfl; have yc2 := q11.1.2.2.cell (i := 2) rfl; have yc3 := q11.1.2.2.cell (i := 3) rfl; have yc4 := q11.1.2.2.cell (i := 4) rfl; have yc5 := q11.1.2.2.cell (i := 5) rfl
        clear q11
        go_wp2_with fail
        refine (HkB.out w11 HQ11.out.2.2).mono ?_
        rintro e w12 ⟨rfl, hb12⟩
        have K12 := Lib.hid (Below.thru K11.out K11.out.size hb12)
        have HPP : Hid (∀ W, Below w12.heap.size w12 W → W.cell? ⟨T10, 0, none⟩ = some (.int .i64 x1) ∧ W.cell? ⟨T10, 1, none⟩ = some (.int .i64 z1) ∧ W.cell? ⟨T11, 0, none⟩ = some (.int .i64 x2) ∧ W.cell? ⟨T11, 1, none⟩ = some (.int .i64 z2)) := fun W k => by
          have q := (HB7.out _ (Below.thru K12.out K12.out.size k)).1.1.2
          exact ⟨q.1.cell (i := 0) rfl, q.1.cell (i := 1) rfl, q.2.cell (i := 0) rfl, q.2.cell (i := 1) rfl⟩
        clear hb12 yc0 yc1 yc2 yc3 yc4 yc5
        go_upto_region 16 with fail
        go_cut [21, 22] (fun u21 u22 wc => ∃ T21 T22, u21 = .pointer (some ⟨T21, 0, none⟩) ∧ u22 = .pointer (some ⟨T22, 0, none⟩) ∧ Hid ((wc.heap[T21]? = some (.cells #[.int .i64 x1, .int .i64 z1] 24 (0, 0)) ∧ wc.heap[T22]? = some (.cells #[.int .i64 x2, .int .i64 z2] 24 (0, 0))) ∧ Below w12.heap.size w12 wc ∧ w12.heap.size ≤ T21 ∧ w12.heap.size ≤ T22))
        case first =>
          rename_i J K' hJ hK
          refine wp_region_alf D16h (tabF 21 22 (vals16 T10 T11 x1 z1 x2 z2) w12.heap.size) al16h 12
            (fun i f w' => Below w12.heap.size w12 w' ∧ (13 ≤ i → ∃ T, f 21 = .pointer (some ⟨T, 0, none⟩) ∧ w12.heap.size ≤ T ∧ w'.heap[T]? = some (.cells #[.int .i64 x1, .int .i64 z1] 24 (0, 0))) ∧ (14 ≤ i → ∃ T, f 22 = .pointer (some ⟨T, 0, none⟩) ∧ w12.heap.size ≤ T ∧ w'.heap[T]? = some (.cells #[.int .i64 x2, .int .i64 z2] 24 (0, 0))))
            (by kernel_rfl) (by kernel_rfl) (by kernel_rfl) (by kernel_rfl) (by decide) (by kernel_rfl) (fun i f f' w' w'' hI hb he => ⟨Below.thru hI.1 hI.1.size hb, fun h => by
              obtain ⟨T, h1, h2, h3⟩ := hI.2.1 h
              rcases he with he | he
              · omega
              · exact ⟨T, (he 21 rfl).trans h1, h2, (hb.block T (Array.getElem?_eq_some_iff.1 h3).1).trans h3⟩, fun h => by
              obtain ⟨T, h1, h2, h3⟩ := hI.2.2 h
              rcases he with he | he
              · omega
              · exact ⟨T, (he 22 rfl).trans h1, h2, (hb.block T (Array.getElem?_eq_some_iff.1 h3).1).trans h3⟩⟩) (by kernel_rfl) (fun f => ⟨(Below.refl _ _).drew, fun h => by omega, fun h => by omega⟩) ?_ ?_ ?_
          · refine .cons (fun j f w' hj hI hs => ⟨wanted_none rfl, _, rfl, .val (rn_field32_0 rfl (fr_old rfl rfl)) ⟨⟨Below.refl _ _, rfl⟩, (fun h => by cases h)⟩⟩) ?_
            refine .cons (fun j f w' hj hI hs => ⟨wanted_none rfl, _, rfl, .val (rn_load3 rfl ((fr_own rfl rfl).trans (hs 144 (by kernel_rfl))) (HPP.out w' hI.1).1) ⟨⟨Below.refl _ _, rfl⟩, (fun h => by cases h)⟩⟩) ?_
            refine .cons (fun j f w' hj hI hs => ⟨wanted_none rfl, _, rfl, .val (rn_field32_1 rfl (fr_old rfl rfl)) ⟨⟨Below.refl _ _, rfl⟩, (fun h => by cases h)⟩⟩) ?_
            refine .cons (fun j f w' hj hI hs => ⟨wanted_none rfl, _, rfl, .val (rn_load3 rfl ((fr_own rfl rfl).trans (hs 146 (by kernel_rfl))) (HPP.out w' hI.1).2.1) ⟨⟨Below.refl _ _, rfl⟩, (fun h => by cases h)⟩⟩) ?_
            refine .cons (fun j f w' hj hI hs => ⟨wanted_none rfl, _, rfl, .val (rn_build24 rfl ((fr_own rfl rfl).trans (hs 145 (by kernel_rfl))) ((fr_own rfl rfl).trans (hs 147 (by kernel_rfl)))) ⟨⟨Below.refl _ _, rfl⟩, (fun h => by cases h)⟩⟩) ?_
            refine .cons (fun j f w' hj hI hs => ⟨wanted_none rfl, _, rfl, .val (rn_field32_0 rfl (fr_old rfl rfl)) ⟨⟨Below.refl _ _, rfl⟩, (fun h => by cases h)⟩⟩) ?_
            refine .cons (fun j f w' hj hI hs => ⟨wanted_none rfl, _, rfl, .val (rn_load3 rfl ((fr_own rfl rfl).trans (hs 149 (by kernel_rfl))) (HPP.out w' hI.1).2.2.1) ⟨⟨Below.refl _ _, rfl⟩, (fun h => by cases h)⟩⟩) ?_
            refine .cons (fun j f w' hj hI hs => ⟨wanted_none rfl, _, rfl, .val (rn_field32_1 rfl (fr_old rfl rfl)) ⟨⟨Below.refl _ _, rfl⟩, (fun h => by cases h)⟩⟩) ?_
            refine .cons (fun j f w' hj hI hs => ⟨wanted_none rfl, _, rfl, .val (rn_load3 rfl ((fr_own rfl rfl).trans (hs 151 (by kernel_rfl))) (HPP.out w' hI.1).2.2.2) ⟨⟨Below.refl _ _, rfl⟩, (fun h => by cases h)⟩⟩) ?_
            refine .cons (fun j f w' hj hI hs => ⟨wanted_none rfl, _, rfl, .val (rn_build24 rfl ((fr_own rfl rfl).trans (hs 150 (by kernel_rfl))) ((fr_own rfl rfl).trans (hs 152 (by kernel_rfl)))) ⟨⟨Below.refl _ _, rfl⟩, (fun h => by cases h)⟩⟩) ?_
            refine .cons (fun j f w' hj hI hs => ⟨wanted_none rfl, _, rfl, .val (rn_alloc24 rfl) ⟨⟨bl1 _ _, _, rfl, hI.1.size, 0, 0, World.alloc_heap_new _ _⟩, fun _ => ⟨rfl, by simp⟩⟩⟩) ?_
            refine .cons (fun j f w' hj hI hs => ⟨wanted_none rfl, _, rfl, .val (rn_alloc24 rfl) ⟨⟨bl1 _ _, _, rfl, hI.1.size, 0, 0, World.alloc_heap_new _ _⟩, fun _ => ⟨rfl, by simp⟩⟩⟩) .nil
          · refine .cons (fun f w' hI hs hne => ⟨wanted_none rfl, rfl, ?_⟩) ?_
            · have h20 : f 148 = _ := (hs 148 (by kernel_rfl))
              obtain ⟨T, e5, hW, x0, z0, hT⟩ : ∃ T, f 21 = .pointer (some ⟨T, 0, none⟩) ∧ w12.heap.size ≤ T ∧ ∃ x z : Int, w'.heap[T]? = some (.cells #[.int .i64 x, .int .i64 z] 24 (0, 0)) := (hs 21 (by kernel_rfl))
              exact .skip (rn_store24 rfl ((fr_own rfl rfl).trans e5) ((fr_own rfl rfl).trans h20) hT) ⟨⟨⟨(hI.1.setCell hW _).setCell hW _, fun _ => ⟨T, e5, hW, blk2_st hT⟩, fun h => by omega⟩, fun d v hk => tabF_st hT d v hk⟩, by simp [World.setCell]⟩
            refine .cons (fun f w' hI hs hne => ⟨wanted_none rfl, rfl, ?_⟩) .nil
            have h23 : f 153 = _ := (hs 153 (by kernel_rfl))
            obtain ⟨T, e6, hW, x0, z0, hT⟩ : ∃ T, f 22 = .pointer (some ⟨T, 0, none⟩) ∧ w12.heap.size ≤ T ∧ ∃ x z : Int, w'.heap[T]? = some (.cells #[.int .i64 x, .int .i64 z] 24 (0, 0)) := (hs 22 (by kernel_rfl))
            obtain ⟨T5, e5, hW5, h5⟩ := hI.2.1 (by decide)
            have hne2 : T5 ≠ T := by
              intro e
              have := hne 21 22 (by kernel_rfl) (by kernel_rfl) rfl rfl (by decide)
              rw [e5, e6, e] at this
              exact this rfl
            exact .skip (rn_store24 rfl ((fr_own rfl rfl).trans e6) ((fr_own rfl rfl).trans h23) hT) ⟨⟨⟨(hI.1.setCell hW _).setCell hW _, fun _ => ⟨T5, e5, hW5, blk2_far h5 hne2⟩, fun _ => ⟨T, e6, hW, blk2_st hT⟩⟩, fun d v hk => tabF_st hT d v hk⟩, by simp [World.setCell]⟩
          · intro f w' hI hs
            obtain ⟨T5, e5, hW5, h5⟩ := hI.2.1 (by decide)
            obtain ⟨T6, e6, hW6, h6⟩ := hI.2.2 (by decide)
            refine hK _ _ (Met.intro (hJ _ _ ?_))
            (repeat apply Exists.intro)
            refine ⟨⟨T5, T6, e5, e6, ⟨h5, h6⟩, hI.1, hW5, hW6⟩, rfl⟩
        obtain ⟨T21, T22, rfl, rfl, HUU⟩ := hcut
        generalize wc = w13 at *
        have K13 := Lib.hid (Below.thru K12.out K12.out.size HUU.out.2.1)
        have HBB : Hid (∀ W, Below w13.heap.size w13 W → ((((Blk w.heap.size (c6 nm (.slice p n c) dp dn gx gz) 26 W ∧ Blk w2.heap.size (c6 nm (.slice a5 n c5) dp dn gx gz) 34 W) ∧ (Blk T10 #[.int .i64 x1, .int .i64 z1] 32 W ∧ Blk T11 #[.int .i64 x2, .int .i64 z2] 32 W)) ∧ (Blk w6.heap.size (c6 na (.slice pa ma ca) da ea ga ha) 34 W ∧ Blk (w6.heap.size + 1) (c6 nb (.slice pb mb cb) db eb gb ib) 34 W)) ∧ Blk T21 #[.int .i64 x1, .int .i64 z1] 24 W ∧ Blk T22 #[.int .i64 x2, .int .i64 z2] 24 W) ∧ Below w.heap.size w W ∧ Below w3.heap.size w3 W ∧ Below w6.heap.size w6 W) := fun W k => by
          have q := HB7.out _ (Below.thru K13.out K13.out.size k)
          have p1 : Blk T21 #[.int .i64 x1, .int .i64 z1] 24 w13 := HUU.out.1.1
          have p2 : Blk T22 #[.int .i64 x2, .int .i64 z2] 24 w13 := HUU.out.1.2
          exact ⟨⟨q.1, p1.below k, p2.below k⟩, q.2⟩
        clear HPP HB7 HUU
        have q13 := HBB.out _ (Below.refl _ _)
        have HQ13 := Lib.hid q13.2
        have s0 := q13.1.1.1.1.1.cell (i := 0) rfl; have s1 := q13.1.1.1.1.1.cell (i := 1) rfl; have s2 := q13.1.1.1.1.1.cell (i := 2) rfl; have s3 := q13.1.1.1.1.1.cell (i := 3) rfl; have s4 := q13.1.1.1.1.1.cell (i := 4) rfl; have s5 := q13.1.1.1.1.1.cell (i := 5) rfl
        have xc0 := q13.1.2.1.cell (i := 0) rfl; have xc1 := q13.1.2.1.cell (i := 1) rfl
        have yc0 := q13.1.2.2.cell (i := 0) rfl; have yc1 := q13.1.2.2.cell (i := 1) rfl
        clear q13
        go_wp2_with fail
        refine (HLL.out w13 HQ13.out.1).1.mono ?_
        rintro e w14 ⟨⟨v14, rfl, ha14⟩, hb14⟩
        have HA14 := Lib.hid ha14
        have K14 := Lib.hid hb14
        clear ha14 hb14 s0 s1 s2 s3 s4 s5 xc0 xc1 yc0 yc1
        go_wp2_with fail
        refine (HA14.out w14 (Below.refl _ _)).mono ?_
        rintro e w15 ⟨rfl, hb15⟩
        have K15 := Lib.hid (Below.thru K14.out K14.out.size hb15)
        have q15 := HBB.out _ K15.out
        have HQ15 := Lib.hid q15.2
        have s0 := q15.1.1.1.1.1.cell (i := 0) rfl; have s1 := q15.1.1.1.1.1.cell (i := 1) rfl; have s2 := q15.1.1.1.1.1.cell (i := 2) rfl; have s3 := q15.1.1.1.1.1.cell (i := 3) rfl; have s4 := q15.1.1.1.1.1.cell (i := 4) rfl; have s5 := q15.1.1.1.1.1.cell (i := 5) rfl
        have xc0 := q15.1.2.1.cell (i := 0) rfl; have xc1 := q15.1.2.1.cell (i := 1) rfl
        have yc0 := q15.1.2.2.cell (i := 0) rfl; have yc1 := q15.1.2.2.cell (i := 1) rfl
        clear hb15 q15
        go_wp2_with fail
        refine (HLL.out w15 HQ15.out.1).2.mono ?_
        rintro e w16 ⟨⟨v16, rfl, ha16⟩, hb16⟩
        have HA16 := Lib.hid ha16
        have K16 := Lib.hid (Below.thru K15.out K15.out.size hb16)
        clear ha16 hb16 s0 s1 s2 s3 s4 s5 xc0 xc1 yc0 yc1
        go_wp2_with fail
        refine (HA16.out w16 (Below.refl _ _)).mono ?_
        rintro e w17 ⟨rfl, hb17⟩
        have K17 := Lib.hid (Below.thru K16.out K16.out.size hb17)
        have q17 := HBB.out _ K17.out
        have HQ17 := Lib.hid q17.2
        have s0 := q17.1.1.1.1.2.cell (i := 0) rfl; have s1 := q17.1.1.1.1.2.cell (i := 1) rfl; have s2 := q17.1.1.1.1.2.cell (i := 2) rfl; have s3 := q17.1.1.1.1.2.cell (i := 3) rfl; have s4 := q17.1.1.1.1.2.cell (i := 4) rfl; have s5 := q17.1.1.1.1.2.cell (i := 5) rfl
        clear hb17 q17
        go_wp2_with fail
        refine (HX3.out.2 w17 HQ17.out.2.1).mono ?_
        rintro e w18 ⟨rfl, hb18⟩
        have K18 := Lib.hid (Below.thru K17.out K17.out.size hb18)
        have q18 := HBB.out _ K18.out
        have HQ18 := Lib.hid q18.2
        clear hb18 s0 s1 s2 s3 s4 s5
        have zc0 := q18.1.1.2.1.cell (i := 0) rfl; have zc1 := q18.1.1.2.1.cell (i := 1) rfl; have zc2 := q18.1.1.2.1.cell (i := 2) rfl; have zc3 := q18.1.1.2.1.cell (i := 3) rfl; have zc4 := q18.1.1.2.1.cell (i := 4) rfl; have zc5 := q18.1.1.2.1.cell (i := 5) rfl
        clear q18
        go_wp2_with fail
        refine (HcA.out w18 HQ18.out.2.2).mono ?_
        rintro e w19 ⟨rfl, hb19⟩
        have K19 := Lib.hid (Below.thru K18.out K18.out.size hb19)
        have q19 := HBB.out _ K19.out
        have HQ19 := Lib.hid q19.2
        clear hb19 zc0 zc1 zc2 zc3 zc4 zc5
        have yc0 := q19.1.1.2.2.cell (i := 0) rfl; have yc1 := q19.1.1.2.2.cell (i := 1) rfl; have yc2 := q19.1.1.2.2.cell (i := 2) rfl; have yc3 := q19.1.1.2.2.cell (i := 3) rfl; have yc4 := q19.1.1.2.2.cell (i := 4) rfl; have yc5 := q19.1.1.2.2.cell (i := 5) rfl
        clear q19
        go_wp2_with fail
        refine (HcB.out w19 HQ19.out.2.2).mono ?_
        rintro e w20 ⟨rfl, hb20⟩
        have K20 := Lib.hid (Below.thru K19.out K19.out.size hb20)
        clear hb20 yc0 yc1 yc2 yc3 yc4 yc5
        obtain ⟨u1, u2, u3, u4, e1, e2, e3, e4, e5⟩ := HCX.out.ex
        obtain ⟨v1, v2, v3, v4, f1, f2, f3, f4, f5⟩ := HCZ.out.ex
        go_wp2_with fail
        refine (wakes_any _).mono ?_
        rintro e wd ⟨rfl, hbd⟩
        have k8 := (HBB.out _ (Below.thru K20.out K20.out.size hbd)).2.1
        clear hbd
        go_wp2
        go_ret
        exact ⟨rfl, k8⟩
      · clear hw7 b12 b13 HFS HLT HSC HSP
        go_wp2_with fail
        rw [← HW7.out]
        refine (wakes_any _).mono ?_
        rintro e wd ⟨rfl, hbd⟩
        have k8 := (HB7.out _ hbd).2.1
        clear hbd
        go_wp2
        go_ret
        exact ⟨rfl, k8⟩
      · clear hw7 b12 b13 HFS HLT HSC HSP
        go_wp2_with fail
        rw [← HW7.out]
        refine (wakes_any _).mono ?_
        rintro e wd ⟨rfl, hbd⟩
        have k8 := (HB7.out _ hbd).2.1
        clear hbd
        go_wp2
        go_ret
        exact ⟨rfl, k8⟩
end Go.Proofs.Ytljmhejljpfaiaa
