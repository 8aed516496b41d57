import Derived.Test.YtljmhejljpfaiaaCb
namespace Go.Proofs.Ytljmhejljpfaiaa
open Go.RowKit Go.Shelf

/-! plain mathematics: the corners to the left of a cut -/
/-- the point with an index, around -/
def pc (l : List (Int × Int)) (i : Nat) : Int × Int := pt l (i % l.length)
theorem pc_add (l : List (Int × Int)) (i : Nat) : pc l (i + l.length) = pc l i := by unfold pc; rw [Nat.add_mod_right]
theorem Tr.low {l : List (Int × Int)} (h : Tr l) {a b c : Nat} (ha : a < l.length) (hab : a < b) (hbc : b < c) (hca : c < a + l.length) : 0 < D3 (pc l a) (pc l b) (pc l c) := by
  have e0 : pc l a = pt l a := by unfold pc; rw [Nat.mod_eq_of_lt ha]
  have e : ∀ k, l.length ≤ k → k < l.length + l.length → pc l k = pt l (k - l.length) := fun k h1 h2 => by
    unfold pc
    rw [Nat.mod_eq_sub_mod h1, Nat.mod_eq_of_lt (by omega)]
  rcases Nat.lt_or_ge b l.length with hb | hb
  · have e1 : pc l b = pt l b := by unfold pc; rw [Nat.mod_eq_of_lt hb]
    rcases Nat.lt_or_ge c l.length with hc | hc
    · have e2 : pc l c = pt l c := by unfold pc; rw [Nat.mod_eq_of_lt hc]
      rw [e0, e1, e2]
      exact h a b c hab hbc hc
    · rw [e0, e1, e c hc (by omega), D3_rot, D3_rot]
      exact h _ a b (by omega) hab hb
  · rw [e0, e b hb (by omega), e c (by omega) (by omega), D3_rot]
    exact h _ _ a (by omega) (by omega) ha
theorem Tr.cyc {l : List (Int × Int)} (h : Tr l) : ∀ a b c : Nat, a < b → b < c → c < a + l.length → 0 < D3 (pc l a) (pc l b) (pc l c) := fun a => by
  induction a using Nat.strongRecOn with
  | ind a ih =>
    intro b c hab hbc hca
    rcases Nat.lt_or_ge a l.length with q | q
    · exact h.low q hab hbc hca
    · have := ih (a - l.length) (by omega) (b - l.length) (c - l.length) (by omega) (by omega) (by omega)
      have e : ∀ k, l.length ≤ k → pc l (k - l.length) = pc l k := fun k hk => by
        have := pc_add l (k - l.length)
        rw [Nat.sub_add_cancel hk] at this
        exact this.symm
      rw [e a q, e b (by omega), e c (by omega)] at this
      exact this
/-- three corners, around, some of them perhaps the same -/
theorem Tr.cyc0 {l : List (Int × Int)} (h : Tr l) {a b c : Nat} (hab : a ≤ b) (hbc : b ≤ c) (hca : c ≤ a + l.length) : 0 ≤ D3 (pc l a) (pc l b) (pc l c) := by
  rcases Nat.lt_or_ge a b with q1 | q1
  · rcases Nat.lt_or_ge b c with q2 | q2
    · rcases Nat.lt_or_ge c (a + l.length) with q3 | q3
      · have := h.cyc a b c q1 q2 q3; omega
      · obtain rfl : c = a + l.length := by omega
        rw [pc_add, D3_same1]; omega
    · obtain rfl : b = c := by omega
      rw [D3_same]; omega
  · obtain rfl : a = b := by omega
    rw [D3_same0]; omega
/-- one number of a point between those of two others -/
def Bt (n a b : Int) : Prop := (a ≤ n ∧ n ≤ b) ∨ (b ≤ n ∧ n ≤ a)
theorem Bt.lo {n a b : Int} (h : Bt n a b) : 0 ≤ (b - a) * (n - a) := by
  rcases h with h | h
  · exact Int.mul_nonneg (by omega) (by omega)
  · have := Int.mul_nonneg (show 0 ≤ a - b by omega) (show 0 ≤ a - n by omega)
    grind
theorem Bt.hi {n a b : Int} (h : Bt n a b) : 0 ≤ (b - a) * (b - n) := by
  rcases h with h | h
  · exact Int.mul_nonneg (by omega) (by omega)
  · have := Int.mul_nonneg (show 0 ≤ a - b by omega) (show 0 ≤ n - b by omega)
    grind
theorem Bt.lo_pos {n a b : Int} (h : Bt n a b) (k : n ≠ a) : 0 < (b - a) * (n - a) := by
  rcases h with h | h
  · exact Int.mul_pos (by omega) (by omega)
  · have := Int.mul_pos (show 0 < a - b by omega) (show 0 < a - n by omega)
    grind
theorem Bt.hi_pos {n a b : Int} (h : Bt n a b) (k : n ≠ b) : 0 < (b - a) * (b - n) := by
  rcases h with h | h
  · exact Int.mul_pos (by omega) (by omega)
  · have := Int.mul_pos (show 0 < a - b by omega) (show 0 < n - b by omega)
    grind
/-- on the edge from a to b, both ends included -/
def OnE (a b p : Int × Int) : Prop := Bt p.1 a.1 b.1 ∧ Bt p.2 a.2 b.2 ∧ D3 a b p = 0
/-- between a and b, with weights -/
structure Mx (a b p : Int × Int) (A B : Int) : Prop where
  ha : 0 ≤ A
  hb : 0 ≤ B
  h1 : (A + B) * p.1 = A * a.1 + B * b.1
  h2 : (A + B) * p.2 = A * a.2 + B * b.2
  na : p ≠ b → 0 < A
  nb : p ≠ a → 0 < B
theorem OnE.mx {a b p : Int × Int} (h : OnE a b p) : ∃ A B, Mx a b p A B := by
  obtain ⟨h1, h2, h3⟩ := h
  refine ⟨(b.1 - a.1) * (b.1 - p.1) + (b.2 - a.2) * (b.2 - p.2), (b.1 - a.1) * (p.1 - a.1) + (b.2 - a.2) * (p.2 - a.2), ?_, ?_, ?_, ?_, ?_, ?_⟩
  · have := h1.hi; have := h2.hi; omega
  · have := h1.lo; have := h2.lo; omega
  · unfold D3 at h3; grind
  · unfold D3 at h3; grind
  · intro hp
    by_cases e1 : p.1 = b.1
    · have e2 : p.2 ≠ b.2 := fun e => hp (Prod.ext e1 e)
      have := h2.hi_pos e2; have := h1.hi; omega
    · have := h1.hi_pos e1; have := h2.hi; omega
  · intro hp
    by_cases e1 : p.1 = a.1
    · have e2 : p.2 ≠ a.2 := fun e => hp (Prod.ext e1 e)
      have := h2.lo_pos e2; have := h1.lo; omega
    · have := h1.lo_pos e1; have := h2.lo; omega
theorem Mx.d3 {a b p : Int × Int} {A B : Int} (h : Mx a b p A B) (q c : Int × Int) : (A + B) * D3 p q c = A * D3 a q c + B * D3 b q c := by
  have h1 := h.h1; have h2 := h.h2
  unfold D3
  grind
/-- seen from both: the sums of the products -/
theorem Mx.two {a b p : Int × Int} {A B : Int} (h : Mx a b p A B) {c d q : Int × Int} {C D : Int} (k : Mx c d q C D) (r : Int × Int) :
    (A + B) * ((C + D) * D3 p q r) = A * (C * D3 a c r) + A * (D * D3 a d r) + (B * (C * D3 b c r) + B * (D * D3 b d r)) := by
  have e1 := h.d3 q r
  have e2 : ∀ x, (C + D) * D3 x q r = C * D3 x c r + D * D3 x d r := fun x => by
    have := k.d3 r x
    rw [← D3_rot x, ← D3_rot x, ← D3_rot x] at this
    exact this
  have e3 := e2 a; have e4 := e2 b
  grind
theorem nn3 {a b c : Int} (ha : 0 ≤ a) (hb : 0 ≤ b) (hc : 0 ≤ c) : 0 ≤ a * (b * c) := Int.mul_nonneg ha (Int.mul_nonneg hb hc)
theorem pp3 {a b c : Int} (ha : 0 < a) (hb : 0 < b) (hc : 0 < c) : 0 < a * (b * c) := Int.mul_pos ha (Int.mul_pos hb hc)
theorem pos_of {a b x : Int} (ha : 0 ≤ a) (hb : 0 ≤ b) (h : 0 < a * (b * x)) : 0 < x := by
  rcases Int.lt_or_le 0 x with q | q
  · exact q
  · exfalso
    have := nn3 ha hb (show 0 ≤ -x by omega)
    rw [Int.mul_neg, Int.mul_neg] at this
    omega
/-- a corner behind q's edge, up to p's, is p itself or lies to the left of the way from p to q -/
theorem Tr.left {l : List (Int × Int)} (h : Tr l) (h3 : 3 ≤ l.length) {p q : Int × Int} {i d m : Nat} (hd : 0 < d) (hn : d < l.length) (hm : 1 ≤ m) (hmd : m ≤ d)
    (hq : OnE (pc l i) (pc l (i + 1)) q) (hq' : q ≠ pc l (i + 1)) (hp : OnE (pc l (i + d)) (pc l (i + d + 1)) p) (hp' : p ≠ pc l (i + d + 1))
    (hap : ¬ OnE (pc l (i + d)) (pc l (i + d + 1)) q) (hc : pc l (i + m) ≠ p) : 0 < D3 p q (pc l (i + m)) := by
  obtain ⟨A, B, mp⟩ := hp.mx
  obtain ⟨C, D, mq⟩ := hq.mx
  have e := mp.two mq (pc l (i + m))
  have hA := mp.na hp'
  have hC := mq.na hq'
  have hB := mp.hb
  have hD := mq.hb
  have t1 := h.cyc0 (a := i) (b := i + m) (c := i + d) (by omega) (by omega) (by omega)
  have t2 := h.cyc0 (a := i + 1) (b := i + m) (c := i + d) (by omega) (by omega) (by omega)
  have t3 := h.cyc0 (a := i) (b := i + m) (c := i + d + 1) (by omega) (by omega) (by omega)
  have t4 := h.cyc0 (a := i + 1) (b := i + m) (c := i + d + 1) (by omega) (by omega) (by omega)
  rw [← D3_rot] at t1 t2 t3 t4
  have u1 := nn3 (show 0 ≤ A by omega) (show 0 ≤ C by omega) t1
  have u2 := nn3 (show 0 ≤ A by omega) hD t2
  have u3 := nn3 hB (show 0 ≤ C by omega) t3
  have u4 := nn3 hB hD t4
  refine pos_of (a := A + B) (b := C + D) (by omega) (by omega) ?_
  rw [e]
  rcases Nat.lt_or_ge m d with q1 | q1
  · have v := h.cyc i (i + m) (i + d) (by omega) (by omega) (by omega)
    rw [← D3_rot] at v
    have := pp3 hA hC v
    omega
  · obtain rfl : m = d := by omega
    have hB' := mp.nb (fun k => hc k.symm)
    rcases Nat.lt_or_ge (m + 1) l.length with q2 | q2
    · have v := h.cyc i (i + m) (i + m + 1) (by omega) (by omega) (by omega)
      rw [← D3_rot] at v
      have := pp3 hB' hC v
      omega
    · have en : i + m + 1 = i + l.length := by omega
      have hD' : 0 < D := mq.nb (fun k => hap (by
        rw [k, en, pc_add]
        refine ⟨?_, ?_, D3_same _ _⟩ <;> unfold Bt <;> omega))
      have v := h.cyc (i + 1) (i + m) (i + m + 1) (by omega) (by omega) (by omega)
      rw [← D3_rot] at v
      have := pp3 hB' hD' v
      omega
/-! the reference's part beside the program's -/
theorem oe_iff {x z ax az bx bz : Int} : oe x z ax az bx bz = true ↔ OnE (ax, az) (bx, bz) (x, z) := by
  have e : trn ax az bx bz x z = D3 (ax, az) (bx, bz) (x, z) := rfl
  unfold oe OnE btw inB Bt
  rw [e]
  simp only [Bool.and_eq_true, decide_eq_true_eq, beq_iff_eq]
  omega
theorem pc_lt {l : List Pt} {i : Nat} (h : i < l.length) : pc l i = (px l i, pz l i) := by unfold pc; rw [Nat.mod_eq_of_lt h]; rfl
theorem pc_nx (l : List Pt) (i : Nat) : pc l (i + 1) = (px l (nx l.length i), pz l (nx l.length i)) := rfl
theorem pc_mod (l : List Pt) (i : Nat) : pc l (i % l.length) = pc l i := by unfold pc; rw [Nat.mod_mod]
theorem hit_iff {l : List Pt} {p : Pt} {i : Nat} (h : i < l.length) : hit l p.1 p.2 i = true ↔ p ≠ pc l (i + 1) ∧ OnE (pc l i) (pc l (i + 1)) p := by
  unfold hit
  rw [Bool.and_eq_true, oe_iff, pc_lt h, pc_nx]
  refine and_congr ?_ Iff.rfl
  rw [Bool.or_eq_true, bne_iff_ne, bne_iff_ne]
  simp only [ne_eq, Prod.ext_iff]
  constructor
  · rintro h ⟨h1, h2⟩; rcases h with h | h <;> contradiction
  · intro h
    by_cases h1 : p.1 = px l (nx l.length i)
    · exact .inr fun h2 => h ⟨h1, h2⟩
    · exact .inl h1
theorem both_iff {l : List Pt} {p q : Pt} {i : Nat} (h : i < l.length) : both l p.1 p.2 q.1 q.2 i = true ↔ OnE (pc l i) (pc l (i + 1)) p ∧ OnE (pc l i) (pc l (i + 1)) q := by
  unfold both
  rw [Bool.and_eq_true, oe_iff, oe_iff, pc_lt h, pc_nx]
theorem CanC.no {l : List Pt} {p q : Pt} (h : CanC l p.1 p.2 q.1 q.2) (i : Nat) (h0 : 0 < l.length) : ¬ (OnE (pc l i) (pc l (i + 1)) p ∧ OnE (pc l i) (pc l (i + 1)) q) := by
  have hi : i % l.length < l.length := Nat.mod_lt _ h0
  have := h _ hi
  have e : pc l (i % l.length + 1) = pc l (i + 1) := by unfold pc; rw [Nat.mod_add_mod]
  rw [← pc_mod, ← e]
  intro hc
  rw [(both_iff hi).2 hc] at this
  cases this
/-- the corners behind i, as they come -/
def behind (l : List Pt) (i k : Nat) : List Pt := (List.range k).map fun m => pc l (i + 1 + m)
theorem behind_succ (l : List Pt) (i k : Nat) : behind l i (k + 1) = pc l (i + 1) :: behind l (i + 1) k := by
  unfold behind
  rw [List.range_succ_eq_map, List.map_cons, List.map_map]
  congr 1
  refine List.map_congr_left fun m _ => ?_
  show pc l (i + 1 + (m + 1)) = _
  rw [show i + 1 + (m + 1) = i + 1 + 1 + m by omega]
theorem behind_add (l : List Pt) (i a b : Nat) : behind l i (a + b) = behind l i a ++ behind l (i + a) b := by
  unfold behind
  rw [List.range_add, List.map_append, List.map_map]
  congr 1
  refine List.map_congr_left fun m _ => ?_
  show pc l (i + 1 + (a + m)) = _
  rw [show i + 1 + (a + m) = i + a + 1 + m by omega]
theorem behind_mem {l : List Pt} {i k : Nat} {c : Pt} : c ∈ behind l i k ↔ ∃ m, 1 ≤ m ∧ m ≤ k ∧ pc l (i + m) = c := by
  unfold behind
  rw [List.mem_map]
  constructor
  · rintro ⟨m, hm, rfl⟩
    have := List.mem_range.1 hm
    exact ⟨m + 1, by omega, by omega, by rw [show i + (m + 1) = i + 1 + m by omega]⟩
  · rintro ⟨m, h1, h2, rfl⟩
    exact ⟨m - 1, List.mem_range.2 (by omega), by rw [show i + 1 + (m - 1) = i + m by omega]⟩
theorem nx_mod (n i : Nat) : nx n (i % n) = (i + 1) % n := by unfold nx; rw [Nat.mod_add_mod]
theorem wkR_behind (l : List Pt) (q : Pt) : ∀ k i, wkR l q k (i % l.length) = (behind l i k).filter (fun c => decide (c ≠ q))
  | 0, i => rfl
  | k + 1, i => by
    rw [wkR_succ, behind_succ, nx_mod, wkR_behind l q k (i + 1)]
    have e : (px l ((i + 1) % l.length), pz l ((i + 1) % l.length)) = pc l (i + 1) := rfl
    rw [e, List.filter_cons]
    by_cases h : pc l (i + 1) = q
    · simp [h]
    · simp [h]
/-- a corner to the left behind one that is not -/
def LB (l : List Pt) (p q : Pt) (k : Nat) : Prop := 0 < D3 p q (pt l k) ∧ D3 p q (pt l ((k + l.length - 1) % l.length)) ≤ 0
instance (l : List Pt) (p q : Pt) (k : Nat) : Decidable (LB l p q k) := by unfold LB; exact inferInstance
/-- the last one of the first k -/
def lfI (l : List Pt) (p q : Pt) : Nat → Nat
  | 0 => 0
  | k + 1 => if LB l p q k then k else lfI l p q k
theorem lfI_lt (l : List Pt) (p q : Pt) (h : 0 < l.length) : ∀ k, k ≤ l.length → lfI l p q k < l.length
  | 0, _ => h
  | k + 1, hk => by
    unfold lfI
    split
    · omega
    · exact lfI_lt l p q h k (by omega)
theorem lfI_of (l : List Pt) (p q : Pt) : ∀ k, (∃ j, j < k ∧ LB l p q j) → LB l p q (lfI l p q k) ∧ lfI l p q k < k
  | 0, ⟨j, hj, _⟩ => absurd hj (by omega)
  | k + 1, ⟨j, hj, hl⟩ => by
    unfold lfI
    split
    · rename_i hk; exact ⟨hk, by omega⟩
    · rename_i hk
      have hjk : j ≠ k := fun e => hk (e ▸ hl)
      obtain ⟨h1, h2⟩ := lfI_of l p q k ⟨j, by omega, hl⟩
      exact ⟨h1, by omega⟩
/-- the corners to the left, from an index on, among the first k -/
def lfL (l : List Pt) (p q : Pt) (f : Nat) : Nat → List Pt
  | 0 => []
  | k + 1 => lfL l p q f k ++ (if 0 < D3 p q (pc l (f + k)) then [pc l (f + k)] else [])
theorem lfL_filter (l : List Pt) (p q : Pt) (f : Nat) : ∀ k, lfL l p q f k = ((List.range k).map fun m => pc l (f + m)).filter (fun c => decide (0 < D3 p q c))
  | 0 => rfl
  | k + 1 => by
    unfold lfL
    rw [lfL_filter l p q f k, List.range_succ, List.map_append, List.filter_append]
    congr 1
    by_cases h : 0 < D3 p q (pc l (f + k))
    · simp [h]
    · simp [h]
/-- the reference's part to the left of the way from p to q -/
def leftR (l : List Pt) (p q : Pt) : List Pt := [p, q] ++ lfL l p q (lfI l p q l.length) l.length
/-- what a cut has -/
structure Ct (l : List Pt) (p q : Pt) (i d : Nat) : Prop where
  tr : Tr l
  h3 : 3 ≤ l.length
  hd : 0 < d
  hn : d < l.length
  hq : OnE (pc l i) (pc l (i + 1)) q
  hq' : q ≠ pc l (i + 1)
  hp : OnE (pc l (i + d)) (pc l (i + d + 1)) p
  hp' : p ≠ pc l (i + d + 1)
  hc : ∀ k, ¬ (OnE (pc l k) (pc l (k + 1)) p ∧ OnE (pc l k) (pc l (k + 1)) q)
theorem Ct.swap {l : List Pt} {p q : Pt} {i d : Nat} (h : Ct l p q i d) : Ct l q p (i + d) (l.length - d) := by
  have e : i + d + (l.length - d) = i + l.length := by have := h.hn; omega
  refine ⟨h.tr, h.h3, by have := h.hn; omega, by have := h.hd; have := h.h3; omega, h.hp, h.hp', ?_, ?_, fun k hk => h.hc k ⟨hk.2, hk.1⟩⟩
  · rw [e, show i + l.length + 1 = i + 1 + l.length by omega, pc_add, pc_add]; exact h.hq
  · rw [e, show i + l.length + 1 = i + 1 + l.length by omega, pc_add]; exact h.hq'
theorem Ct.pos {l : List Pt} {p q : Pt} {i d : Nat} (h : Ct l p q i d) {m : Nat} (hm : 1 ≤ m) (hmd : m ≤ d) (hc : pc l (i + m) ≠ p) : 0 < D3 p q (pc l (i + m)) :=
  h.tr.left h.h3 h.hd h.hn hm hmd h.hq h.hq' h.hp h.hp' (fun k => h.hc _ ⟨h.hp, k⟩) hc
theorem Ct.neg {l : List Pt} {p q : Pt} {i d : Nat} (h : Ct l p q i d) {m : Nat} (hm : d < m) (hmn : m ≤ l.length) : D3 p q (pc l (i + m)) ≤ 0 := by
  have e : i + d + (m - d) = i + m := by omega
  by_cases hc : pc l (i + m) = q
  · rw [hc, D3_same]; omega
  · have := h.swap.pos (m := m - d) (by omega) (by omega) (by rw [e]; exact hc)
    rw [e, D3_rot, D3_swap] at this
    omega
theorem Ct.pos_iff {l : List Pt} {p q : Pt} {i d : Nat} (h : Ct l p q i d) {m : Nat} (hm : 1 ≤ m) (hmd : m ≤ d) : 0 < D3 p q (pc l (i + m)) ↔ pc l (i + m) ≠ p :=
  ⟨fun k e => by rw [e, D3_same1] at k; omega, h.pos hm hmd⟩
/-- where the corners to the left begin -/
theorem Ct.first {l : List Pt} {p q : Pt} {i d : Nat} (h : Ct l p q i d) {k : Nat} (hk : k < l.length) (hl : LB l p q k) : k = (i + 1) % l.length := by
  obtain ⟨hl1, hl2⟩ := hl
  have h3 := h.h3; have hdn := h.hn; have hd0 := h.hd
  -- the offset from i on
  obtain ⟨m, hm1, hmn, hmk⟩ : ∃ m, 1 ≤ m ∧ m ≤ l.length ∧ (i + m) % l.length = k := by
    have hi : i % l.length < l.length := Nat.mod_lt _ (by omega)
    rcases Nat.lt_or_ge (i % l.length) k with q1 | q1
    · refine ⟨k - i % l.length, by omega, by omega, ?_⟩
      rw [← Nat.mod_add_mod, show i % l.length + (k - i % l.length) = k by omega, Nat.mod_eq_of_lt hk]
    · refine ⟨k + l.length - i % l.length, by omega, by omega, ?_⟩
      rw [← Nat.mod_add_mod, show i % l.length + (k + l.length - i % l.length) = k + l.length by omega, Nat.add_mod_right, Nat.mod_eq_of_lt hk]
  have ek : pt l k = pc l (i + m) := by unfold pc; rw [hmk]
  have ep : pt l ((k + l.length - 1) % l.length) = pc l (i + (m - 1)) := by
    unfold pc
    have : (k + l.length - 1) % l.length = (i + (m - 1)) % l.length := by
      rw [← hmk, Nat.add_sub_assoc (by omega), Nat.mod_add_mod, show i + m + (l.length - 1) = i + (m - 1) + l.length by omega, Nat.add_mod_right]
    rw [this]
  rw [ek] at hl1
  rw [ep] at hl2
  have hmd : m ≤ d := by
    rcases Nat.lt_or_ge d m with q1 | q1
    · have := h.neg q1 hmn; omega
    · exact q1
  have : m = 1 := by
    rcases Nat.lt_or_ge 1 m with q1 | q1
    · exfalso
      have ec : pc l (i + (m - 1)) = p := by
        by_cases hc : pc l (i + (m - 1)) = p
        · exact hc
        · have := h.pos (m := m - 1) (by omega) (by omega) hc; omega
      have h5 := h.tr.cyc (i + (m - 1)) (i + d) (i + d + 1) (by omega) (by omega) (by omega)
      rw [ec, D3_rot, h.hp.2.2] at h5
      omega
    · omega
  rw [← hmk, this]
/-- if none begins, none is there -/
theorem Ct.none {l : List Pt} {p q : Pt} {i d : Nat} (h : Ct l p q i d) (hl : ∀ k, k < l.length → ¬ LB l p q k) : ∀ m, m ≤ l.length → D3 p q (pc l (i + m)) ≤ 0
  | 0, _ => by
    have := h.neg (m := l.length) h.hn (Nat.le_refl _)
    rw [pc_add] at this
    exact this
  | m + 1, hm => by
    have ih := h.none hl m (by omega)
    have h3 := h.h3
    rcases Int.lt_or_le 0 (D3 p q (pc l (i + (m + 1)))) with q1 | q1
    · exfalso
      refine hl ((i + (m + 1)) % l.length) (Nat.mod_lt _ (by omega)) ⟨q1, ?_⟩
      have : ((i + (m + 1)) % l.length + l.length - 1) % l.length = (i + m) % l.length := by
        rw [Nat.add_sub_assoc (by omega), Nat.mod_add_mod, show i + (m + 1) + (l.length - 1) = i + m + l.length by omega, Nat.add_mod_right]
      rw [this]
      exact ih
    · exact q1
theorem filter_nil {α : Type} {f : α → Bool} {l : List α} (h : ∀ a, a ∈ l → f a = false) : l.filter f = [] := List.filter_eq_nil_iff.2 fun a ha => by rw [h a ha]; exact Bool.false_ne_true
theorem Ct.left_eq {l : List Pt} {p q : Pt} {i d : Nat} (h : Ct l p q i d) : lfL l p q (lfI l p q l.length) l.length = (behind l i d).filter (fun c => decide (c ≠ p)) := by
  have h3 := h.h3
  rw [lfL_filter]
  by_cases hl : ∃ j, j < l.length ∧ LB l p q j
  · obtain ⟨h1, h2⟩ := lfI_of l p q _ hl
    have e := h.first h2 h1
    have e2 : ((List.range l.length).map fun m => pc l (lfI l p q l.length + m)) = behind l i (d + (l.length - d)) := by
      have hn := h.hn
      rw [show d + (l.length - d) = l.length by omega]
      unfold behind
      refine List.map_congr_left fun m _ => ?_
      rw [e]
      unfold pc
      rw [Nat.mod_add_mod]
    rw [e2, behind_add, List.filter_append, filter_nil (l := behind l (i + d) _), List.append_nil]
    · refine List.filter_congr fun c hc => ?_
      obtain ⟨m, hm1, hm2, rfl⟩ := behind_mem.1 hc
      rw [decide_eq_decide]
      exact h.pos_iff hm1 hm2
    · intro c hc
      obtain ⟨m, hm1, hm2, rfl⟩ := behind_mem.1 hc
      have hn := h.hn
      have := h.neg (m := d + m) (by omega) (by omega)
      rw [show i + (d + m) = i + d + m by omega] at this
      simp only [decide_eq_false_iff_not]; omega
  · have hz := h.none (fun k hk hk2 => hl ⟨k, hk, hk2⟩)
    rw [filter_nil, filter_nil]
    · intro c hc
      obtain ⟨m, hm1, hm2, rfl⟩ := behind_mem.1 hc
      have hn := h.hn
      have := hz m (by omega)
      have h4 := h.pos_iff hm1 hm2
      simp only [decide_eq_false_iff_not, Decidable.not_not]
      by_cases hc : pc l (i + m) = p
      · exact hc
      · have := h4.2 hc; omega
    · intro c hc
      obtain ⟨m, hm, rfl⟩ := List.mem_map.1 hc
      -- every corner is one at an offset from i
      have hi : i % l.length < l.length := Nat.mod_lt _ (by omega)
      obtain ⟨k, hk, e⟩ : ∃ k, k ≤ l.length ∧ pc l (i + k) = pc l (lfI l p q l.length + m) := by
        have hj : (lfI l p q l.length + m) % l.length < l.length := Nat.mod_lt _ (by omega)
        rcases Nat.lt_or_ge ((lfI l p q l.length + m) % l.length) (i % l.length) with q1 | q1
        · refine ⟨(lfI l p q l.length + m) % l.length + l.length - i % l.length, by omega, ?_⟩
          unfold pc
          rw [← Nat.mod_add_mod, show i % l.length + ((lfI l p q l.length + m) % l.length + l.length - i % l.length) = (lfI l p q l.length + m) % l.length + l.length by omega, Nat.add_mod_right, Nat.mod_mod]
        · refine ⟨(lfI l p q l.length + m) % l.length - i % l.length, by omega, ?_⟩
          unfold pc
          rw [← Nat.mod_add_mod, show i % l.length + ((lfI l p q l.length + m) % l.length - i % l.length) = (lfI l p q l.length + m) % l.length by omega, Nat.mod_mod]
      have := hz k hk
      rw [e] at this
      simp only [decide_eq_false_iff_not]; omega
theorem hit_eo {l : List Pt} {p : Pt} (hp : IsP l p.1 p.2) : hit l p.1 p.2 (eo l p) = true := by
  obtain ⟨i, hi, h1⟩ := hp
  unfold eo
  cases h : (List.range l.length).find? (hit l p.1 p.2) with
  | none => exact absurd h1 (List.find?_eq_none.1 h i (by simpa using hi))
  | some j => exact List.find?_some h
theorem dist_to {n i e : Nat} (hi : i < n) (he : e < n) (h : i ≠ e) : 0 < dist n i e ∧ dist n i e < n ∧ (i + dist n i e) % n = e := by
  unfold dist
  split
  · refine ⟨by omega, by omega, ?_⟩
    rw [show i + (e - i) = e by omega, Nat.mod_eq_of_lt he]
  · refine ⟨by omega, by omega, ?_⟩
    rw [show i + (e + n - i) = e + n by omega, Nat.add_mod_right, Nat.mod_eq_of_lt he]
theorem ct_of {l : List Pt} {p q : Pt} (ht : Tr l) (h3 : 3 ≤ l.length) (hp : IsP l p.1 p.2) (hq : IsP l q.1 q.2) (hc : CanC l p.1 p.2 q.1 q.2) : Ct l p q (eo l q) (dist l.length (eo l q) (eo l p)) := by
  have hi := eo_isp hq
  have hj := eo_isp hp
  have h1 := (hit_iff hi).1 (hit_eo hq)
  have h2 := (hit_iff hj).1 (hit_eo hp)
  have hne : eo l q ≠ eo l p := fun e => hc.no (eo l p) (by omega) ⟨h2.2, by rw [← e]; exact h1.2⟩
  obtain ⟨d1, d2, d3⟩ := dist_to hi hj hne
  have e : pc l (eo l q + dist l.length (eo l q) (eo l p)) = pc l (eo l p) := by
    rw [← pc_mod, d3]
  have e2 : pc l (eo l q + dist l.length (eo l q) (eo l p) + 1) = pc l (eo l p + 1) := by
    unfold pc; rw [← Nat.mod_add_mod, d3]
  exact ⟨ht, h3, d1, d2, h1.2, h1.1, by rw [e, e2]; exact h2.2, by rw [e2]; exact h2.1, fun k => hc.no k (by omega)⟩
/-- the part of the program is the reference's, turned by one -/
theorem leftR_eq {l : List Pt} {p q : Pt} (ht : Tr l) (h3 : 3 ≤ l.length) (hp : IsP l p.1 p.2) (hq : IsP l q.1 q.2) (hc : CanC l p.1 p.2 q.1 q.2) :
    ∃ ys, leftR l p q = p :: ys ∧ partL l q p = ys ++ [p] := by
  have h := ct_of ht h3 hp hq hc
  refine ⟨q :: (behind l (eo l q) (dist l.length (eo l q) (eo l p))).filter (fun c => decide (c ≠ p)), ?_, ?_⟩
  · unfold leftR
    rw [h.left_eq]
    rfl
  · have := wkR_behind l p (dist l.length (eo l q) (eo l p)) (eo l q)
    rw [Nat.mod_eq_of_lt (eo_isp hq)] at this
    unfold partL
    rw [this]
    rfl
theorem Tr.inj {l : List Pt} (h : Tr l) (h3 : 3 ≤ l.length) {a b : Nat} (hab : a < b) (hb : b < a + l.length) : pc l a ≠ pc l b := fun e => by
  rcases Nat.lt_or_ge (b + 1) (a + l.length) with q | q
  · have := h.cyc a b (b + 1) hab (by omega) q
    rw [e, D3_same0] at this
    omega
  · have := h.cyc a (a + 1) b (by omega) (by omega) hb
    rw [← e, D3_same1] at this
    omega
theorem Ct.nodup {l : List Pt} {p q : Pt} {i d : Nat} (h : Ct l p q i d) : (p :: q :: (behind l i d).filter (fun c => decide (c ≠ p))).Nodup := by
  have h1 : (behind l i d).Nodup := by
    unfold behind
    rw [List.Nodup, List.pairwise_map]
    refine List.Pairwise.imp_of_mem (R := fun a b => a < b) (fun {a b} ha hb hlt => ?_) List.pairwise_lt_range
    have hd := h.hn
    have := List.mem_range.1 ha; have := List.mem_range.1 hb
    exact h.tr.inj h.h3 (by omega) (by omega)
  refine List.nodup_cons.2 ⟨fun hm => ?_, List.nodup_cons.2 ⟨fun hm => ?_, h1.filter _⟩⟩
  · rcases List.mem_cons.1 hm with e | hm
    · exact h.hc _ ⟨h.hp, e ▸ h.hp⟩
    · have := (List.mem_filter.1 hm).2
      simp at this
  · obtain ⟨h2, h4⟩ := List.mem_filter.1 hm
    obtain ⟨m, hm1, hm2, e⟩ := behind_mem.1 h2
    have := h.pos hm1 hm2 (by rw [e]; simpa using h4)
    rw [e, D3_same] at this
    omega
theorem leftR_nodup {l : List Pt} {p q : Pt} (ht : Tr l) (h3 : 3 ≤ l.length) (hp : IsP l p.1 p.2) (hq : IsP l q.1 q.2) (hc : CanC l p.1 p.2 q.1 q.2) : (leftR l p q).Nodup := by
  have h := ct_of ht h3 hp hq hc
  have := h.nodup
  unfold leftR
  rw [h.left_eq]
  exact this
/-! a shape in its place does not see where its list begins -/
theorem getD_rot {x : Pt} {ys : List Pt} {i : Nat} (hi : i < ys.length + 1) : (ys ++ [x]).getD i (0, 0) = (x :: ys).getD ((i + 1) % (ys.length + 1)) (0, 0) := by
  rcases Nat.lt_or_ge i ys.length with q | q
  · rw [Nat.mod_eq_of_lt (by omega)]
    simp [List.getElem?_append_left q]
  · obtain rfl : i = ys.length := by omega
    rw [Nat.mod_self]
    simp
theorem nodup_inj {l : List Pt} (h : l.Nodup) {i j : Nat} (hi : i < l.length) (hj : j < l.length) (e : l[i] = l[j]) : i = j := by
  have := List.pairwise_iff_getElem.1 h
  rcases Nat.lt_trichotomy i j with q | q | q
  · exact absurd e (this i j hi hj q)
  · exact q
  · exact absurd e.symm (this j i hj hi q)
theorem stl_rot {x : Pt} {ys : List Pt} (hu : (x :: ys).Nodup) : stl (x :: ys) = stl (ys ++ [x]) := by
  obtain ⟨n, hn⟩ : ∃ n, n = ys.length + 1 := ⟨_, rfl⟩
  obtain ⟨l, hl⟩ : ∃ l, l = x :: ys := ⟨_, rfl⟩
  obtain ⟨l', hl'⟩ : ∃ l', l' = ys ++ [x] := ⟨_, rfl⟩
  have n1 : l.length = n := by rw [hl, hn]; rfl
  have n2 : l'.length = n := by rw [hl', hn]; simp
  have hp : ∀ i, i < n → l'.getD i (0, 0) = l.getD ((i + 1) % n) (0, 0) := fun i hi => by rw [hl, hl', hn]; exact getD_rot (by omega)
  have hpx : ∀ i, i < n → px l' i = px l ((i + 1) % n) := fun i hi => by unfold px; rw [hp i hi]
  have hpz : ∀ i, i < n → pz l' i = pz l ((i + 1) % n) := fun i hi => by unfold pz; rw [hp i hi]
  rw [← hl, ← hl']
  rw [← hl] at hu
  obtain ⟨a1, _, a3⟩ := fst_least l n
  obtain ⟨b1, _, b3⟩ := fst_least l' n
  have a3 := a3 (by omega); have b3 := b3 (by omega)
  have hg : (fst l' n + 1) % n < n := Nat.mod_lt _ (by omega)
  have back : ∀ j, j < n → ∃ k, k < n ∧ (k + 1) % n = j := fun j hj => by
    rcases Nat.eq_zero_or_pos j with e | e
    · exact ⟨n - 1, by omega, by rw [show n - 1 + 1 = n by omega, Nat.mod_self, e]⟩
    · exact ⟨j - 1, by omega, by rw [show j - 1 + 1 = j by omega, Nat.mod_eq_of_lt hj]⟩
  have hf : (fst l' n + 1) % n = fst l n := by
    have h1 := a1 _ hg
    obtain ⟨k, hk, ek⟩ := back _ a3
    have h2 := b1 k hk
    unfold Lx at h1 h2
    rw [hpx k hk, hpz k hk, hpx _ b3, hpz _ b3, ek] at h2
    have e1 : px l ((fst l' n + 1) % n) = px l (fst l n) := by omega
    have e2 : pz l ((fst l' n + 1) % n) = pz l (fst l n) := by omega
    have e3 : l.getD ((fst l' n + 1) % n) (0, 0) = l.getD (fst l n) (0, 0) := Prod.ext e1 e2
    have eg : ∀ i (hi : i < l.length), l.getD i (0, 0) = l[i] := fun i hi => by simp [hi]
    rw [eg _ (by omega), eg _ (by omega)] at e3
    exact nodup_inj hu _ _ e3
  have hmz : mnz l' n = mnz l n := by
    have e1 := mnz_fst l (n - 1); have e2 := mnz_fst l' (n - 1)
    rw [show n - 1 + 1 = n by omega] at e1 e2
    rw [e1, e2, hpz _ b3, hf]
  have hmx : mnx l' n = mnx l n := by
    obtain ⟨c1, c2, c3⟩ := mnx_le l n
    obtain ⟨d1, d2, d3⟩ := mnx_le l' n
    have h1 : mnx l n ≤ mnx l' n := by
      rcases d3 with e | ⟨j, hj, e⟩
      · rw [e, hpx 0 (by omega)]; exact c2 _ (Nat.mod_lt _ (by omega))
      · rw [e, hpx j hj]; exact c2 _ (Nat.mod_lt _ (by omega))
    have h2 : ∀ j, j < n → mnx l' n ≤ px l j := fun j hj => by
      obtain ⟨k, hk, ek⟩ := back j hj
      have := d2 k hk
      rw [hpx k hk, ek] at this
      exact this
    rcases c3 with e | ⟨j, hj, e⟩
    · have := h2 0 (by omega); omega
    · have := h2 j hj; omega
  unfold stl
  rw [n1, n2]
  refine List.map_congr_left fun i _ => ?_
  unfold stp
  rw [n1, n2, hmz, hmx, hpx _ (Nat.mod_lt _ (by omega)), hpz _ (Nat.mod_lt _ (by omega))]
  have e : ((fst l' n + i) % n + 1) % n = (fst l n + i) % n := by
    rw [← hf, Nat.mod_add_mod, Nat.mod_add_mod, show fst l' n + i + 1 = fst l' n + 1 + i by omega]
  rw [e]
/-- the pieces of a cut -/
theorem stl_left {l : List Pt} {p q : Pt} (ht : Tr l) (h3 : 3 ≤ l.length) (hp : IsP l p.1 p.2) (hq : IsP l q.1 q.2) (hc : CanC l p.1 p.2 q.1 q.2) :
    stl (leftR l p q) = stl (partL l q p) ∧ (leftR l p q).length = (partL l q p).length := by
  obtain ⟨ys, h1, h2⟩ := leftR_eq ht h3 hp hq hc
  have hu := leftR_nodup ht h3 hp hq hc
  rw [h1] at hu
  rw [h1, h2]
  exact ⟨stl_rot hu, by simp⟩
/-- on an edge, its end included -/
theorem isP_iff {l : List Pt} (ht : Tr l) (h3 : 3 ≤ l.length) (x z : Int) : IsP l x z ↔ ∃ i, i < l.length ∧ oe x z (px l i) (pz l i) (px l (nx l.length i)) (pz l (nx l.length i)) = true := by
  constructor
  · rintro ⟨i, hi, h⟩
    unfold hit at h
    rw [Bool.and_eq_true] at h
    exact ⟨i, hi, h.2⟩
  · rintro ⟨i, hi, h⟩
    have h' := oe_iff.1 h
    rw [← pc_lt hi, ← pc_nx] at h'
    by_cases he : (x, z) = pc l (i + 1)
    · have hj : (i + 1) % l.length < l.length := Nat.mod_lt _ (by omega)
      refine ⟨(i + 1) % l.length, hj, (hit_iff (p := (x, z)) hj).2 ?_⟩
      have e1 : pc l ((i + 1) % l.length) = pc l (i + 1) := pc_mod l (i + 1)
      have e2 : pc l ((i + 1) % l.length + 1) = pc l (i + 1 + 1) := by unfold pc; rw [Nat.mod_add_mod]
      rw [e1, e2, he]
      exact ⟨ht.inj h3 (by omega) (by omega), ⟨by unfold Bt; omega, by unfold Bt; omega, D3_same1 _ _⟩⟩
    · exact ⟨i, hi, (hit_iff (p := (x, z)) hi).2 ⟨he, h'⟩⟩
end Go.Proofs.Ytljmhejljpfaiaa
