import Derived.Test.YtljmhejljpfaiaaW
namespace Go.Proofs.Ytljmhejljpfaiaa
set_option maxRecDepth 100000
open Go.RowKit Go.Shelf

/-! the points of a border -/
theorem seg_bd {a d s : Int} {n k : Nat} (h : (n : Int) * s = d) (hk : k ≤ n) (ha : 0 ≤ a ∧ a ≤ 2000) (hd : 0 ≤ a + d ∧ a + d ≤ 2000) : (0 ≤ a + k * s ∧ a + k * s ≤ 2000) ∧ (-2000 ≤ k * s ∧ k * s ≤ 2000) := by
  rcases Int.le_total 0 s with hs | hs
  · have h1 : (0 : Int) ≤ k * s := Int.mul_nonneg (by omega) hs
    have h2 : (k : Int) * s ≤ n * s := Int.mul_le_mul_of_nonneg_right (by omega) hs
    omega
  · have h1 : (k : Int) * s ≤ 0 := Int.mul_nonpos_of_nonneg_of_nonpos (by omega) hs
    have h2 : (n : Int) * s ≤ k * s := Int.mul_le_mul_of_nonpos_right (by omega) hs
    omega
/-- edge i: its number of steps, one of them, its points -/
def snE (l : List Pt) (i : Nat) : Nat := sn (px l i) (pz l i) (px l (nx l.length i)) (pz l (nx l.length i))
def sxE (l : List Pt) (i : Nat) : Int := (px l (nx l.length i) - px l i).tdiv (snE l i : Nat)
def szE (l : List Pt) (i : Nat) : Int := (pz l (nx l.length i) - pz l i).tdiv (snE l i : Nat)
theorem sxE_mul (l : List Pt) (i : Nat) : (snE l i : Int) * sxE l i = px l (nx l.length i) - px l i := by
  unfold sxE
  refine Int.mul_tdiv_cancel' (Int.ofNat_dvd_left.2 ?_)
  exact Nat.gcd_dvd_left _ _
theorem szE_mul (l : List Pt) (i : Nat) : (snE l i : Int) * szE l i = pz l (nx l.length i) - pz l i := by
  unfold szE
  refine Int.mul_tdiv_cancel' (Int.ofNat_dvd_left.2 ?_)
  exact Nat.gcd_dvd_right _ _
def ept (l : List Pt) (i k : Nat) : Pt := (px l i + k * sxE l i, pz l i + k * szE l i)
def eps (l : List Pt) (i : Nat) (k : Nat) : List Pt := (List.range k).map (ept l i)
theorem eps_succ (l : List Pt) (i k : Nat) : eps l i (k + 1) = eps l i k ++ [ept l i k] := by unfold eps; rw [List.range_succ, List.map_append]; rfl
/-- the points of the border, from the first corner on -/
def bpE (l : List Pt) (pre : List (Fin l.length)) : List Pt := pre.flatMap fun i => eps l i.1 (snE l i.1)
def bp (l : List Pt) : List Pt := bpE l (List.finRange l.length)
theorem bpE_snoc (l : List Pt) (pre : List (Fin l.length)) (x : Fin l.length) : bpE l (pre ++ [x]) = bpE l pre ++ eps l x.1 (snE l x.1) := by simp [bpE]
/-- a point whose numbers are in the bounds -/
abbrev Pq := { p : Pt // (0 ≤ p.1 ∧ p.1 ≤ 2000) ∧ (0 ≤ p.2 ∧ p.2 ≤ 2000) }
def vals (c : List Pq) : List Pt := c.map (·.1)
theorem vals_snoc (c : List Pq) (x : Pq) : vals (c ++ [x]) = vals c ++ [x.1] := by simp [vals]
def enc1 (p : Pq) : Array Value := #[.agg #[.int .i64 p.1.1, .int .i64 p.1.2]]
theorem sn_le {x1 z1 x2 z2 : Int} (b1 : 0 ≤ x1 ∧ x1 ≤ 2000) (b2 : 0 ≤ z1 ∧ z1 ≤ 2000) (b3 : 0 ≤ x2 ∧ x2 ≤ 2000) (b4 : 0 ≤ z2 ∧ z2 ≤ 2000) : sn x1 z1 x2 z2 ≤ 2000 := by
  unfold sn
  rcases Nat.eq_zero_or_pos (x2 - x1).natAbs with e | e
  · rw [e, Nat.gcd_zero_left]; omega
  · have := Nat.gcd_le_left (z2 - z1).natAbs e; omega
/-- a box that is not the caller's -/
structure Nc (Bs : List Nat) (T : Nat) (W : World) : Prop where
  b : T ∉ Bs
  o : ¬ ow Bs W T
theorem Nc.ko {B : Nat} {Bs : List Nat} {T : Nat} {W W' : World} (h : Nc Bs T W) (k : KO B Bs W W') (hl : T < W.heap.size) : Nc Bs T W' := ⟨h.b, k.own _ hl h.o⟩
theorem Nc.new {Bs : List Nat} {W : World} (hs : Sane Bs W) (q : Obj) : Nc Bs W.heap.size (W.alloc q) := by
  refine ⟨fun h => Nat.lt_irrefl _ (hs _ h).1, ?_⟩
  rintro ⟨⟨b, n, c, hb, hc⟩, _⟩
  have e : (W.alloc q).cell? ⟨b, 0, none⟩ = W.cell? ⟨b, 0, none⟩ := (bl1 W q).cell (p := ⟨b, 0, none⟩) (hs b hb).1
  rw [e] at hc
  exact Nat.lt_irrefl _ ((hs b hb).2 _ _ _ hc)
theorem Nc.below {Bs : List Nat} {T : Nat} {W W' : World} (h : Nc Bs T W) (hs : Sane Bs W) (k : Below W.heap.size W W') (hl : T < W.heap.size) : Nc Bs T W' := h.ko (KO.of_below (B := 0) k hs) hl
theorem Nc.putObj {Bs : List Nat} {T l : Nat} {W : World} {o : Obj} (o' : Obj) (hl : W.heap[l]? = some o) (_ho : o.isCells = false) (ho' : o'.isCells = false) (h : Nc Bs T W) : Nc Bs T (W.putObj l o') := by
  refine ⟨h.b, ?_⟩
  rintro ⟨⟨b, n, c, hb, hc⟩, cur, U, u, hu⟩
  have hlt := (Array.getElem?_eq_some_iff.1 hl).1
  have e1 : b ≠ l := by
    rintro rfl
    obtain ⟨_, _, _, h3⟩ := cell_blk hc
    rw [World.putObj_heap_same hlt] at h3
    cases h3; cases ho'
  have e2 : T ≠ l := by
    rintro rfl
    rw [World.putObj_heap_same hlt] at hu
    cases hu; cases ho'
  exact h.o ⟨⟨b, n, c, hb, (cell_same (a := ⟨b, 0, none⟩) (World.putObj_heap_other e1)).symm.trans hc⟩, cur, U, u, (World.putObj_heap_other e2).symm.trans hu⟩
theorem P2.ko {B : Nat} {Bs : List Nat} {T : Nat} {x z : Int} {W W' : World} (h : P2 T x z W) (n : Nc Bs T W) (k : KO B Bs W W') : P2 T x z W' := k.cells T _ _ _ n.b n.o h
theorem P2.lt {T : Nat} {x z : Int} {W : World} (h : P2 T x z W) : T < W.heap.size := (Array.getElem?_eq_some_iff.1 h).1
theorem P2.below {T : Nat} {x z : Int} {W W' : World} (h : P2 T x z W) (hb : Below W.heap.size W W') : P2 T x z W' := (hb.block T h.lt).trans h
end Go.Proofs.Ytljmhejljpfaiaa
