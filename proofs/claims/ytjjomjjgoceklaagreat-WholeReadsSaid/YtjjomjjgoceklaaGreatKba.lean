import Derived.Test.YtjjomjjgoceklaaGreatKaj
namespace Go.Proofs.YtjjomjjgoceklaaGreat
set_option maxRecDepth 100000
open Go.RowKit

def B5 (B : Nat) (s : Bool) (x : Int) (p : Option Addr) (y : Int) (q : Option Addr) (w : World) : Prop :=
  w.cell? ⟨B, 0, none⟩ = some (.bool s) ∧ w.cell? ⟨B, 1, none⟩ = some (.int .u64 x) ∧ w.cell? ⟨B, 2, none⟩ = some (.pointer p) ∧ w.cell? ⟨B, 3, none⟩ = some (.int .u64 y) ∧ w.cell? ⟨B, 4, none⟩ = some (.pointer q)
theorem B5.keep {B C : Nat} {s : Bool} {x : Int} {p : Option Addr} {y : Int} {q : Option Addr} {w w' : World} (h : B5 B s x p y q w) (hb : Below C w w') (hB : B < C) : B5 B s x p y q w' :=
  ⟨(hb.cell (p := ⟨B, 0, none⟩) hB).trans h.1, (hb.cell (p := ⟨B, 1, none⟩) hB).trans h.2.1, (hb.cell (p := ⟨B, 2, none⟩) hB).trans h.2.2.1, (hb.cell (p := ⟨B, 3, none⟩) hB).trans h.2.2.2.1, (hb.cell (p := ⟨B, 4, none⟩) hB).trans h.2.2.2.2⟩
@[reducible] def C10 (B : Nat) (sa : Bool) (xa : Int) (pa : Option Addr) (ya : Int) (qa : Option Addr) (sb : Bool) (xb : Int) (pb : Option Addr) (yb : Int) (qb : Option Addr) (w' : World) : Prop :=
  w'.cell? ⟨B, 0, none⟩ = some (.bool sa) ∧ w'.cell? ⟨B, 1, none⟩ = some (.int .u64 xa) ∧ w'.cell? ⟨B, 2, none⟩ = some (.pointer pa) ∧ w'.cell? ⟨B, 3, none⟩ = some (.int .u64 ya) ∧ w'.cell? ⟨B, 4, none⟩ = some (.pointer qa) ∧
  w'.cell? ⟨B + 1, 0, none⟩ = some (.bool sb) ∧ w'.cell? ⟨B + 1, 1, none⟩ = some (.int .u64 xb) ∧ w'.cell? ⟨B + 1, 2, none⟩ = some (.pointer pb) ∧ w'.cell? ⟨B + 1, 3, none⟩ = some (.int .u64 yb) ∧ w'.cell? ⟨B + 1, 4, none⟩ = some (.pointer qb)
theorem C10.mk {B : Nat} {sa : Bool} {xa : Int} {pa : Option Addr} {ya : Int} {qa : Option Addr} {sb : Bool} {xb : Int} {pb : Option Addr} {yb : Int} {qb : Option Addr} {w' : World} (a : B5 B sa xa pa ya qa w') (b : B5 (B + 1) sb xb pb yb qb w') : C10 B sa xa pa ya qa sb xb pb yb qb w' :=
  ⟨a.1, a.2.1, a.2.2.1, a.2.2.2.1, a.2.2.2.2, b.1, b.2.1, b.2.2.1, b.2.2.2.1, b.2.2.2.2⟩
theorem Rr.pos {w : World} {v : Value} {n : Int} {d : Nat} (h : Rr w v n d) : 0 < d := by
  obtain ⟨s, x, p, y, q, _, _, _, h, _⟩ := h
  exact h
/-- where the numbers are divided and compared: all below L -/
def Num (L : Nat) : Prop := (∀ x y, x < L → y < L → CommonC x y) ∧ (∀ x y, x < L → 0 < y → y < L → OverC x y)
theorem Num.small : Num WB := ⟨fun x y hx hy => common_small x y hx hy, fun x y hx h0 hy => over_small x y hx hy (by omega)⟩
theorem C10.lt {B : Nat} {sa : Bool} {xa : Int} {pa : Option Addr} {ya : Int} {qa : Option Addr} {sb : Bool} {xb : Int} {pb : Option Addr} {yb : Int} {qb : Option Addr} {w : World} (h : C10 B sa xa pa ya qa sb xb pb yb qb w) : B + 1 < w.heap.size :=
  World.block_lt_of_cell? w _ h.2.2.2.2.2.1
theorem C10.kp {B : Nat} {sa : Bool} {xa : Int} {pa : Option Addr} {ya : Int} {qa : Option Addr} {sb : Bool} {xb : Int} {pb : Option Addr} {yb : Int} {qb : Option Addr} {w w' : World} (h : C10 B sa xa pa ya qa sb xb pb yb qb w) {C : Nat} (hb : Below C w w') (hC : B + 1 < C) : C10 B sa xa pa ya qa sb xb pb yb qb w' := by
  obtain ⟨h1, h2, h3, h4, h5, h6, h7, h8, h9, h10⟩ := h
  have e : ∀ o, w'.cell? ⟨B, o, none⟩ = w.cell? ⟨B, o, none⟩ := fun o => hb.cell (p := ⟨B, o, none⟩) (show B < C by omega)
  have e' : ∀ o, w'.cell? ⟨B + 1, o, none⟩ = w.cell? ⟨B + 1, o, none⟩ := fun o => hb.cell (p := ⟨B + 1, o, none⟩) hC
  exact ⟨(e _).trans h1, (e _).trans h2, (e _).trans h3, (e _).trans h4, (e _).trans h5, (e' _).trans h6, (e' _).trans h7, (e' _).trans h8, (e' _).trans h9, (e' _).trans h10⟩
theorem C10.al {B : Nat} {sa : Bool} {xa : Int} {pa : Option Addr} {ya : Int} {qa : Option Addr} {sb : Bool} {xb : Int} {pb : Option Addr} {yb : Int} {qb : Option Addr} {w : World} (h : C10 B sa xa pa ya qa sb xb pb yb qb w) (o : Obj) : C10 B sa xa pa ya qa sb xb pb yb qb (w.alloc o) := h.kp (bl1 w o) h.lt
theorem C10.dr {B : Nat} {sa : Bool} {xa : Int} {pa : Option Addr} {ya : Int} {qa : Option Addr} {sb : Bool} {xb : Int} {pb : Option Addr} {yb : Int} {qb : Option Addr} {w : World} (h : C10 B sa xa pa ya qa sb xb pb yb qb w) : C10 B sa xa pa ya qa sb xb pb yb qb w.drew := h
theorem Dg.al {w : World} {v : Value} {n : Nat} (h : Dg w v n) (o : Obj) : Dg (w.alloc o) v n := h.keep (bl1 w o) (Nat.le_refl _)
theorem Dg.dr {w : World} {v : Value} {n : Nat} (h : Dg w v n) : Dg w.drew v n := h.keep (B := w.heap.size) (Below.refl _ _).drew (Nat.le_refl _)
theorem Dg.sc2 {w : World} {v : Value} {n : Nat} (h : Dg w v n) {P : Nat} (hP : Rs P w) (a b : Value) : Dg ((w.setCell ⟨P, 0, none⟩ a).setCell ⟨P, 1, none⟩ b) v n := h.store hP.odd (grown2 _ _ _ _ _ _)
theorem Rq.dr {w : World} {T : Nat} (h : Rq T w) : Rq T w.drew := h
theorem Rq.sc2 {w : World} {T P : Nat} (h : Rq T w) (hne : T ≠ P) (a b : Value) : Rq T ((w.setCell ⟨P, 0, none⟩ a).setCell ⟨P, 1, none⟩ b) := by
  have hg : w.grownBy ((w.setCell ⟨P, 0, none⟩ a).setCell ⟨P, 1, none⟩ b) (some P) := grown2 _ _ _ _ _ _
  obtain ⟨s, x, p, y, q, h⟩ := h
  exact ⟨s, x, p, y, q, (hg.block T (Array.getElem?_eq_some_iff.1 h).1 (by intro e; cases e; exact hne rfl)).trans h⟩
theorem Rs.dr {w : World} {T : Nat} (h : Rs T w) : Rs T w.drew := h
theorem Rs.sc2 {w : World} {T P : Nat} (h : Rs T w) (hne : T ≠ P) (a b : Value) : Rs T ((w.setCell ⟨P, 0, none⟩ a).setCell ⟨P, 1, none⟩ b) :=
  Rs.other h (grown2 _ _ _ _ _ _) hne
theorem C10.sc2 {B : Nat} {sa : Bool} {xa : Int} {pa : Option Addr} {ya : Int} {qa : Option Addr} {sb : Bool} {xb : Int} {pb : Option Addr} {yb : Int} {qb : Option Addr} {w : World} (h : C10 B sa xa pa ya qa sb xb pb yb qb w) {P : Nat} (h1 : B ≠ P) (h2 : B + 1 ≠ P) (u v : Value) : C10 B sa xa pa ya qa sb xb pb yb qb ((w.setCell ⟨P, 0, none⟩ u).setCell ⟨P, 1, none⟩ v) := by
  obtain ⟨g1, g2, g3, g4, g5, g6, g7, g8, g9, g10⟩ := h
  have e : ∀ o, (st2 w P u v).cell? ⟨B, o, none⟩ = w.cell? ⟨B, o, none⟩ := fun o => cell_st2 w h1 o u v
  have e' : ∀ o, (st2 w P u v).cell? ⟨B + 1, o, none⟩ = w.cell? ⟨B + 1, o, none⟩ := fun o => cell_st2 w h2 o u v
  exact ⟨(e _).trans g1, (e _).trans g2, (e _).trans g3, (e _).trans g4, (e _).trans g5, (e' _).trans g6, (e' _).trans g7, (e' _).trans g8, (e' _).trans g9, (e' _).trans g10⟩
def AddR1 (w : World) (sa : Bool) (xa : Int) (pa : Option Addr) (ya : Int) (qa : Option Addr) (sb : Bool) (xb : Int) (pb : Option Addr) (yb : Int) (qb : Option Addr) (p q : Nat) (s5 s6 : Value) (wx : World) : Prop :=
  ∃ (P Q : Nat) (xp : Int) (pp : Option Addr) (xq : Int) (pq : Option Addr), s5 = .pointer (some ⟨P, 0, none⟩) ∧ s6 = .pointer (some ⟨Q, 0, none⟩) ∧ Bd P (.int .u64 xp) (.pointer pp) wx ∧ Bd Q (.int .u64 xq) (.pointer pq) wx ∧ w.heap.size + 3 ≤ P ∧ w.heap.size + 3 ≤ Q ∧ P ≠ Q ∧
    C10 w.heap.size sa xa pa ya qa sb xb pb yb qb wx ∧ Rq (w.heap.size + 1 + 1) wx ∧ Below w.heap.size w wx ∧ Dg wx (.agg #[.int .u64 xp, .pointer pp]) p ∧ Dg wx (.agg #[.int .u64 xq, .pointer pq]) q
theorem Bd.al {B : Nat} {x y : Value} {w : World} (h : Bd B x y w) (o : Obj) : Bd B x y (w.alloc o) := h.keep (bl1 w o) (World.block_lt_of_cell? w _ h.1)
theorem bd_new (w : World) (x y : Value) (t : TypeId) : Bd w.heap.size x y (w.alloc (.cells #[x, y] t)) := by
  have hb := Go.Deep.blk_alloc_new w (.cells #[x, y] t)
  constructor
  · unfold World.cell?; dsimp only; rw [hb]; rfl
  · unfold World.cell?; dsimp only; rw [hb]; rfl
theorem Bd.other {B P : Nat} {x y : Value} {w : World} (h : Bd B x y w) (hne : B ≠ P) (u v : Value) : Bd B x y (st2 w P u v) := ⟨(cell_st2 w hne _ _ _).trans h.1, (cell_st2 w hne _ _ _).trans h.2⟩
theorem bd_set {P : Nat} {w : World} (h : Rs P w) (u v : Value) : Bd P u v (st2 w P u v) := by
  obtain ⟨_, _, m1, m2, _, _⟩ := h.cells
  obtain ⟨n1, n2⟩ := two_cells m1 m2 u v
  exact ⟨n1, n2⟩
theorem Rs.lt {P : Nat} {w : World} (h : Rs P w) : P < w.heap.size := by
  obtain ⟨_, _, h⟩ := h
  exact (Array.getElem?_eq_some_iff.1 h).1
section
variable {w w2 : World} {sa : Bool} {xa : Int} {pa : Option Addr} {ya : Int} {qa : Option Addr} {sb : Bool} {xb : Int} {pb : Option Addr} {yb : Int} {qb : Option Addr} {p q : Nat} {xp : Int} {pp : Option Addr} {xq : Int} {pq : Option Addr}
theorem meet_aa (c : C10 w.heap.size sa xa pa ya qa sb xb pb yb qb w2) (t : Rq (w.heap.size + 1 + 1) w2) (k : Below w.heap.size w w2) (z : w.heap.size + 3 ≤ w2.heap.size) (h1 : Dg w2 (.agg #[.int .u64 xp, .pointer pp]) p) (h2 : Dg w2 (.agg #[.int .u64 xq, .pointer pq]) q) :
    AddR1 w sa xa pa ya qa sb xb pb yb qb p q (.pointer (some ⟨w2.heap.size, 0, none⟩)) (.pointer (some ⟨w2.heap.size + 1, 0, none⟩)) ((w2.alloc (.cells #[.int .u64 xp, .pointer pp] 26)).alloc (.cells #[.int .u64 xq, .pointer pq] 26)) := by
  refine ⟨_, _, xp, pp, xq, pq, rfl, rfl, (bd_new _ _ _ _).al _, ?_, z, by omega, by omega, (c.al _).al _, (t.alloc _).alloc _, Below.thru k k.size (bl2 _ _ _), (h1.al _).al _, (h2.al _).al _⟩
  have := bd_new (w2.alloc (.cells #[.int .u64 xp, .pointer pp] 26)) (.int .u64 xq) (.pointer pq) 26
  rw [World.size_alloc] at this
  exact this
theorem meet_aa' (c : C10 w.heap.size sa xa pa ya qa sb xb pb yb qb w2) (t : Rq (w.heap.size + 1 + 1) w2) (k : Below w.heap.size w w2) (z : w.heap.size + 3 ≤ w2.heap.size) (h1 : Dg w2 (.agg #[.int .u64 xp, .pointer pp]) p) (h2 : Dg w2 (.agg #[.int .u64 xq, .pointer pq]) q) :
    AddR1 w sa xa pa ya qa sb xb pb yb qb p q (.pointer (some ⟨w2.heap.size + 1, 0, none⟩)) (.pointer (some ⟨w2.heap.size, 0, none⟩)) ((w2.alloc (.cells #[.int .u64 xq, .pointer pq] 26)).alloc (.cells #[.int .u64 xp, .pointer pp] 26)) := by
  refine ⟨_, _, xp, pp, xq, pq, rfl, rfl, ?_, (bd_new _ _ _ _).al _, by omega, z, by omega, (c.al _).al _, (t.alloc _).alloc _, Below.thru k k.size (bl2 _ _ _), (h1.al _).al _, (h2.al _).al _⟩
  have := bd_new (w2.alloc (.cells #[.int .u64 xq, .pointer pq] 26)) (.int .u64 xp) (.pointer pp) 26
  rw [World.size_alloc] at this
  exact this
theorem meet_sa (c : C10 w.heap.size sa xa pa ya qa sb xb pb yb qb w2) (t : Rq (w.heap.size + 1 + 1) w2) (k : Below w.heap.size w w2) (z : w.heap.size + 3 ≤ w2.heap.size) (h1 : Dg w2 (.agg #[.int .u64 xp, .pointer pp]) p) (h2 : Dg w2 (.agg #[.int .u64 xq, .pointer pq]) q) {P : Nat} (hP : Rs P w2) (hl : w.heap.size + 3 ≤ P) :
    AddR1 w sa xa pa ya qa sb xb pb yb qb p q (.pointer (some ⟨P, 0, none⟩)) (.pointer (some ⟨w2.heap.size, 0, none⟩)) ((st2 w2 P (.int .u64 xp) (.pointer pp)).alloc (.cells #[.int .u64 xq, .pointer pq] 26)) := by
  have hlt := hP.lt
  have hsz : (st2 w2 P (.int .u64 xp) (.pointer pp)).heap.size = w2.heap.size := by simp [World.setCell]
  refine ⟨_, _, xp, pp, xq, pq, rfl, rfl, (bd_set hP _ _).al _, ?_, hl, z, by omega, (c.sc2 (by omega) (by omega) _ _).al _, (t.sc2 (by omega) _ _).alloc _, Below.thru (below2 k (by omega) _ _) (by rw [hsz]; omega) (bl1 _ _), (h1.sc2 hP _ _).al _, (h2.sc2 hP _ _).al _⟩
  have := bd_new (st2 w2 P (.int .u64 xp) (.pointer pp)) (.int .u64 xq) (.pointer pq) 26
  rw [hsz] at this
  exact this
theorem meet_as (c : C10 w.heap.size sa xa pa ya qa sb xb pb yb qb w2) (t : Rq (w.heap.size + 1 + 1) w2) (k : Below w.heap.size w w2) (z : w.heap.size + 3 ≤ w2.heap.size) (h1 : Dg w2 (.agg #[.int .u64 xp, .pointer pp]) p) (h2 : Dg w2 (.agg #[.int .u64 xq, .pointer pq]) q) {Q : Nat} (hQ : Rs Q w2) (hl : w.heap.size + 3 ≤ Q) :
    AddR1 w sa xa pa ya qa sb xb pb yb qb p q (.pointer (some ⟨w2.heap.size, 0, none⟩)) (.pointer (some ⟨Q, 0, none⟩)) ((st2 w2 Q (.int .u64 xq) (.pointer pq)).alloc (.cells #[.int .u64 xp, .pointer pp] 26)) := by
  have hlt := hQ.lt
  have hsz : (st2 w2 Q (.int .u64 xq) (.pointer pq)).heap.size = w2.heap.size := by simp [World.setCell]
  refine ⟨_, _, xp, pp, xq, pq, rfl, rfl, ?_, (bd_set hQ _ _).al _, z, hl, by omega, (c.sc2 (by omega) (by omega) _ _).al _, (t.sc2 (by omega) _ _).alloc _, Below.thru (below2 k (by omega) _ _) (by rw [hsz]; omega) (bl1 _ _), (h1.sc2 hQ _ _).al _, (h2.sc2 hQ _ _).al _⟩
  have := bd_new (st2 w2 Q (.int .u64 xq) (.pointer pq)) (.int .u64 xp) (.pointer pp) 26
  rw [hsz] at this
  exact this
theorem meet_ss (c : C10 w.heap.size sa xa pa ya qa sb xb pb yb qb w2) (t : Rq (w.heap.size + 1 + 1) w2) (k : Below w.heap.size w w2) (h1 : Dg w2 (.agg #[.int .u64 xp, .pointer pp]) p) (h2 : Dg w2 (.agg #[.int .u64 xq, .pointer pq]) q) {P Q : Nat} (hP : Rs P w2) (hQ : Rs Q w2) (hl : w.heap.size + 3 ≤ P) (hl' : w.heap.size + 3 ≤ Q) (hne : P ≠ Q) :
    AddR1 w sa xa pa ya qa sb xb pb yb qb p q (.pointer (some ⟨P, 0, none⟩)) (.pointer (some ⟨Q, 0, none⟩)) (st2 (st2 w2 P (.int .u64 xp) (.pointer pp)) Q (.int .u64 xq) (.pointer pq)) := by
  have hQ' : Rs Q (st2 w2 P (.int .u64 xp) (.pointer pp)) := hQ.sc2 (Ne.symm hne) _ _
  exact ⟨_, _, xp, pp, xq, pq, rfl, rfl, (bd_set hP _ _).other hne _ _, bd_set hQ' _ _, hl, hl', hne, (c.sc2 (by omega) (by omega) _ _).sc2 (by omega) (by omega) _ _, (t.sc2 (by omega) _ _).sc2 (by omega) _ _, below2 (below2 k (by omega) _ _) (by omega) _ _, (h1.sc2 hP _ _).sc2 hQ' _ _, (h2.sc2 hP _ _).sc2 hQ' _ _⟩
end
/-- two new boxes of digits, in slots s and s', and all that lay in W as it lay -/
def Two (W : World) (a b : Nat) (s s' : Value) (wx : World) : Prop :=
  ∃ (P Q : Nat) (xp : Int) (pp : Option Addr) (xq : Int) (pq : Option Addr), s = .pointer (some ⟨P, 0, none⟩) ∧ s' = .pointer (some ⟨Q, 0, none⟩) ∧ Bd P (.int .u64 xp) (.pointer pp) wx ∧ Bd Q (.int .u64 xq) (.pointer pq) wx ∧ W.heap.size ≤ P ∧ W.heap.size ≤ Q ∧ P ≠ Q ∧
    Below W.heap.size W wx ∧ Dg wx (.agg #[.int .u64 xp, .pointer pp]) a ∧ Dg wx (.agg #[.int .u64 xq, .pointer pq]) b
section
variable {W w2 : World} {a b : Nat} {xp : Int} {pp : Option Addr} {xq : Int} {pq : Option Addr}
theorem two_aa (k : Below W.heap.size W w2) (h1 : Dg w2 (.agg #[.int .u64 xp, .pointer pp]) a) (h2 : Dg w2 (.agg #[.int .u64 xq, .pointer pq]) b) :
    Two W a b (.pointer (some ⟨w2.heap.size, 0, none⟩)) (.pointer (some ⟨w2.heap.size + 1, 0, none⟩)) ((w2.alloc (.cells #[.int .u64 xp, .pointer pp] 26)).alloc (.cells #[.int .u64 xq, .pointer pq] 26)) := by
  have z := k.size
  refine ⟨_, _, xp, pp, xq, pq, rfl, rfl, (bd_new _ _ _ _).al _, ?_, z, by omega, by omega, Below.thru k k.size (bl2 _ _ _), (h1.al _).al _, (h2.al _).al _⟩
  have := bd_new (w2.alloc (.cells #[.int .u64 xp, .pointer pp] 26)) (.int .u64 xq) (.pointer pq) 26
  rw [World.size_alloc] at this
  exact this
theorem two_aa' (k : Below W.heap.size W w2) (h1 : Dg w2 (.agg #[.int .u64 xp, .pointer pp]) a) (h2 : Dg w2 (.agg #[.int .u64 xq, .pointer pq]) b) :
    Two W a b (.pointer (some ⟨w2.heap.size + 1, 0, none⟩)) (.pointer (some ⟨w2.heap.size, 0, none⟩)) ((w2.alloc (.cells #[.int .u64 xq, .pointer pq] 26)).alloc (.cells #[.int .u64 xp, .pointer pp] 26)) := by
  have z := k.size
  refine ⟨_, _, xp, pp, xq, pq, rfl, rfl, ?_, (bd_new _ _ _ _).al _, by omega, z, by omega, Below.thru k k.size (bl2 _ _ _), (h1.al _).al _, (h2.al _).al _⟩
  have := bd_new (w2.alloc (.cells #[.int .u64 xq, .pointer pq] 26)) (.int .u64 xp) (.pointer pp) 26
  rw [World.size_alloc] at this
  exact this
theorem two_sa (k : Below W.heap.size W w2) (h1 : Dg w2 (.agg #[.int .u64 xp, .pointer pp]) a) (h2 : Dg w2 (.agg #[.int .u64 xq, .pointer pq]) b) {P : Nat} (hP : Rs P w2) (hl : W.heap.size ≤ P) :
    Two W a b (.pointer (some ⟨P, 0, none⟩)) (.pointer (some ⟨w2.heap.size, 0, none⟩)) ((st2 w2 P (.int .u64 xp) (.pointer pp)).alloc (.cells #[.int .u64 xq, .pointer pq] 26)) := by
  have z := k.size
  have hlt := hP.lt
  have hsz : (st2 w2 P (.int .u64 xp) (.pointer pp)).heap.size = w2.heap.size := by simp [World.setCell]
  refine ⟨_, _, xp, pp, xq, pq, rfl, rfl, (bd_set hP _ _).al _, ?_, hl, z, by omega, Below.thru (below2 k hl _ _) (by rw [hsz]; omega) (bl1 _ _), (h1.sc2 hP _ _).al _, (h2.sc2 hP _ _).al _⟩
  have := bd_new (st2 w2 P (.int .u64 xp) (.pointer pp)) (.int .u64 xq) (.pointer pq) 26
  rw [hsz] at this
  exact this
theorem two_as (k : Below W.heap.size W w2) (h1 : Dg w2 (.agg #[.int .u64 xp, .pointer pp]) a) (h2 : Dg w2 (.agg #[.int .u64 xq, .pointer pq]) b) {Q : Nat} (hQ : Rs Q w2) (hl : W.heap.size ≤ Q) :
    Two W a b (.pointer (some ⟨w2.heap.size, 0, none⟩)) (.pointer (some ⟨Q, 0, none⟩)) ((st2 w2 Q (.int .u64 xq) (.pointer pq)).alloc (.cells #[.int .u64 xp, .pointer pp] 26)) := by
  have z := k.size
  have hlt := hQ.lt
  have hsz : (st2 w2 Q (.int .u64 xq) (.pointer pq)).heap.size = w2.heap.size := by simp [World.setCell]
  refine ⟨_, _, xp, pp, xq, pq, rfl, rfl, ?_, (bd_set hQ _ _).al _, z, hl, by omega, Below.thru (below2 k hl _ _) (by rw [hsz]; omega) (bl1 _ _), (h1.sc2 hQ _ _).al _, (h2.sc2 hQ _ _).al _⟩
  have := bd_new (st2 w2 Q (.int .u64 xq) (.pointer pq)) (.int .u64 xp) (.pointer pp) 26
  rw [hsz] at this
  exact this
theorem two_ss (k : Below W.heap.size W w2) (h1 : Dg w2 (.agg #[.int .u64 xp, .pointer pp]) a) (h2 : Dg w2 (.agg #[.int .u64 xq, .pointer pq]) b) {P Q : Nat} (hP : Rs P w2) (hQ : Rs Q w2) (hl : W.heap.size ≤ P) (hl' : W.heap.size ≤ Q) (hne : P ≠ Q) :
    Two W a b (.pointer (some ⟨P, 0, none⟩)) (.pointer (some ⟨Q, 0, none⟩)) (st2 (st2 w2 P (.int .u64 xp) (.pointer pp)) Q (.int .u64 xq) (.pointer pq)) := by
  have hQ' : Rs Q (st2 w2 P (.int .u64 xp) (.pointer pp)) := hQ.sc2 (Ne.symm hne) _ _
  exact ⟨_, _, xp, pp, xq, pq, rfl, rfl, (bd_set hP _ _).other hne _ _, bd_set hQ' _ _, hl, hl', hne, below2 (below2 k hl _ _) hl' _ _, (h1.sc2 hP _ _).sc2 hQ' _ _, (h2.sc2 hP _ _).sc2 hQ' _ _⟩
end
/-- three boxes of digits -/
@[reducible] def D3 (P G Q : Nat) (xp : Int) (pp : Option Addr) (xg : Int) (pg : Option Addr) (xq : Int) (pq : Option Addr) (w' : World) : Prop :=
  w'.cell? ⟨P, 0, none⟩ = some (.int .u64 xp) ∧ w'.cell? ⟨P, 1, none⟩ = some (.pointer pp) ∧ w'.cell? ⟨G, 0, none⟩ = some (.int .u64 xg) ∧ w'.cell? ⟨G, 1, none⟩ = some (.pointer pg) ∧ w'.cell? ⟨Q, 0, none⟩ = some (.int .u64 xq) ∧ w'.cell? ⟨Q, 1, none⟩ = some (.pointer pq)
theorem D3.mk {P G Q : Nat} {xp : Int} {pp : Option Addr} {xg : Int} {pg : Option Addr} {xq : Int} {pq : Option Addr} {w : World} (p : Bd P (.int .u64 xp) (.pointer pp) w) (g : Bd G (.int .u64 xg) (.pointer pg) w) (q : Bd Q (.int .u64 xq) (.pointer pq) w) : D3 P G Q xp pp xg pg xq pq w := ⟨p.1, p.2, g.1, g.2, q.1, q.2⟩
theorem D3.kp {P G Q : Nat} {xp : Int} {pp : Option Addr} {xg : Int} {pg : Option Addr} {xq : Int} {pq : Option Addr} {w w' : World} (h : D3 P G Q xp pp xg pg xq pq w) (hb : Below w.heap.size w w') : D3 P G Q xp pp xg pg xq pq w' := by
  obtain ⟨h1, h2, h3, h4, h5, h6⟩ := h
  exact ⟨(hb.cell (p := ⟨P, 0, none⟩) (World.block_lt_of_cell? w _ h1)).trans h1, (hb.cell (p := ⟨P, 1, none⟩) (World.block_lt_of_cell? w _ h2)).trans h2, (hb.cell (p := ⟨G, 0, none⟩) (World.block_lt_of_cell? w _ h3)).trans h3, (hb.cell (p := ⟨G, 1, none⟩) (World.block_lt_of_cell? w _ h4)).trans h4, (hb.cell (p := ⟨Q, 0, none⟩) (World.block_lt_of_cell? w _ h5)).trans h5, (hb.cell (p := ⟨Q, 1, none⟩) (World.block_lt_of_cell? w _ h6)).trans h6⟩
theorem D3.al {P G Q : Nat} {xp : Int} {pp : Option Addr} {xg : Int} {pg : Option Addr} {xq : Int} {pq : Option Addr} {w : World} (h : D3 P G Q xp pp xg pg xq pq w) (o : Obj) : D3 P G Q xp pp xg pg xq pq (w.alloc o) := h.kp (bl1 w o)
theorem D3.dr {P G Q : Nat} {xp : Int} {pp : Option Addr} {xg : Int} {pg : Option Addr} {xq : Int} {pq : Option Addr} {w : World} (h : D3 P G Q xp pp xg pg xq pq w) : D3 P G Q xp pp xg pg xq pq w.drew := h
theorem D3.sc2 {P G Q : Nat} {xp : Int} {pp : Option Addr} {xg : Int} {pg : Option Addr} {xq : Int} {pq : Option Addr} {w : World} (h : D3 P G Q xp pp xg pg xq pq w) {T : Nat} (h1 : P ≠ T) (h2 : G ≠ T) (h3 : Q ≠ T) (u v : Value) : D3 P G Q xp pp xg pg xq pq ((w.setCell ⟨T, 0, none⟩ u).setCell ⟨T, 1, none⟩ v) :=
  ⟨(cell_st2 w h1 0 u v).trans h.1, (cell_st2 w h1 1 u v).trans h.2.1, (cell_st2 w h2 0 u v).trans h.2.2.1, (cell_st2 w h2 1 u v).trans h.2.2.2.1, (cell_st2 w h3 0 u v).trans h.2.2.2.2.1, (cell_st2 w h3 1 u v).trans h.2.2.2.2.2⟩
theorem Rz.dr {w : World} {T : Nat} (h : Rz T w) : Rz T w.drew := h
theorem Zr.al {w : World} {v : Value} {z : Int} (h : Zr w v z) (o : Obj) : Zr (w.alloc o) v z := h.keep (bl1 w o) (Nat.le_refl _)
theorem Zr.dr {w : World} {v : Value} {z : Int} (h : Zr w v z) : Zr w.drew v z := h.keep (B := w.heap.size) (Below.refl _ _).drew (Nat.le_refl _)
theorem Rz.lt {P : Nat} {w : World} (h : Rz P w) : P < w.heap.size := by
  obtain ⟨_, _, _, h⟩ := h
  exact (Array.getElem?_eq_some_iff.1 h).1
/-- one new box of an integer, in slot s -/
def OneZ (V : World) (z : Int) (s : Value) (wx : World) : Prop :=
  ∃ (N : Nat) (b : Bool) (x : Int) (p : Option Addr), s = .pointer (some ⟨N, 0, none⟩) ∧ B3 N b x p wx ∧ V.heap.size ≤ N ∧ Below V.heap.size V wx ∧ Zr wx (.agg #[.bool b, .int .u64 x, .pointer p]) z
theorem oneZ_a {V w3 : World} {z : Int} {b : Bool} {x : Int} {p : Option Addr} (k : Below V.heap.size V w3) (h : Zr w3 (.agg #[.bool b, .int .u64 x, .pointer p]) z) : OneZ V z (.pointer (some ⟨w3.heap.size, 0, none⟩)) (w3.alloc (.cells #[.bool b, .int .u64 x, .pointer p] 28)) := by
  have hb := Go.Deep.blk_alloc_new w3 (.cells #[.bool b, .int .u64 x, .pointer p] 28)
  refine ⟨_, b, x, p, rfl, ⟨?_, ?_, ?_⟩, k.size, Below.thru k k.size (bl1 _ _), h.al _⟩
  · unfold World.cell?; dsimp only; rw [hb]; rfl
  · unfold World.cell?; dsimp only; rw [hb]; rfl
  · unfold World.cell?; dsimp only; rw [hb]; rfl
theorem oneZ_s {V w3 : World} {z : Int} {b : Bool} {x : Int} {p : Option Addr} (k : Below V.heap.size V w3) (h : Zr w3 (.agg #[.bool b, .int .u64 x, .pointer p]) z) {N : Nat} (hN : Rz N w3) (hl : V.heap.size ≤ N) : OneZ V z (.pointer (some ⟨N, 0, none⟩)) (st3 w3 N (.bool b) (.int .u64 x) (.pointer p)) := by
  obtain ⟨_, _, _, m1, m2, m3, _⟩ := hN.cells
  obtain ⟨g1, g2, g3⟩ := three_cells m1 m2 m3 (.bool b) (.int .u64 x) (.pointer p)
  exact ⟨_, b, x, p, rfl, ⟨g1, g2, g3⟩, hl, below3 k hl _ _ _, h.store hN.odd (grown3 _ _ _ _ _ _ _ _)⟩
/-- what the region of the numerator loads -/
@[reducible] def E10 (B E F : Nat) (sa : Bool) (xa : Int) (pa : Option Addr) (xe : Int) (pe : Option Addr) (sb : Bool) (xb : Int) (pb : Option Addr) (xf : Int) (pf : Option Addr) (w' : World) : Prop :=
  w'.cell? ⟨B, 0, none⟩ = some (.bool sa) ∧ w'.cell? ⟨B, 1, none⟩ = some (.int .u64 xa) ∧ w'.cell? ⟨B, 2, none⟩ = some (.pointer pa) ∧ w'.cell? ⟨E, 0, none⟩ = some (.int .u64 xe) ∧ w'.cell? ⟨E, 1, none⟩ = some (.pointer pe) ∧
  w'.cell? ⟨B + 1, 0, none⟩ = some (.bool sb) ∧ w'.cell? ⟨B + 1, 1, none⟩ = some (.int .u64 xb) ∧ w'.cell? ⟨B + 1, 2, none⟩ = some (.pointer pb) ∧ w'.cell? ⟨F, 0, none⟩ = some (.int .u64 xf) ∧ w'.cell? ⟨F, 1, none⟩ = some (.pointer pf)
theorem E10.kp {B E F : Nat} {sa : Bool} {xa : Int} {pa : Option Addr} {xe : Int} {pe : Option Addr} {sb : Bool} {xb : Int} {pb : Option Addr} {xf : Int} {pf : Option Addr} {w w' : World} (h : E10 B E F sa xa pa xe pe sb xb pb xf pf w) (hb : Below w.heap.size w w') : E10 B E F sa xa pa xe pe sb xb pb xf pf w' := by
  have key : ∀ (b o : Nat) (v : Value), w.cell? ⟨b, o, none⟩ = some v → w'.cell? ⟨b, o, none⟩ = some v := fun b o v h => (hb.cell (p := ⟨b, o, none⟩) (World.block_lt_of_cell? w _ h)).trans h
  obtain ⟨h1, h2, h3, h4, h5, h6, h7, h8, h9, h10⟩ := h
  exact ⟨key _ _ _ h1, key _ _ _ h2, key _ _ _ h3, key _ _ _ h4, key _ _ _ h5, key _ _ _ h6, key _ _ _ h7, key _ _ _ h8, key _ _ _ h9, key _ _ _ h10⟩
theorem E10.al {B E F : Nat} {sa : Bool} {xa : Int} {pa : Option Addr} {xe : Int} {pe : Option Addr} {sb : Bool} {xb : Int} {pb : Option Addr} {xf : Int} {pf : Option Addr} {w : World} (h : E10 B E F sa xa pa xe pe sb xb pb xf pf w) (o : Obj) : E10 B E F sa xa pa xe pe sb xb pb xf pf (w.alloc o) := h.kp (bl1 w o)
theorem E10.dr {B E F : Nat} {sa : Bool} {xa : Int} {pa : Option Addr} {xe : Int} {pe : Option Addr} {sb : Bool} {xb : Int} {pb : Option Addr} {xf : Int} {pf : Option Addr} {w : World} (h : E10 B E F sa xa pa xe pe sb xb pb xf pf w) : E10 B E F sa xa pa xe pe sb xb pb xf pf w.drew := h
theorem E10.sc3 {B E F : Nat} {sa : Bool} {xa : Int} {pa : Option Addr} {xe : Int} {pe : Option Addr} {sb : Bool} {xb : Int} {pb : Option Addr} {xf : Int} {pf : Option Addr} {w : World} (h : E10 B E F sa xa pa xe pe sb xb pb xf pf w) {T : Nat} (n1 : B ≠ T) (n2 : B + 1 ≠ T) (n3 : E ≠ T) (n4 : F ≠ T) (u v z : Value) : E10 B E F sa xa pa xe pe sb xb pb xf pf (((w.setCell ⟨T, 0, none⟩ u).setCell ⟨T, 1, none⟩ v).setCell ⟨T, 2, none⟩ z) := by
  obtain ⟨h1, h2, h3, h4, h5, h6, h7, h8, h9, h10⟩ := h
  exact ⟨(cell_st3 w n1 0 u v z).trans h1, (cell_st3 w n1 1 u v z).trans h2, (cell_st3 w n1 2 u v z).trans h3, (cell_st3 w n3 0 u v z).trans h4, (cell_st3 w n3 1 u v z).trans h5, (cell_st3 w n2 0 u v z).trans h6, (cell_st3 w n2 1 u v z).trans h7, (cell_st3 w n2 2 u v z).trans h8, (cell_st3 w n4 0 u v z).trans h9, (cell_st3 w n4 1 u v z).trans h10⟩
theorem Rr.num {w : World} {s : Bool} {x : Int} {p : Option Addr} {y : Int} {q : Option Addr} {n : Int} {d : Nat} (h : Rr w (.agg #[.bool s, .int .u64 x, .pointer p, .int .u64 y, .pointer q]) n d) : Zr w (.agg #[.bool s, .int .u64 x, .pointer p]) n := by
  obtain ⟨s', x', p', y', q', h1, h2, _⟩ := h
  simp at h1
  obtain ⟨rfl, rfl, rfl, rfl, rfl⟩ := h1
  exact h2
theorem Rr.gcd {w : World} {v : Value} {n : Int} {d : Nat} (h : Rr w v n d) : Nat.gcd n.natAbs d = 1 := by
  obtain ⟨s, x, p, y, q, _, _, _, _, h⟩ := h
  exact h
theorem Bd.kp {B : Nat} {x y : Value} {w w' : World} (h : Bd B x y w) (hb : Below w.heap.size w w') : Bd B x y w' := h.keep hb (World.block_lt_of_cell? w _ h.1)
theorem B3.kp {B : Nat} {s : Bool} {x : Int} {p : Option Addr} {w w' : World} (h : B3 B s x p w) (hb : Below w.heap.size w w') : B3 B s x p w' := h.keep hb (World.block_lt_of_cell? w _ h.1)
theorem Rq.kp {T : Nat} {w w' : World} (h : Rq T w) (hb : Below w.heap.size w w') : Rq T w' := by
  have h' := h
  obtain ⟨_, _, _, _, _, h'⟩ := h'
  exact h.keep hb (Array.getElem?_eq_some_iff.1 h').1
theorem Bd.lt {B : Nat} {x y : Value} {w : World} (h : Bd B x y w) : B < w.heap.size := World.block_lt_of_cell? w _ h.1
theorem B3.lt {B : Nat} {s : Bool} {x : Int} {p : Option Addr} {w : World} (h : B3 B s x p w) : B < w.heap.size := World.block_lt_of_cell? w _ h.1
theorem Zr.dig {w : World} {s : Bool} {x : Int} {p : Option Addr} {z : Int} (h : Zr w (.agg #[.bool s, .int .u64 x, .pointer p]) z) : Dg w (.agg #[.int .u64 x, .pointer p]) z.natAbs := by
  obtain ⟨s', x', p', h1, h2, _⟩ := h.dg
  simp at h1
  obtain ⟨rfl, rfl, rfl⟩ := h1
  exact h2
/-- what the last region of the sum loads -/
@[reducible] def E9 (N H E Q : Nat) (s : Bool) (x : Int) (p : Option Addr) (xh : Int) (ph : Option Addr) (xe : Int) (pe : Option Addr) (xq : Int) (pq : Option Addr) (w' : World) : Prop :=
  w'.cell? ⟨N, 0, none⟩ = some (.bool s) ∧ w'.cell? ⟨N, 1, none⟩ = some (.int .u64 x) ∧ w'.cell? ⟨N, 2, none⟩ = some (.pointer p) ∧ w'.cell? ⟨H, 0, none⟩ = some (.int .u64 xh) ∧ w'.cell? ⟨H, 1, none⟩ = some (.pointer ph) ∧
  w'.cell? ⟨E, 0, none⟩ = some (.int .u64 xe) ∧ w'.cell? ⟨E, 1, none⟩ = some (.pointer pe) ∧ w'.cell? ⟨Q, 0, none⟩ = some (.int .u64 xq) ∧ w'.cell? ⟨Q, 1, none⟩ = some (.pointer pq)
theorem E9.kp {N H E Q : Nat} {s : Bool} {x : Int} {p : Option Addr} {xh : Int} {ph : Option Addr} {xe : Int} {pe : Option Addr} {xq : Int} {pq : Option Addr} {w w' : World} (h : E9 N H E Q s x p xh ph xe pe xq pq w) (hb : Below w.heap.size w w') : E9 N H E Q s x p xh ph xe pe xq pq w' := by
  have key : ∀ (b o : Nat) (v : Value), w.cell? ⟨b, o, none⟩ = some v → w'.cell? ⟨b, o, none⟩ = some v := fun b o v h => (hb.cell (p := ⟨b, o, none⟩) (World.block_lt_of_cell? w _ h)).trans h
  obtain ⟨h1, h2, h3, h4, h5, h6, h7, h8, h9⟩ := h
  exact ⟨key _ _ _ h1, key _ _ _ h2, key _ _ _ h3, key _ _ _ h4, key _ _ _ h5, key _ _ _ h6, key _ _ _ h7, key _ _ _ h8, key _ _ _ h9⟩
theorem E9.st {N H E Q : Nat} {s : Bool} {x : Int} {p : Option Addr} {xh : Int} {ph : Option Addr} {xe : Int} {pe : Option Addr} {xq : Int} {pq : Option Addr} {w : World} (h : E9 N H E Q s x p xh ph xe pe xq pq w) {T : Nat} (n1 : N ≠ T) (n2 : H ≠ T) (n3 : E ≠ T) (n4 : Q ≠ T) (a b c d e : Value) : E9 N H E Q s x p xh ph xe pe xq pq (st5 w T a b c d e) := by
  obtain ⟨h1, h2, h3, h4, h5, h6, h7, h8, h9⟩ := h
  exact ⟨(cell_st5 w n1 _ _ _ _ _ _).trans h1, (cell_st5 w n1 _ _ _ _ _ _).trans h2, (cell_st5 w n1 _ _ _ _ _ _).trans h3, (cell_st5 w n2 _ _ _ _ _ _).trans h4, (cell_st5 w n2 _ _ _ _ _ _).trans h5, (cell_st5 w n3 _ _ _ _ _ _).trans h6, (cell_st5 w n3 _ _ _ _ _ _).trans h7, (cell_st5 w n4 _ _ _ _ _ _).trans h8, (cell_st5 w n4 _ _ _ _ _ _).trans h9⟩
set_option maxRecDepth 100000 in
set_option maxHeartbeats 3200000 in
theorem radd_any (L : Nat) (va vb : Value) (an bn : Int) (p q : Nat) (w : World) (ha : Rr w va an p) (hb : Rr w vb bn q) (hN : Num L) (lp : p < L) (lq : q < L)
    (n : Int) (hn : n = an * (q / Nat.gcd p q : Nat) + bn * (p / Nat.gcd p q : Nat)) (ln : n.natAbs < L) (sa1 : Sz an.natAbs) (sb1 : Sz bn.natAbs) (sp : Sz p) (sq : Sz q) (sm1 : Sz (an * (q / Nat.gcd p q : Nat)).natAbs) (sm2 : Sz (bn * (p / Nat.gcd p q : Nat)).natAbs) :
    Calls Tryz.prog 42 #[va, vb] w (PR (Int.tdiv n (Nat.gcd n.natAbs (Nat.gcd p q) : Nat)) ((p / Nat.gcd p q) * (q / Nat.gcd n.natAbs (Nat.gcd p q))) w) := by
  have hlow := cop_all ha.pos hb.pos ha.gcd hb.gcd n hn
  have HLOW := Lib.hid hlow
  have hqpos := hb.pos
  have HQPOS := Lib.hid hqpos
  have HNN := Lib.hid hn
  clear hlow hqpos hn
  obtain ⟨sa, xa, pa, ya, qa, rfl⟩ := ha.agg
  obtain ⟨sb, xb, pb, yb, qb, rfl⟩ := hb.agg
  have hpos := ha.pos
  have HPOS := Lib.hid hpos
  have HA := Lib.hid ha; have HB := Lib.hid hb; have HN := Lib.hid hN
  clear ha hb hN hpos
  go_enter Tryz.func42, Tryz.ntmps42
  go_upto_region 1 with fail
  generalize hW : World.alloc _ (Obj.cells #[Value.bool false, Value.int IntKind.u64 0, Value.pointer none, Value.int IntKind.u64 0, Value.pointer none] 33) = W
  have k0 : Below w.heap.size w W := by rw [← hW]; exact bl3 _ _ _ _
  have z0 : w.heap.size + 3 ≤ W.heap.size := by rw [← hW]; simp
  have a0 : B5 w.heap.size sa xa pa ya qa W := by rw [← hW]; refine ⟨?_, ?_, ?_, ?_, ?_⟩ <;> simp [go_sem, World.cell?_alloc_past]
  have b0 : B5 (w.heap.size + 1) sb xb pb yb qb W := by rw [← hW]; refine ⟨?_, ?_, ?_, ?_, ?_⟩ <;> simp [go_sem, World.cell?_alloc_past]
  have t0 : Rq (w.heap.size + 1 + 1) W := by rw [← hW]; exact rq_new _ (by simp)
  clear hW
  go_cut [5, 6] (fun s5 s6 wx => AddR1 w sa xa pa ya qa sb xb pb yb qb p q s5 s6 wx)
  case first =>
    have k0 : Below w.heap.size w W := k0
    have q0 : C10 w.heap.size sa xa pa ya qa sb xb pb yb qb W := C10.mk a0 b0
    have t0 : Rq (w.heap.size + 1 + 1) W := t0
    clear a0 b0
    go_region_held3 (fun w' => w'.cell? ⟨w.heap.size, 0, none⟩ = some (.bool sa) ∧ w'.cell? ⟨w.heap.size, 1, none⟩ = some (.int .u64 xa) ∧ w'.cell? ⟨w.heap.size, 2, none⟩ = some (.pointer pa) ∧ w'.cell? ⟨w.heap.size, 3, none⟩ = some (.int .u64 ya) ∧ w'.cell? ⟨w.heap.size, 4, none⟩ = some (.pointer qa) ∧ w'.cell? ⟨w.heap.size + 1, 0, none⟩ = some (.bool sb) ∧ w'.cell? ⟨w.heap.size + 1, 1, none⟩ = some (.int .u64 xb) ∧ w'.cell? ⟨w.heap.size + 1, 2, none⟩ = some (.pointer pb) ∧ w'.cell? ⟨w.heap.size + 1, 3, none⟩ = some (.int .u64 yb) ∧ w'.cell? ⟨w.heap.size + 1, 4, none⟩ = some (.pointer qb))
      (((repeat (first | (with_reducible exact q2) | (with_reducible exact q1) | (with_reducible exact q0) | (with_reducible refine C10.al ?_ _) | (with_reducible refine C10.dr ?_) | (with_reducible refine C10.sc2 ?_ ?_ ?_ _ _) | omega | (first | omega | (simp <;> omega))))))
      (first
        | (go_at_call 105; (with_reducible refine (under_any (.agg #[.bool sa, .int .u64 xa, .pointer pa, .int .u64 ya, .pointer qa]) an p _ (HA.out.keep (B := w.heap.size) ?_ (Nat.le_refl _))).mono ?_); (focus (repeat (first | (with_reducible exact k2) | (with_reducible exact k1) | (with_reducible exact k0) | (with_reducible refine Below.alloc ?_ ?_ _) | (with_reducible refine Below.drew ?_) | (with_reducible refine Below.setCell ?_ ?_ _) | (first | omega | (simp <;> omega))))); rintro e w1 ⟨hb1, v1, rfl, h1⟩
           have z1 : w.heap.size + 3 ≤ w1.heap.size := (by have hh := hb1.size; (try simp at hh); omega); have q1 : C10 w.heap.size sa xa pa ya qa sb xb pb yb qb w1 := (by refine C10.kp ?_ hb1 ?_; (focus (repeat (first | (with_reducible exact q2) | (with_reducible exact q1) | (with_reducible exact q0) | (with_reducible refine C10.al ?_ _) | (with_reducible refine C10.dr ?_)))); (first | omega | (simp <;> omega)))
           have t1 : Rq (w.heap.size + 1 + 1) w1 := (by refine Rq.keep ?_ hb1 ?_; (focus (repeat (first | (with_reducible exact t2) | (with_reducible exact t1) | (with_reducible exact t0) | (with_reducible refine Rq.alloc ?_ _) | (with_reducible refine Rq.dr ?_)))); (first | omega | (simp <;> omega)))
           have k1 : Below w.heap.size w w1 := (by refine Below.thru ?_ ?_ hb1; (focus (focus (repeat (first | (with_reducible exact k2) | (with_reducible exact k1) | (with_reducible exact k0) | (with_reducible refine Below.alloc ?_ ?_ _) | (with_reducible refine Below.drew ?_) | (with_reducible refine Below.setCell ?_ ?_ _) | (first | omega | (simp <;> omega)))))); (first | omega | (simp <;> omega)))
           have hs1 := hb1.size; (try simp at hs1); (try have hs1c : W.heap.size < w1.heap.size := (by omega)); (try have hs1d : W.heap.size + 1 < w1.heap.size := (by omega))
           obtain ⟨hc1, hf1⟩ := bcell hb1
           obtain ⟨xp, pp, rfl⟩ := h1.agg)
        | (go_at_call 105; (with_reducible refine (under_any (.agg #[.bool sb, .int .u64 xb, .pointer pb, .int .u64 yb, .pointer qb]) bn q _ (HB.out.keep (B := w.heap.size) ?_ (Nat.le_refl _))).mono ?_); (focus (repeat (first | (with_reducible exact k2) | (with_reducible exact k1) | (with_reducible exact k0) | (with_reducible refine Below.alloc ?_ ?_ _) | (with_reducible refine Below.drew ?_) | (with_reducible refine Below.setCell ?_ ?_ _) | (first | omega | (simp <;> omega))))); rintro e w2 ⟨hb2, v2, rfl, h2⟩
           have z2 : w.heap.size + 3 ≤ w2.heap.size := (by have hh := hb2.size; (try simp at hh); omega); have q2 : C10 w.heap.size sa xa pa ya qa sb xb pb yb qb w2 := (by refine C10.kp ?_ hb2 ?_; (focus (repeat (first | (with_reducible exact q2) | (with_reducible exact q1) | (with_reducible exact q0) | (with_reducible refine C10.al ?_ _) | (with_reducible refine C10.dr ?_)))); (first | omega | (simp <;> omega)))
           have t2 : Rq (w.heap.size + 1 + 1) w2 := (by refine Rq.keep ?_ hb2 ?_; (focus (repeat (first | (with_reducible exact t2) | (with_reducible exact t1) | (with_reducible exact t0) | (with_reducible refine Rq.alloc ?_ _) | (with_reducible refine Rq.dr ?_)))); (first | omega | (simp <;> omega)))
           have k2 : Below w.heap.size w w2 := (by refine Below.thru ?_ ?_ hb2; (focus (focus (repeat (first | (with_reducible exact k2) | (with_reducible exact k1) | (with_reducible exact k0) | (with_reducible refine Below.alloc ?_ ?_ _) | (with_reducible refine Below.drew ?_) | (with_reducible refine Below.setCell ?_ ?_ _) | (first | omega | (simp <;> omega)))))); (first | omega | (simp <;> omega)))
           have h1' : Dg w2 (.agg #[.int .u64 xp, .pointer pp]) p := (by refine Dg.keep ?_ hb2 (Nat.le_refl _); (repeat (first | (with_reducible exact h1) | (with_reducible refine Dg.al ?_ _) | (with_reducible refine Dg.dr ?_))))
           have hs2 := hb2.size; (try simp at hs2); (try have hs2c : W.heap.size < w2.heap.size := (by omega)); (try have hs2d : W.heap.size + 1 < w2.heap.size := (by omega)); (try have hs2e : w1.heap.size < w2.heap.size := (by omega)); (try have hs2f : w1.heap.size + 1 < w2.heap.size := (by omega))
           obtain ⟨hc2, hf2⟩ := bcell hb2
           obtain ⟨xq, pq, rfl⟩ := h2.agg))
    all_goals (go_wp2_with fail; go_meet; clear hc1 hf1 hc2 hf2)
    all_goals first | (with_reducible exact meet_aa q2 t2 k2 z2 h1' h2) | (with_reducible exact meet_aa' q2 t2 k2 z2 h1' h2) | ((with_reducible refine meet_sa q2 t2 k2 z2 h1' h2 ?_ ?_); (focus (repeat (first | (with_reducible exact rs_new _ rfl) | (refine rs_new _ ?_; focus (simp; done)) | (with_reducible refine Rs.alloc ?_ _) | (with_reducible refine Rs.dr ?_) | (with_reducible refine Rs.keep ?_ hb2 ?_) | (with_reducible refine Rs.keep ?_ hb1 ?_) | omega | (simp <;> omega)))); omega) | ((with_reducible refine meet_as q2 t2 k2 z2 h1' h2 ?_ ?_); (focus (repeat (first | (with_reducible exact rs_new _ rfl) | (refine rs_new _ ?_; focus (simp; done)) | (with_reducible refine Rs.alloc ?_ _) | (with_reducible refine Rs.dr ?_) | (with_reducible refine Rs.keep ?_ hb2 ?_) | (with_reducible refine Rs.keep ?_ hb1 ?_) | omega | (simp <;> omega)))); omega) | ((with_reducible refine meet_ss q2 t2 k2 h1' h2 ?_ ?_ ?_ ?_ ?_); (focus (repeat (first | (with_reducible exact rs_new _ rfl) | (refine rs_new _ ?_; focus (simp; done)) | (with_reducible refine Rs.alloc ?_ _) | (with_reducible refine Rs.dr ?_) | (with_reducible refine Rs.keep ?_ hb2 ?_) | (with_reducible refine Rs.keep ?_ hb1 ?_) | omega | (simp <;> omega)))); (focus (repeat (first | (with_reducible exact rs_new _ rfl) | (refine rs_new _ ?_; focus (simp; done)) | (with_reducible refine Rs.alloc ?_ _) | (with_reducible refine Rs.dr ?_) | (with_reducible refine Rs.keep ?_ hb2 ?_) | (with_reducible refine Rs.keep ?_ hb1 ?_) | omega | (simp <;> omega)))); (first | omega | fail); (first | omega | fail); (first | omega | fail))
  case rest =>
    obtain ⟨P, Q, xp, pp, xq, pq, rfl, rfl, bP, bQ, lP, lQ, hne, c, t, k, g1, g2⟩ := hcut
    have G1 := Lib.hid g1; have G2 := Lib.hid g2
    have sP : P < wc.heap.size := World.block_lt_of_cell? wc _ bP.1
    have sQ : Q < wc.heap.size := World.block_lt_of_cell? wc _ bQ.1
    obtain ⟨bP1, bP2⟩ := bP
    obtain ⟨bQ1, bQ2⟩ := bQ
    go_wp2_with fail
    refine (HN.out.1 p q lp lq _ _ _ G1.out G2.out).mono ?_
    rintro e w3 ⟨hb3, vg, rfl, hg⟩
    obtain ⟨xg, pg, rfl⟩ := hg.agg
    have k3 := Below.thru k k.size hb3
    have bP3 := Bd.keep (show Bd P (.int .u64 xp) (.pointer pp) wc from ⟨bP1, bP2⟩) hb3 sP
    have bQ3 := Bd.keep (show Bd Q (.int .u64 xq) (.pointer pq) wc from ⟨bQ1, bQ2⟩) hb3 sQ
    have hs3 := hb3.size
    have c3 := c.kp hb3 c.lt
    have t3 := t.keep hb3 (by omega)
    have g13 := G1.out.keep hb3 (Nat.le_refl _)
    have g23 := G2.out.keep hb3 (Nat.le_refl _)
    clear hb3 c t bP1 bP2 bQ1 bQ2 g1 g2
    go_upto_region 3 with fail
    generalize hW : World.alloc w3 (Obj.cells #[Value.int IntKind.u64 xg, Value.pointer pg] 26) = V
    have hV : Below w3.heap.size w3 V := by rw [← hW]; exact bl1 _ _
    have bG : Bd w3.heap.size (.int .u64 xg) (.pointer pg) V := by rw [← hW]; exact bd_new _ _ _ _
    have sV : w3.heap.size + 1 ≤ V.heap.size := by rw [← hW]; simp
    clear hW
    have q0 : D3 P w3.heap.size Q xp pp xg pg xq pq V := D3.mk (bP3.keep hV (by omega)) bG (bQ3.keep hV (by omega))
    have hp := g13.keep hV (Nat.le_refl _)
    have hq := g23.keep hV (Nat.le_refl _)
    have hgV := hg.keep hV (Nat.le_refl _)
    have HP := Lib.hid hp; have HQ := Lib.hid hq; have HG := Lib.hid hgV
    have g0 : 0 < Nat.gcd p q := Nat.gcd_pos_of_pos_left _ HPOS.out
    go_cut [8, 9] (fun s8 s9 wx => Two V (p / Nat.gcd p q) (q / Nat.gcd p q) s8 s9 wx)
    case first =>
      have k0 : Below V.heap.size V V := Below.refl _ _
      have hg1 : Nat.gcd p q ≠ 1 → OverC p (Nat.gcd p q) := fun _ => HN.out.2 p _ lp g0 (Nat.lt_of_le_of_lt (Nat.gcd_le_left q HPOS.out) lp)
      have hg2 : Nat.gcd p q ≠ 1 → OverC q (Nat.gcd p q) := fun _ => HN.out.2 q _ lq g0 (Nat.lt_of_le_of_lt (Nat.gcd_le_left q HPOS.out) lp)
      have HG1 := Lib.hid hg1; have HG2 := Lib.hid hg2
      generalize Nat.gcd p q = g at *
      clear hg1 hg2 hp hq hgV hg bP3 bQ3 bG g13 g23
      go_region_held3 (fun w' => w'.cell? ⟨P, 0, none⟩ = some (.int .u64 xp) ∧ w'.cell? ⟨P, 1, none⟩ = some (.pointer pp) ∧ w'.cell? ⟨w3.heap.size, 0, none⟩ = some (.int .u64 xg) ∧ w'.cell? ⟨w3.heap.size, 1, none⟩ = some (.pointer pg) ∧ w'.cell? ⟨Q, 0, none⟩ = some (.int .u64 xq) ∧ w'.cell? ⟨Q, 1, none⟩ = some (.pointer pq))
        (((repeat (first | (with_reducible exact q2) | (with_reducible exact q1) | (with_reducible exact q0) | (with_reducible refine D3.al ?_ _) | (with_reducible refine D3.dr ?_) | (with_reducible refine D3.sc2 ?_ ?_ ?_ ?_ _ _) | omega | (simp <;> omega)))))
        (first
          | (go_at_call 109; (with_reducible refine (share_any (.agg #[.int .u64 xp, .pointer pp]) (.agg #[.int .u64 xg, .pointer pg]) p g _ (HP.out.keep (B := V.heap.size) ?_ (Nat.le_refl _)) (HG.out.keep (B := V.heap.size) ?_ (Nat.le_refl _)) HG1.out).mono ?_); (focus (repeat (first | (with_reducible exact k2) | (with_reducible exact k1) | (with_reducible exact k0) | (with_reducible refine Below.alloc ?_ ?_ _) | (with_reducible refine Below.drew ?_) | (with_reducible refine Below.setCell ?_ ?_ _) | (first | omega | (simp <;> omega))))); (focus (repeat (first | (with_reducible exact k2) | (with_reducible exact k1) | (with_reducible exact k0) | (with_reducible refine Below.alloc ?_ ?_ _) | (with_reducible refine Below.drew ?_) | (with_reducible refine Below.setCell ?_ ?_ _) | (first | omega | (simp <;> omega))))); rintro e w1 ⟨hb1, v1, rfl, h1⟩
             have z1 : V.heap.size ≤ w1.heap.size := (by have hh := hb1.size; (try simp at hh); omega)
             have q1 : D3 P w3.heap.size Q xp pp xg pg xq pq w1 := (by refine D3.kp ?_ hb1; (repeat (first | (with_reducible exact q2) | (with_reducible exact q1) | (with_reducible exact q0) | (with_reducible refine D3.al ?_ _) | (with_reducible refine D3.dr ?_))))
             have k1 : Below V.heap.size V w1 := (by refine Below.thru ?_ ?_ hb1; (focus (repeat (first | (with_reducible exact k2) | (with_reducible exact k1) | (with_reducible exact k0) | (with_reducible refine Below.alloc ?_ ?_ _) | (with_reducible refine Below.drew ?_) | (with_reducible refine Below.setCell ?_ ?_ _) | (first | omega | (simp <;> omega))))); (first | omega | (simp <;> omega)))
             have hs1 := hb1.size; (try simp at hs1); (try have hs1c : V.heap.size < w1.heap.size := (by omega)); (try have hs1d : V.heap.size + 1 < w1.heap.size := (by omega))
             obtain ⟨hc1, hf1⟩ := bcell hb1
             obtain ⟨x1, p1, rfl⟩ := h1.agg)
          | (go_at_call 109; (with_reducible refine (share_any (.agg #[.int .u64 xq, .pointer pq]) (.agg #[.int .u64 xg, .pointer pg]) q g _ (HQ.out.keep (B := V.heap.size) ?_ (Nat.le_refl _)) (HG.out.keep (B := V.heap.size) ?_ (Nat.le_refl _)) HG2.out).mono ?_); (focus (repeat (first | (with_reducible exact k2) | (with_reducible exact k1) | (with_reducible exact k0) | (with_reducible refine Below.alloc ?_ ?_ _) | (with_reducible refine Below.drew ?_) | (with_reducible refine Below.setCell ?_ ?_ _) | (first | omega | (simp <;> omega))))); (focus (repeat (first | (with_reducible exact k2) | (with_reducible exact k1) | (with_reducible exact k0) | (with_reducible refine Below.alloc ?_ ?_ _) | (with_reducible refine Below.drew ?_) | (with_reducible refine Below.setCell ?_ ?_ _) | (first | omega | (simp <;> omega))))); rintro e w2 ⟨hb2, v2, rfl, h2⟩
             have z2 : V.heap.size ≤ w2.heap.size := (by have hh := hb2.size; (try simp at hh); omega)
             have q2 : D3 P w3.heap.size Q xp pp xg pg xq pq w2 := (by refine D3.kp ?_ hb2; (repeat (first | (with_reducible exact q2) | (with_reducible exact q1) | (with_reducible exact q0) | (with_reducible refine D3.al ?_ _) | (with_reducible refine D3.dr ?_))))
             have k2 : Below V.heap.size V w2 := (by refine Below.thru ?_ ?_ hb2; (focus (repeat (first | (with_reducible exact k2) | (with_reducible exact k1) | (with_reducible exact k0) | (with_reducible refine Below.alloc ?_ ?_ _) | (with_reducible refine Below.drew ?_) | (with_reducible refine Below.setCell ?_ ?_ _) | (first | omega | (simp <;> omega))))); (first | omega | (simp <;> omega)))
             have h1' : Dg w2 (.agg #[.int .u64 x1, .pointer p1]) (p / g) := (by refine Dg.keep ?_ hb2 (Nat.le_refl _); (repeat (first | (with_reducible exact h1) | (with_reducible refine Dg.al ?_ _) | (with_reducible refine Dg.dr ?_))))
             have hs2 := hb2.size; (try simp at hs2); (try have hs2c : V.heap.size < w2.heap.size := (by omega)); (try have hs2d : V.heap.size + 1 < w2.heap.size := (by omega)); (try have hs2e : w1.heap.size < w2.heap.size := (by omega)); (try have hs2f : w1.heap.size + 1 < w2.heap.size := (by omega))
             obtain ⟨hc2, hf2⟩ := bcell hb2
             obtain ⟨x2, p2, rfl⟩ := h2.agg))
      all_goals (go_wp2_with fail; go_meet; clear hc1 hf1 hc2 hf2)
      all_goals first | (with_reducible exact two_aa k2 h1' h2) | (with_reducible exact two_aa' k2 h1' h2) | ((with_reducible refine two_sa k2 h1' h2 ?_ ?_); (focus (repeat (first | (with_reducible exact rs_new _ rfl) | (refine rs_new _ ?_; focus (simp; done)) | (with_reducible refine Rs.alloc ?_ _) | (with_reducible refine Rs.dr ?_) | (with_reducible refine Rs.keep ?_ hb2 ?_) | (with_reducible refine Rs.keep ?_ hb1 ?_) | omega | (simp <;> omega)))); (first | omega | fail)) | ((with_reducible refine two_as k2 h1' h2 ?_ ?_); (focus (repeat (first | (with_reducible exact rs_new _ rfl) | (refine rs_new _ ?_; focus (simp; done)) | (with_reducible refine Rs.alloc ?_ _) | (with_reducible refine Rs.dr ?_) | (with_reducible refine Rs.keep ?_ hb2 ?_) | (with_reducible refine Rs.keep ?_ hb1 ?_) | omega | (simp <;> omega)))); (first | omega | fail)) | ((with_reducible refine two_ss k2 h1' h2 ?_ ?_ ?_ ?_ ?_); (focus (repeat (first | (with_reducible exact rs_new _ rfl) | (refine rs_new _ ?_; focus (simp; done)) | (with_reducible refine Rs.alloc ?_ _) | (with_reducible refine Rs.dr ?_) | (with_reducible refine Rs.keep ?_ hb2 ?_) | (with_reducible refine Rs.keep ?_ hb1 ?_) | omega | (simp <;> omega)))); (focus (repeat (first | (with_reducible exact rs_new _ rfl) | (refine rs_new _ ?_; focus (simp; done)) | (with_reducible refine Rs.alloc ?_ _) | (with_reducible refine Rs.dr ?_) | (with_reducible refine Rs.keep ?_ hb2 ?_) | (with_reducible refine Rs.keep ?_ hb1 ?_) | omega | (simp <;> omega)))); (first | omega | fail); (first | omega | fail); (first | omega | fail))
    case rest =>
      obtain ⟨E, F, xe, pe, xf, pf, rfl, rfl, bE, bF, lE, lF, hne2, kV, gE, gF⟩ := hcut
      have GE := Lib.hid gE; have GF := Lib.hid gF
      have kw : Below w.heap.size w wc := Below.thru (Below.thru k3 k3.size hV) (by omega) kV
      have cV := (c3.kp hV c3.lt).kp kV (c3.kp hV c3.lt).lt
      have tV := (t3.keep hV (by omega)).keep kV (by omega)
      have bQw := (bQ3.keep hV (by omega)).keep kV (by omega)
      have bGw := bG.keep kV (by omega)
      have hqw := HQ.out.keep kV (Nat.le_refl _)
      have hgw := HG.out.keep kV (Nat.le_refl _)
      have sE : E < wc.heap.size := World.block_lt_of_cell? wc _ bE.1
      have sF : F < wc.heap.size := World.block_lt_of_cell? wc _ bF.1
      have sz0 : V.heap.size ≤ wc.heap.size := kV.size
      have q0 : E10 w.heap.size F E sa xa pa xf pf sb xb pb xe pe wc := ⟨cV.1, cV.2.1, cV.2.2.1, bF.1, bF.2, cV.2.2.2.2.2.1, cV.2.2.2.2.2.2.1, cV.2.2.2.2.2.2.2.1, bE.1, bE.2⟩
      have HZA := Lib.hid HA.out.num; have HZB := Lib.hid HB.out.num
      have KW := Lib.hid kw
      have CV := Lib.hid cV; have TV := Lib.hid tV; have BQW := Lib.hid bQw; have BGW := Lib.hid bGw; have HQW := Lib.hid hqw; have HGW := Lib.hid hgw; have BE := Lib.hid bE; have BF := Lib.hid bF
      clear cV tV bQw bGw hqw hgw bE gE gF c3 t3 bP3 bQ3 bG hp hq hgV hg kw q0
      have q0 : E10 w.heap.size F E sa xa pa xf pf sb xb pb xe pe wc := by
        exact ⟨CV.out.1, CV.out.2.1, CV.out.2.2.1, bF.1, bF.2, CV.out.2.2.2.2.2.1, CV.out.2.2.2.2.2.2.1, CV.out.2.2.2.2.2.2.2.1, BE.out.1, BE.out.2⟩
      clear bF
      generalize hg9 : Nat.gcd p q = g at *
      have sqg : Sz (q / g) := sq.le (Nat.div_le_self _ _)
      have spg : Sz (p / g) := sp.le (Nat.div_le_self _ _)
      go_upto_region 4 with fail
      go_cut [10] (fun s10 wx => OneZ wc n s10 wx)
      case first =>
        have k0 : Below wc.heap.size wc wc := Below.refl _ _
        go_region_held3 (fun w' => w'.cell? ⟨w.heap.size, 0, none⟩ = some (.bool sa) ∧ w'.cell? ⟨w.heap.size, 1, none⟩ = some (.int .u64 xa) ∧ w'.cell? ⟨w.heap.size, 2, none⟩ = some (.pointer pa) ∧ w'.cell? ⟨F, 0, none⟩ = some (.int .u64 xf) ∧ w'.cell? ⟨F, 1, none⟩ = some (.pointer pf) ∧ w'.cell? ⟨w.heap.size + 1, 0, none⟩ = some (.bool sb) ∧ w'.cell? ⟨w.heap.size + 1, 1, none⟩ = some (.int .u64 xb) ∧ w'.cell? ⟨w.heap.size + 1, 2, none⟩ = some (.pointer pb) ∧ w'.cell? ⟨E, 0, none⟩ = some (.int .u64 xe) ∧ w'.cell? ⟨E, 1, none⟩ = some (.pointer pe))
          (((repeat (first | (with_reducible exact q3) | (with_reducible exact q2) | (with_reducible exact q1) | (with_reducible exact q0) | (with_reducible refine E10.al ?_ _) | (with_reducible refine E10.dr ?_) | (with_reducible refine E10.sc3 ?_ ?_ ?_ ?_ ?_ _ _ _) | omega | (simp <;> omega)))))
          (first
            | (go_at_call 110; (with_reducible refine (multiple_any (.agg #[.bool sa, .int .u64 xa, .pointer pa]) (.agg #[.int .u64 xf, .pointer pf]) an (q / g) _ ((HZA.out.keep (B := w.heap.size) KW.out (Nat.le_refl _)).keep (B := wc.heap.size) ?_ (Nat.le_refl _)) (GF.out.keep (B := wc.heap.size) ?_ (Nat.le_refl _)) sa1 sqg).mono ?_); (focus (repeat (first | (with_reducible exact k3) | (with_reducible exact k2) | (with_reducible exact k1) | (with_reducible exact k0) | (with_reducible refine Below.alloc ?_ ?_ _) | (with_reducible refine Below.drew ?_) | (with_reducible refine Below.setCell ?_ ?_ _) | (first | omega | (simp <;> omega))))); (focus (repeat (first | (with_reducible exact k3) | (with_reducible exact k2) | (with_reducible exact k1) | (with_reducible exact k0) | (with_reducible refine Below.alloc ?_ ?_ _) | (with_reducible refine Below.drew ?_) | (with_reducible refine Below.setCell ?_ ?_ _) | (first | omega | (simp <;> omega))))); rintro e w1 ⟨hb1, v1, rfl, h1⟩
               have z1 : wc.heap.size ≤ w1.heap.size := (by have hh := hb1.size; (try simp at hh); omega)
               have q1 : E10 w.heap.size F E sa xa pa xf pf sb xb pb xe pe w1 := (by refine E10.kp ?_ hb1; (repeat (first | (with_reducible exact q3) | (with_reducible exact q2) | (with_reducible exact q1) | (with_reducible exact q0) | (with_reducible refine E10.al ?_ _) | (with_reducible refine E10.dr ?_))))
               have k1 : Below wc.heap.size wc w1 := (by refine Below.thru ?_ ?_ hb1; (focus (repeat (first | (with_reducible exact k3) | (with_reducible exact k2) | (with_reducible exact k1) | (with_reducible exact k0) | (with_reducible refine Below.alloc ?_ ?_ _) | (with_reducible refine Below.drew ?_) | (with_reducible refine Below.setCell ?_ ?_ _) | (first | omega | (simp <;> omega))))); (first | omega | (simp <;> omega)))
               have hs1 := hb1.size; (try simp at hs1); (try have hs1c : wc.heap.size < w1.heap.size := (by omega))
               obtain ⟨hc1, hf1⟩ := bcell hb1
               have h1q := h1; obtain ⟨s1, x1, p1, n1, rfl, _⟩ := h1q)
            | (go_at_call 110; (with_reducible refine (multiple_any (.agg #[.bool sb, .int .u64 xb, .pointer pb]) (.agg #[.int .u64 xe, .pointer pe]) bn (p / g) _ ((HZB.out.keep (B := w.heap.size) KW.out (Nat.le_refl _)).keep (B := wc.heap.size) ?_ (Nat.le_refl _)) (GE.out.keep (B := wc.heap.size) ?_ (Nat.le_refl _)) sb1 spg).mono ?_); (focus (repeat (first | (with_reducible exact k3) | (with_reducible exact k2) | (with_reducible exact k1) | (with_reducible exact k0) | (with_reducible refine Below.alloc ?_ ?_ _) | (with_reducible refine Below.drew ?_) | (with_reducible refine Below.setCell ?_ ?_ _) | (first | omega | (simp <;> omega))))); (focus (repeat (first | (with_reducible exact k3) | (with_reducible exact k2) | (with_reducible exact k1) | (with_reducible exact k0) | (with_reducible refine Below.alloc ?_ ?_ _) | (with_reducible refine Below.drew ?_) | (with_reducible refine Below.setCell ?_ ?_ _) | (first | omega | (simp <;> omega))))); rintro e w2 ⟨hb2, v2, rfl, h2⟩
               have z2 : wc.heap.size ≤ w2.heap.size := (by have hh := hb2.size; (try simp at hh); omega)
               have q2 : E10 w.heap.size F E sa xa pa xf pf sb xb pb xe pe w2 := (by refine E10.kp ?_ hb2; (repeat (first | (with_reducible exact q3) | (with_reducible exact q2) | (with_reducible exact q1) | (with_reducible exact q0) | (with_reducible refine E10.al ?_ _) | (with_reducible refine E10.dr ?_))))
               have k2 : Below wc.heap.size wc w2 := (by refine Below.thru ?_ ?_ hb2; (focus (repeat (first | (with_reducible exact k3) | (with_reducible exact k2) | (with_reducible exact k1) | (with_reducible exact k0) | (with_reducible refine Below.alloc ?_ ?_ _) | (with_reducible refine Below.drew ?_) | (with_reducible refine Below.setCell ?_ ?_ _) | (first | omega | (simp <;> omega))))); (first | omega | (simp <;> omega)))
               have h1' : Zr w2 (.agg #[.bool s1, .int .u64 x1, .pointer p1]) (an * (q / g : Nat)) := (by refine Zr.keep ?_ hb2 (Nat.le_refl _); (repeat (first | (with_reducible exact h1) | (with_reducible refine Zr.al ?_ _) | (with_reducible refine Zr.dr ?_))))
               have hs2 := hb2.size; (try simp at hs2); (try have hs2c : wc.heap.size < w2.heap.size := (by omega)); (try have hs2e : w1.heap.size < w2.heap.size := (by omega))
               obtain ⟨hc2, hf2⟩ := bcell hb2
               have h2q := h2; obtain ⟨s2, x2, p2, n2, rfl, _⟩ := h2q)
            | (go_at_call 97; (with_reducible refine (zadd_any (.agg #[.bool s1, .int .u64 x1, .pointer p1]) (.agg #[.bool s2, .int .u64 x2, .pointer p2]) (an * (q / g : Nat)) (bn * (p / g : Nat)) _ ?_ ?_ sm1 sm2).mono ?_); (focus (repeat (first | (with_reducible exact h1') | (with_reducible refine Zr.al ?_ _) | (with_reducible refine Zr.dr ?_)))); (focus (repeat (first | (with_reducible exact h2) | (with_reducible refine Zr.al ?_ _) | (with_reducible refine Zr.dr ?_)))); rintro e w3' ⟨hb3, v3, rfl, h3⟩
               have z3 : wc.heap.size ≤ w3'.heap.size := (by have hh := hb3.size; (try simp at hh); omega)
               have q3 : E10 w.heap.size F E sa xa pa xf pf sb xb pb xe pe w3' := (by refine E10.kp ?_ hb3; (repeat (first | (with_reducible exact q3) | (with_reducible exact q2) | (with_reducible exact q1) | (with_reducible exact q0) | (with_reducible refine E10.al ?_ _) | (with_reducible refine E10.dr ?_))))
               have k3 : Below wc.heap.size wc w3' := (by refine Below.thru ?_ ?_ hb3; (focus (repeat (first | (with_reducible exact k3) | (with_reducible exact k2) | (with_reducible exact k1) | (with_reducible exact k0) | (with_reducible refine Below.alloc ?_ ?_ _) | (with_reducible refine Below.drew ?_) | (with_reducible refine Below.setCell ?_ ?_ _) | (first | omega | (simp <;> omega))))); (first | omega | (simp <;> omega)))
               have hs3 := hb3.size; (try simp at hs3); (try have hs3c : wc.heap.size < w3'.heap.size := (by omega)); (try have hs3e : w1.heap.size < w3'.heap.size := (by omega)); (try have hs3f : w2.heap.size < w3'.heap.size := (by omega))
               obtain ⟨hc3, hf3⟩ := bcell hb3
               have h3 : Zr w3' v3 n := (by rw [HNN.out]; exact h3)
               have h3q := h3; obtain ⟨s3, x3, p3, n3, rfl, _⟩ := h3q))
        all_goals (go_wp2_with fail; go_meet; clear hc1 hf1 hc2 hf2 hc3 hf3)
        all_goals first | (with_reducible exact oneZ_a k3 h3) | ((with_reducible refine oneZ_s k3 h3 ?_ ?_); (focus (repeat (first | (with_reducible exact rz_new _ rfl) | (refine rz_new _ ?_; focus (simp; done)) | (with_reducible refine Rz.alloc ?_ _) | (with_reducible refine Rz.dr ?_) | (with_reducible refine Rz.keep ?_ hb3 ?_) | (with_reducible refine Rz.keep ?_ hb2 ?_) | (with_reducible refine Rz.keep ?_ hb1 ?_) | omega | (simp <;> omega)))); (first | omega | fail))
      case rest =>
        obtain ⟨N, bn', xn, pn, rfl, bN, lN, kN, hz⟩ := hcut
        have hB : Below w.heap.size w wc := Below.thru KW.out KW.out.size kN
        have bG9 := BGW.out.kp kN
        have bN9 := bN
        have hgL : g < L := by rw [← hg9]; exact Nat.lt_of_le_of_lt (Nat.gcd_le_left q HPOS.out) lp
        have hdN := hz.dig
        have hdG := HGW.out.keep kN (Nat.le_refl _)
        obtain ⟨bN1, bN2, bN3⟩ := bN9
        obtain ⟨bG1, bG2⟩ := bG9
        go_wp2_with fail
        refine (HN.out.1 n.natAbs g ln hgL _ _ _ hdN hdG).mono ?_
        rintro e w5 ⟨hb5, vh, rfl, hh⟩
        obtain ⟨xh, ph, rfl⟩ := hh.agg
        have hB5 : Below w.heap.size w w5 := Below.thru hB hB.size hb5
        have bN5 := bN.kp hb5
        have bE5 := (BE.out.kp kN).kp hb5
        have bQ5 := (BQW.out.kp kN).kp hb5
        have t5 := (TV.out.kp kN).kp hb5
        have hz5 := hz.keep hb5 (Nat.le_refl _)
        have hE5 := (GE.out.keep kN (Nat.le_refl _)).keep hb5 (Nat.le_refl _)
        have hQ5 := (HQW.out.keep kN (Nat.le_refl _)).keep hb5 (Nat.le_refl _)
        clear bN1 bN2 bN3 bG1 bG2 hdN hdG bN hz q0 hb5 hB
        go_wp2
        generalize hU : World.alloc w5 (Obj.cells #[Value.int IntKind.u64 xh, Value.pointer ph] 26) = U
        have hbU : Below w5.heap.size w5 U := by rw [← hU]; exact bl1 _ _
        have bH : Bd w5.heap.size (.int .u64 xh) (.pointer ph) U := by rw [← hU]; exact bd_new _ _ _ _
        clear hU
        have hbU : Below w5.heap.size w5 U.drew := hbU.drew
        have bH : Bd w5.heap.size (.int .u64 xh) (.pointer ph) U.drew := bH
        have bN0 := bN5.kp hbU
        have bE0 := bE5.kp hbU
        have bQ0 := bQ5.kp hbU
        have t0 := t5.kp hbU
        have k0 : Below w.heap.size w U.drew := Below.thru hB5 hB5.size hbU
        have hz0 := hz5.keep hbU (Nat.le_refl _)
        have hE0 := hE5.keep hbU (Nat.le_refl _)
        have hQ0 := hQ5.keep hbU (Nat.le_refl _)
        have hH0 := hh.keep hbU (Nat.le_refl _)
        have q0 : E9 N w5.heap.size E Q bn' xn pn xh ph xe pe xq pq U.drew := ⟨bN0.1, bN0.2.1, bN0.2.2, bH.1, bH.2, bE0.1, bE0.2, bQ0.1, bQ0.2⟩
        have nN : N ≠ w.heap.size + 1 + 1 := by have := KW.out.size; have := BGW.out.lt; omega
        have nH : w5.heap.size ≠ w.heap.size + 1 + 1 := by have := bN5.lt; have := BGW.out.lt; have := KW.out.size; omega
        have nE : E ≠ w.heap.size + 1 + 1 := by omega
        have nQ : Q ≠ w.heap.size + 1 + 1 := by omega
        have hhp : 0 < Nat.gcd n.natAbs g := Nat.gcd_pos_of_pos_right _ g0
        have hhL : Nat.gcd n.natAbs g < L := Nat.lt_of_le_of_lt (Nat.gcd_le_right _ g0) hgL
        have ho1 : Nat.gcd n.natAbs g ≠ 1 → OverC n.natAbs (Nat.gcd n.natAbs g) := fun _ => HN.out.2 _ _ ln hhp hhL
        have ho2 : Nat.gcd n.natAbs g ≠ 1 → OverC q (Nat.gcd n.natAbs g) := fun _ => HN.out.2 _ _ lq hhp hhL
        have hdpos : 0 < (p / g) * (q / Nat.gcd n.natAbs g) := by
          have hgp : g ∣ p := by rw [← hg9]; exact Nat.gcd_dvd_left _ _
          have hgq : g ∣ q := by rw [← hg9]; exact Nat.gcd_dvd_right _ _
          exact Nat.mul_pos (Nat.div_pos (Nat.le_of_dvd HPOS.out hgp) g0) (Nat.div_pos (Nat.le_of_dvd HQPOS.out (Nat.dvd_trans (Nat.gcd_dvd_right _ _) hgq)) hhp)
        have sqh : Sz (q / Nat.gcd n.natAbs g) := sq.le (Nat.div_le_self _ _)
        have HLOW' := HLOW.out
        generalize Nat.gcd n.natAbs g = h at *
        have HL := Lib.hid HLOW'
        clear HLOW' bH bN0 bE0 bQ0 bN5 bE5 bQ5 t5 hz5 hE5 hQ5 hh
        go_region_held3 (fun w' => w'.cell? ⟨N, 0, none⟩ = some (.bool bn') ∧ w'.cell? ⟨N, 1, none⟩ = some (.int .u64 xn) ∧ w'.cell? ⟨N, 2, none⟩ = some (.pointer pn) ∧ w'.cell? ⟨w5.heap.size, 0, none⟩ = some (.int .u64 xh) ∧ w'.cell? ⟨w5.heap.size, 1, none⟩ = some (.pointer ph) ∧ w'.cell? ⟨E, 0, none⟩ = some (.int .u64 xe) ∧ w'.cell? ⟨E, 1, none⟩ = some (.pointer pe) ∧ w'.cell? ⟨Q, 0, none⟩ = some (.int .u64 xq) ∧ w'.cell? ⟨Q, 1, none⟩ = some (.pointer pq))
          (first | (with_reducible exact q5) | (with_reducible exact q4) | (with_reducible exact q3) | (with_reducible exact q2) | (with_reducible exact q1) | (with_reducible exact q0))
          (first
            | (go_at_call 111; (with_reducible refine (part_any (.agg #[.bool bn', .int .u64 xn, .pointer pn]) (.agg #[.int .u64 xh, .pointer ph]) n h U.drew hz0 hH0 ho1).mono ?_); rintro e w6 ⟨hb6, v6, rfl, h6⟩
               have q1 := q0.kp hb6; have t1 := t0.kp hb6; have k1 := Below.thru k0 k0.size hb6; have hE1 := hE0.keep hb6 (Nat.le_refl _); have hQ1 := hQ0.keep hb6 (Nat.le_refl _); have hH1 := hH0.keep hb6 (Nat.le_refl _))
            | (go_at_call 109; (with_reducible refine (share_any (.agg #[.int .u64 xq, .pointer pq]) (.agg #[.int .u64 xh, .pointer ph]) q h w6 hQ1 hH1 ho2).mono ?_); rintro e w7 ⟨hb7, v7, rfl, h7⟩
               have q2 := q1.kp hb7; have t2 := t1.kp hb7; have k2 := Below.thru k1 k1.size hb7; have hE2 := hE1.keep hb7 (Nat.le_refl _); have h6' := h6.keep hb7 (Nat.le_refl _))
            | (go_at_call 112; (with_reducible refine (times_any (.agg #[.int .u64 xe, .pointer pe]) v7 (p / g) (q / h) w7 hE2 h7 spg sqh).mono ?_); rintro e w8 ⟨hb8, v8, rfl, h8⟩
               have q3 := q2.kp hb8; have t3 := t2.kp hb8; have k3 := Below.thru k2 k2.size hb8; have h6'' := h6'.keep hb8 (Nat.le_refl _))
            | (go_at_call 107; (with_reducible refine (lowest_any v6 v8 _ _ w8 h6'' h8 hdpos HL.out).mono ?_); rintro e w9 ⟨hb9, v9, rfl, h9⟩
               have q4 := q3.kp hb9; have t4 := t3.kp hb9; have k4 := Below.thru k3 k3.size hb9; obtain ⟨s5, x5, p5, y5, r5, rfl⟩ := h9.agg; obtain ⟨_, _, _, _, _, m1, m2, m3, m4, m5, m6, m7, m8, m9, m10⟩ := t4.cells
               have q5 := q4.st nN nH nE nQ (.bool s5) (.int .u64 x5) (.pointer p5) (.int .u64 y5) (.pointer r5)))
        obtain ⟨i1, i2, i3, i4, i5⟩ := five_cells m1 m2 m3 m4 m5 (.bool s5) (.int .u64 x5) (.pointer p5) (.int .u64 y5) (.pointer r5)
        unfold st5 at i1 i2 i3 i4 i5
        have HR := Lib.hid (h9.store t4.odd (grown5 w9 (w.heap.size + 1 + 1) (.bool s5) (.int .u64 x5) (.pointer p5) (.int .u64 y5) (.pointer r5)))
        clear q0 q1 q2 q3 q4 q5 h9
        go_wp2
        exact bodyPost_ret (v := .agg #[.bool s5, .int .u64 x5, .pointer p5, .int .u64 y5, .pointer r5]) (by simp [results, Tryz.results42, go_sem, i1, i2, i3, i4, i5]) rfl ⟨below5 k4 (by omega) _ _ _ _ _, _, rfl, HR.out⟩
end Go.Proofs.YtjjomjjgoceklaaGreat
