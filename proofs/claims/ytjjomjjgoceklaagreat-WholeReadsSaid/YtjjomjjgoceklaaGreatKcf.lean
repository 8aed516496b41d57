import Derived.Test.YtjjomjjgoceklaaGreatKce
namespace Go.Proofs.YtjjomjjgoceklaaGreat
set_option maxRecDepth 100000
open Go.RowKit

/-! the reference's ratios: their boxes, OfZ, Ratio -/
/-- a ratio of the reference: numerator and denominator (0 stands for 1) -/
def RRv (w : World) (v : Value) (n d : Int) : Prop := ∃ (s1 : Int) (p1 : Option Addr) (l1 c1 : Nat) (s2 : Int) (p2 : Option Addr) (l2 c2 : Nat),
  v = .agg #[.int .i64 s1, .slice p1 l1 c1, .int .i64 s2, .slice p2 l2 c2] ∧ RZ w (.agg #[.int .i64 s1, .slice p1 l1 c1]) n ∧ RZ w (.agg #[.int .i64 s2, .slice p2 l2 c2]) d
theorem RRv.keep {w w' : World} {v : Value} {n d : Int} {B : Nat} (h : RRv w v n d) (hb : Below B w w') (hB : w.heap.size ≤ B) : RRv w' v n d := by
  obtain ⟨s1, p1, l1, c1, s2, p2, l2, c2, e, h1, h2⟩ := h
  exact ⟨s1, p1, l1, c1, s2, p2, l2, c2, e, h1.keep hb hB, h2.keep hb hB⟩
theorem RRv.store {w w' : World} {v : Value} {n d : Int} {T : Nat} (h : RRv w v n d) (hT : NoI w T) (hg : w.grownBy w' (some T)) : RRv w' v n d := by
  obtain ⟨s1, p1, l1, c1, s2, p2, l2, c2, e, h1, h2⟩ := h
  exact ⟨s1, p1, l1, c1, s2, p2, l2, c2, e, h1.store hT hg, h2.store hT hg⟩
theorem RRv.cast {w : World} {v : Value} {n d n' d' : Int} (h : RRv w v n d) (h1 : n = n') (h2 : d = d') : RRv w v n' d' := h1 ▸ h2 ▸ h
def PRR (n d : Int) (w : World) (e : Ending) (w' : World) : Prop := Below w.heap.size w w' ∧ ∃ v, e = .returned v ∧ RRv w' v n d
/-- box T is that of a ratio of the reference -/
def R4 (T : Nat) (w : World) : Prop := ∃ (s1 : Int) (p1 : Option Addr) (l1 c1 : Nat) (s2 : Int) (p2 : Option Addr) (l2 c2 : Nat), w.heap[T]? = some (.cells #[.int .i64 s1, .slice p1 l1 c1, .int .i64 s2, .slice p2 l2 c2] 44 (0, 0))
theorem R4.lt {T : Nat} {w : World} (h : R4 T w) : T < w.heap.size := by obtain ⟨_, _, _, _, _, _, _, _, h⟩ := h; exact blk_lt h
theorem R4.keep {T : Nat} {w w' : World} (h : R4 T w) (hb : Below w.heap.size w w') : R4 T w' := by
  obtain ⟨s1, p1, l1, c1, s2, p2, l2, c2, h⟩ := h
  exact ⟨s1, p1, l1, c1, s2, p2, l2, c2, blk_keep h hb⟩
theorem R4.other {T U : Nat} {w w' : World} (h : R4 T w) (hg : w.grownBy w' (some U)) (hne : T ≠ U) : R4 T w' := by
  obtain ⟨s1, p1, l1, c1, s2, p2, l2, c2, h⟩ := h
  exact ⟨s1, p1, l1, c1, s2, p2, l2, c2, blk_other h hg hne⟩
theorem r4_new (w : World) {T : Nat} (hT : T = w.heap.size) : R4 T (w.alloc (.cells #[.int .i64 0, .slice none 0 0, .int .i64 0, .slice none 0 0] 44)) := by
  subst hT; exact ⟨0, none, 0, 0, 0, none, 0, 0, Go.Deep.blk_alloc_new _ _⟩
theorem R4.noI {T : Nat} {w : World} (h : R4 T w) : NoI w T := by obtain ⟨_, _, _, _, _, _, _, _, h⟩ := h; exact ⟨_, _, _, h, by decide⟩
theorem R4.odd {T : Nat} {w : World} (h : R4 T w) : Odd T w := by
  obtain ⟨s1, p1, l1, c1, s2, p2, l2, c2, h⟩ := h
  have hc : ∀ o, w.cell? ⟨T, o, none⟩ = (#[Value.int .i64 s1, .slice p1 l1 c1, .int .i64 s2, .slice p2 l2 c2] : Array Value)[o]? := fun o => by simp [World.cell?, h]
  refine ⟨fun o x' y' h1 h2 => ?_, fun p l c h1 => ?_⟩
  · rw [hc] at h1 h2
    match o with
    | 0 => simp at h1
    | 1 => simp at h2
    | 2 => simp at h1
    | 3 => simp at h2
    | o + 4 => simp at h1
  · rw [hc] at h1; simp at h1
theorem R4.cells {T : Nat} {w : World} (h : R4 T w) : ∃ (s1 : Int) (p1 : Option Addr) (l1 c1 : Nat) (s2 : Int) (p2 : Option Addr) (l2 c2 : Nat), w.cell? ⟨T, 0, none⟩ = some (.int .i64 s1) ∧ w.cell? ⟨T, 1, none⟩ = some (.slice p1 l1 c1) ∧ w.cell? ⟨T, 2, none⟩ = some (.int .i64 s2) ∧ w.cell? ⟨T, 3, none⟩ = some (.slice p2 l2 c2) ∧
    w.frozen? ⟨T, 0, none⟩ = false ∧ w.frozen? ⟨T, 1, none⟩ = false ∧ w.frozen? ⟨T, 2, none⟩ = false ∧ w.frozen? ⟨T, 3, none⟩ = false := by
  obtain ⟨s1, p1, l1, c1, s2, p2, l2, c2, h⟩ := h
  refine ⟨s1, p1, l1, c1, s2, p2, l2, c2, ?_, ?_, ?_, ?_, ?_, ?_, ?_, ?_⟩ <;> simp [World.cell?, World.frozen?, h]
@[reducible] def st4r (w : World) (T : Nat) (a b c d : Value) : World := (((w.setCell ⟨T, 0, none⟩ a).setCell ⟨T, 1, none⟩ b).setCell ⟨T, 2, none⟩ c).setCell ⟨T, 3, none⟩ d
theorem grown4r (w : World) (T : Nat) (a b c d : Value) : w.grownBy (st4r w T a b c d) (some T) := only_setCell (p := ⟨T, 3, none⟩) (grown3 w T 0 1 2 a b c) rfl _
theorem below4r {B T : Nat} {a w : World} (h : Below B a w) (hT : B ≤ T) (u v x y : Value) : Below B a (st4r w T u v x y) :=
  ((((h.setCell (by simp <;> omega) _).setCell (by simp <;> omega) _).setCell (by simp <;> omega) _).setCell (by simp <;> omega) _)
theorem four_cells {w : World} {T : Nat} {a' b' c' d' : Value} (h1 : w.cell? ⟨T, 0, none⟩ = some a') (h2 : w.cell? ⟨T, 1, none⟩ = some b') (h3 : w.cell? ⟨T, 2, none⟩ = some c') (h4 : w.cell? ⟨T, 3, none⟩ = some d') (a b c d : Value) :
    (st4r w T a b c d).cell? ⟨T, 0, none⟩ = some a ∧ (st4r w T a b c d).cell? ⟨T, 1, none⟩ = some b ∧ (st4r w T a b c d).cell? ⟨T, 2, none⟩ = some c ∧ (st4r w T a b c d).cell? ⟨T, 3, none⟩ = some d := by
  obtain ⟨e1, e2, e3⟩ := three_cells h1 h2 h3 a b c
  have e4 : (((w.setCell ⟨T, 0, none⟩ a).setCell ⟨T, 1, none⟩ b).setCell ⟨T, 2, none⟩ c).cell? ⟨T, 3, none⟩ = some d' := by
    rw [World.cell?_setCell_other _ _ _ _ (by simp), World.cell?_setCell_other _ _ _ _ (by simp), World.cell?_setCell_other _ _ _ _ (by simp)]; exact h4
  unfold st4r
  refine ⟨?_, ?_, ?_, World.cell?_setCell_same' _ _ _ (by rw [e4]; rfl)⟩
  · rw [World.cell?_setCell_other _ _ _ _ (by simp)]; exact e1
  · rw [World.cell?_setCell_other _ _ _ _ (by simp)]; exact e2
  · rw [World.cell?_setCell_other _ _ _ _ (by simp)]; exact e3
/-- a box with a ratio of the reference -/
def HR (T : Nat) (n d : Int) (w : World) : Prop := ∃ (s1 : Int) (p1 : Option Addr) (l1 c1 : Nat) (s2 : Int) (p2 : Option Addr) (l2 c2 : Nat),
  w.heap[T]? = some (.cells #[.int .i64 s1, .slice p1 l1 c1, .int .i64 s2, .slice p2 l2 c2] 44 (0, 0)) ∧ RRv w (.agg #[.int .i64 s1, .slice p1 l1 c1, .int .i64 s2, .slice p2 l2 c2]) n d
theorem HR.keep {T : Nat} {n d : Int} {w w' : World} (h : HR T n d w) (hb : Below w.heap.size w w') : HR T n d w' := by
  obtain ⟨s1, p1, l1, c1, s2, p2, l2, c2, h1, h2⟩ := h
  exact ⟨s1, p1, l1, c1, s2, p2, l2, c2, blk_keep h1 hb, h2.keep hb (Nat.le_refl _)⟩
theorem HR.r4 {T : Nat} {n d : Int} {w : World} (h : HR T n d w) : R4 T w := by
  obtain ⟨s1, p1, l1, c1, s2, p2, l2, c2, h1, _⟩ := h
  exact ⟨s1, p1, l1, c1, s2, p2, l2, c2, h1⟩
theorem HR.st {T U : Nat} {n d : Int} {w w' : World} (h : HR T n d w) (hU : NoI w U) (hg : w.grownBy w' (some U)) (hne : T ≠ U) : HR T n d w' := by
  obtain ⟨s1, p1, l1, c1, s2, p2, l2, c2, h1, h2⟩ := h
  exact ⟨s1, p1, l1, c1, s2, p2, l2, c2, blk_other h1 hg hne, h2.store hU hg⟩
theorem HR.new {w : World} {n d : Int} {s1 : Int} {p1 : Option Addr} {l1 c1 : Nat} {s2 : Int} {p2 : Option Addr} {l2 c2 : Nat} (h : RRv w (.agg #[.int .i64 s1, .slice p1 l1 c1, .int .i64 s2, .slice p2 l2 c2]) n d) : HR w.heap.size n d (w.alloc (.cells #[.int .i64 s1, .slice p1 l1 c1, .int .i64 s2, .slice p2 l2 c2] 44)) :=
  ⟨s1, p1, l1, c1, s2, p2, l2, c2, Go.Deep.blk_alloc_new _ _, h.keep (bl1 _ _) (Nat.le_refl _)⟩
theorem HR.stored {T : Nat} {w : World} {n d : Int} {s1 : Int} {p1 : Option Addr} {l1 c1 : Nat} {s2 : Int} {p2 : Option Addr} {l2 c2 : Nat} (hT : R4 T w) (h : RRv w (.agg #[.int .i64 s1, .slice p1 l1 c1, .int .i64 s2, .slice p2 l2 c2]) n d) :
    HR T n d (st4r w T (.int .i64 s1) (.slice p1 l1 c1) (.int .i64 s2) (.slice p2 l2 c2)) := by
  refine ⟨s1, p1, l1, c1, s2, p2, l2, c2, ?_, h.store hT.noI (grown4r _ _ _ _ _ _)⟩
  obtain ⟨_, _, _, _, _, _, _, _, hT⟩ := hT
  simp [World.setCell, Array.getElem?_modify, hT]
theorem RRv.agg {w : World} {v : Value} {n d : Int} (h : RRv w v n d) : ∃ (s1 : Int) (p1 : Option Addr) (l1 c1 : Nat) (s2 : Int) (p2 : Option Addr) (l2 c2 : Nat), v = .agg #[.int .i64 s1, .slice p1 l1 c1, .int .i64 s2, .slice p2 l2 c2] := by
  obtain ⟨s1, p1, l1, c1, s2, p2, l2, c2, e, _⟩ := h
  exact ⟨s1, p1, l1, c1, s2, p2, l2, c2, e⟩
theorem RRv.parts {w : World} {n d : Int} {s1 : Int} {p1 : Option Addr} {l1 c1 : Nat} {s2 : Int} {p2 : Option Addr} {l2 c2 : Nat} (h : RRv w (.agg #[.int .i64 s1, .slice p1 l1 c1, .int .i64 s2, .slice p2 l2 c2]) n d) : RZ w (.agg #[.int .i64 s1, .slice p1 l1 c1]) n ∧ RZ w (.agg #[.int .i64 s2, .slice p2 l2 c2]) d := by
  obtain ⟨_, _, _, _, _, _, _, _, e, h1, h2⟩ := h
  simp only [Value.agg.injEq, Array.mk.injEq, List.cons.injEq, and_true, Value.int.injEq, Value.slice.injEq, true_and] at e
  obtain ⟨rfl, ⟨rfl, rfl, rfl⟩, rfl, rfl, rfl, rfl⟩ := e
  exact ⟨h1, h2⟩
section
variable {ρ : Operand → Value} {o : Oper} {w : World} {t x y : Operand}
theorem rn_load44 {T : Nat} {s1 : Int} {p1 : Option Addr} {l1 c1 : Nat} {s2 : Int} {p2 : Option Addr} {l2 c2 : Nat} (ho : o.op = .load 44 t) (he : ρ t = .pointer (some ⟨T, 0, none⟩)) (h : w.heap[T]? = some (.cells #[.int .i64 s1, .slice p1 l1 c1, .int .i64 s2, .slice p2 l2 c2] 44 (0, 0))) :
    (execOp ρ o).run Tryz.prog w = .ok (.value (.agg #[.int .i64 s1, .slice p1 l1 c1, .int .i64 s2, .slice p2 l2 c2])) w := by
  have g1 : w.cell? ⟨T, 0, none⟩ = some (.int .i64 s1) := by simp [World.cell?, h]
  have g2 : w.cell? ⟨T, 1, none⟩ = some (.slice p1 l1 c1) := by simp [World.cell?, h]
  have g3 : w.cell? ⟨T, 2, none⟩ = some (.int .i64 s2) := by simp [World.cell?, h]
  have g4 : w.cell? ⟨T, 3, none⟩ = some (.slice p2 l2 c2) := by simp [World.cell?, h]
  unfold execOp; rw [ho]; simp [go_sem, he, g1, g2, g3, g4]
theorem rn_store44 {T : Nat} {s1 : Int} {p1 : Option Addr} {l1 c1 : Nat} {s2 : Int} {p2 : Option Addr} {l2 c2 : Nat} (ho : o.op = .store 44 t x) (he : ρ t = .pointer (some ⟨T, 0, none⟩)) (hx : ρ x = .agg #[.int .i64 s1, .slice p1 l1 c1, .int .i64 s2, .slice p2 l2 c2]) (h : R4 T w) :
    (execOp ρ o).run Tryz.prog w = .ok .skip (st4r w T (.int .i64 s1) (.slice p1 l1 c1) (.int .i64 s2) (.slice p2 l2 c2)) := by
  obtain ⟨_, _, _, _, _, _, _, _, m1, m2, m3, m4, m5, m6, m7, m8⟩ := h.cells
  unfold execOp; rw [ho]; simp [go_sem, he, hx, m1, m2, m3, m4, m5, m6, m7, m8]
theorem rn_build44 {s1 : Int} {p1 : Option Addr} {l1 c1 : Nat} {s2 : Int} {p2 : Option Addr} {l2 c2 : Nat} (ho : o.op = .build 44 #[(0, x), (1, y)]) (h1 : ρ x = .agg #[.int .i64 s1, .slice p1 l1 c1]) (h2 : ρ y = .agg #[.int .i64 s2, .slice p2 l2 c2]) :
    (execOp ρ o).run Tryz.prog w = .ok (.value (.agg #[.int .i64 s1, .slice p1 l1 c1, .int .i64 s2, .slice p2 l2 c2])) w := by
  unfold execOp; rw [ho]; simp [go_sem, h1, h2]
theorem rn_alloc44 (ho : o.op = .alloc 44) : (execOp ρ o).run Tryz.prog w = .ok (.value (.pointer (some ⟨w.heap.size, 0, none⟩))) (w.alloc (.cells #[.int .i64 0, .slice none 0 0, .int .i64 0, .slice none 0 0] 44)) := by
  unfold execOp; rw [ho]; simp [go_sem]
end
theorem cf93' : CF 93 := fun W args => by go_simp
/-- the boxes of OfZ -/
structure O9 (w0 : World) (n d : Int) (w : World) : Prop where
  k : Below w0.heap.size w0 w
  a : Hr w0.heap.size n w
  b : Hr (w0.heap.size + 1) d w
  t : R4 (w0.heap.size + 1 + 1) w
theorem O9.keep {w0 w w' : World} {n d : Int} (h : O9 w0 n d w) (hb : Below w.heap.size w w') : O9 w0 n d w' := ⟨Below.thru h.k h.k.size hb, h.a.keep hb, h.b.keep hb, h.t.keep hb⟩
theorem O9.putA {w0 : World} {A B A' : Int} {w : World} (h : O9 w0 A B w) {s : Int} {p : Option Addr} {l c : Nat} (hz : RZ w (.agg #[.int .i64 s, .slice p l c]) A') : O9 w0 A' B (st2 w w0.heap.size (.int .i64 s) (.slice p l c)) := by
  obtain ⟨_, _, _, _, hB, _⟩ := h.a
  have hg := grown2 w w0.heap.size 0 1 (.int .i64 s) (.slice p l c)
  exact ⟨below2 h.k (Nat.le_refl _) _ _, Hr.stored hB hz, h.b.st hB.noI hg (by omega), h.t.other hg (by omega)⟩
theorem O9.putB {w0 : World} {A B B' : Int} {w : World} (h : O9 w0 A B w) {s : Int} {p : Option Addr} {l c : Nat} (hz : RZ w (.agg #[.int .i64 s, .slice p l c]) B') : O9 w0 A B' (st2 w (w0.heap.size + 1) (.int .i64 s) (.slice p l c)) := by
  obtain ⟨_, _, _, _, hB, _⟩ := h.b
  have hg := grown2 w (w0.heap.size + 1) 0 1 (.int .i64 s) (.slice p l c)
  exact ⟨below2 h.k (by omega) _ _, h.a.st hB.noI hg (by omega), Hr.stored hB hz, h.t.other hg (by omega)⟩
theorem Sr.neg {z : Int} (h : Sr z) : Sr (-z) := Sr.le h (by rw [Int.natAbs_neg]; omega)
def D29 (t : Nat) : Bool := Nat.ble 9 t && Nat.ble t 12
def tab29 (y z : Int) (t : Nat) : Kd := [.r y, .r (-y), .r z, .r (-z)].getD (t - 9) .any
def E29 (t : Nat) : Bool := Nat.ble 16 t && Nat.ble t 19
def tub29 (g : Int) (t : Nat) : Kd := [.r g, .r 1, ki (g - 1).sign, .v (.bool (decide (0 < (g - 1).sign)))].getD (t - 16) .any
/-- OfZ of the reference, of a number over a positive one -/
def YY (y z : Int) : Int := if z < 0 then -y else y
end Go.Proofs.YtjjomjjgoceklaaGreat
