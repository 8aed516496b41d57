import Derived.Test.YtjjomjjgoceklaaGreatKca
import Derived.Test.YtjjomjjgoceklaaGreatVj
import Derived.Test.YtjjomjjgoceklaaGreatVd
namespace Go.Proofs.YtjjomjjgoceklaaGreat
set_option maxRecDepth 100000
open Go.RowKit

/-! the laws of regions in the order of their text -/
section
variable {P : Program} {ops : Array Oper} {Q : Exit → Act → World → Prop}
end
end Go.Proofs.YtjjomjjgoceklaaGreat
namespace Go.Proofs.YtjjomjjgoceklaaGreat
set_option maxRecDepth 100000
open Go.RowKit

/-! pairs in boxes; pair, Dot, Cross, parts, Scale in both ways -/
def Vv (w : World) (v : Value) (a b : Rat) : Prop := ∃ (s1 : Bool) (x1 : Int) (p1 : Option Addr) (y1 : Int) (q1 : Option Addr) (s2 : Bool) (x2 : Int) (p2 : Option Addr) (y2 : Int) (q2 : Option Addr), v = .agg #[.bool s1, .int .u64 x1, .pointer p1, .int .u64 y1, .pointer q1, .bool s2, .int .u64 x2, .pointer p2, .int .u64 y2, .pointer q2] ∧ Rr w (.agg #[.bool s1, .int .u64 x1, .pointer p1, .int .u64 y1, .pointer q1]) a.num a.den ∧ Rr w (.agg #[.bool s2, .int .u64 x2, .pointer p2, .int .u64 y2, .pointer q2]) b.num b.den
def RVv (w : World) (v : Value) (a b : Rat) : Prop := ∃ (t1 : Int) (f1 : Option Addr) (l1 c1 : Nat) (u1 : Int) (hh1 : Option Addr) (m1 cc1 : Nat) (t2 : Int) (f2 : Option Addr) (l2 c2 : Nat) (u2 : Int) (hh2 : Option Addr) (m2 cc2 : Nat), v = .agg #[.int .i64 t1, .slice f1 l1 c1, .int .i64 u1, .slice hh1 m1 cc1, .int .i64 t2, .slice f2 l2 c2, .int .i64 u2, .slice hh2 m2 cc2] ∧ RRv w (.agg #[.int .i64 t1, .slice f1 l1 c1, .int .i64 u1, .slice hh1 m1 cc1]) a.num (a.den : Int) ∧ RRv w (.agg #[.int .i64 t2, .slice f2 l2 c2, .int .i64 u2, .slice hh2 m2 cc2]) b.num (b.den : Int)
theorem Vv.keep {w w' : World} {v : Value} {a b : Rat} {B : Nat} (h : Vv w v a b) (hb : Below B w w') (hB : w.heap.size ≤ B) : Vv w' v a b := by
  obtain ⟨s1, x1, p1, y1, q1, s2, x2, p2, y2, q2, e, h1, h2⟩ := h
  exact ⟨s1, x1, p1, y1, q1, s2, x2, p2, y2, q2, e, h1.keep hb hB, h2.keep hb hB⟩
theorem Vv.store {w w' : World} {v : Value} {a b : Rat} {T : Nat} (h : Vv w v a b) (hT : Odd T w) (hg : w.grownBy w' (some T)) : Vv w' v a b := by
  obtain ⟨s1, x1, p1, y1, q1, s2, x2, p2, y2, q2, e, h1, h2⟩ := h
  exact ⟨s1, x1, p1, y1, q1, s2, x2, p2, y2, q2, e, h1.store hT hg, h2.store hT hg⟩
theorem RVv.keep {w w' : World} {v : Value} {a b : Rat} {B : Nat} (h : RVv w v a b) (hb : Below B w w') (hB : w.heap.size ≤ B) : RVv w' v a b := by
  obtain ⟨t1, f1, l1, c1, u1, hh1, m1, cc1, t2, f2, l2, c2, u2, hh2, m2, cc2, e, h1, h2⟩ := h
  exact ⟨t1, f1, l1, c1, u1, hh1, m1, cc1, t2, f2, l2, c2, u2, hh2, m2, cc2, e, h1.keep hb hB, h2.keep hb hB⟩
theorem RVv.store {w w' : World} {v : Value} {a b : Rat} {T : Nat} (h : RVv w v a b) (hT : NoI w T) (hg : w.grownBy w' (some T)) : RVv w' v a b := by
  obtain ⟨t1, f1, l1, c1, u1, hh1, m1, cc1, t2, f2, l2, c2, u2, hh2, m2, cc2, e, h1, h2⟩ := h
  exact ⟨t1, f1, l1, c1, u1, hh1, m1, cc1, t2, f2, l2, c2, u2, hh2, m2, cc2, e, h1.store hT hg, h2.store hT hg⟩
theorem Vv.agg {w : World} {v : Value} {a b : Rat} (h : Vv w v a b) : ∃ (s1 : Bool) (x1 : Int) (p1 : Option Addr) (y1 : Int) (q1 : Option Addr) (s2 : Bool) (x2 : Int) (p2 : Option Addr) (y2 : Int) (q2 : Option Addr), v = .agg #[.bool s1, .int .u64 x1, .pointer p1, .int .u64 y1, .pointer q1, .bool s2, .int .u64 x2, .pointer p2, .int .u64 y2, .pointer q2] := by
  obtain ⟨s1, x1, p1, y1, q1, s2, x2, p2, y2, q2, e, _⟩ := h
  exact ⟨s1, x1, p1, y1, q1, s2, x2, p2, y2, q2, e⟩
theorem RVv.agg {w : World} {v : Value} {a b : Rat} (h : RVv w v a b) : ∃ (t1 : Int) (f1 : Option Addr) (l1 c1 : Nat) (u1 : Int) (hh1 : Option Addr) (m1 cc1 : Nat) (t2 : Int) (f2 : Option Addr) (l2 c2 : Nat) (u2 : Int) (hh2 : Option Addr) (m2 cc2 : Nat), v = .agg #[.int .i64 t1, .slice f1 l1 c1, .int .i64 u1, .slice hh1 m1 cc1, .int .i64 t2, .slice f2 l2 c2, .int .i64 u2, .slice hh2 m2 cc2] := by
  obtain ⟨t1, f1, l1, c1, u1, hh1, m1, cc1, t2, f2, l2, c2, u2, hh2, m2, cc2, e, _⟩ := h
  exact ⟨t1, f1, l1, c1, u1, hh1, m1, cc1, t2, f2, l2, c2, u2, hh2, m2, cc2, e⟩
/-- boxes of pairs, whatever they hold -/
def B10 (T : Nat) (w : World) : Prop := ∃ (s1 : Bool) (x1 : Int) (p1 : Option Addr) (y1 : Int) (q1 : Option Addr) (s2 : Bool) (x2 : Int) (p2 : Option Addr) (y2 : Int) (q2 : Option Addr), w.heap[T]? = some (.cells #[.bool s1, .int .u64 x1, .pointer p1, .int .u64 y1, .pointer q1, .bool s2, .int .u64 x2, .pointer p2, .int .u64 y2, .pointer q2] 84 (0, 0))
def B8 (T : Nat) (w : World) : Prop := ∃ (t1 : Int) (f1 : Option Addr) (l1 c1 : Nat) (u1 : Int) (hh1 : Option Addr) (m1 cc1 : Nat) (t2 : Int) (f2 : Option Addr) (l2 c2 : Nat) (u2 : Int) (hh2 : Option Addr) (m2 cc2 : Nat), w.heap[T]? = some (.cells #[.int .i64 t1, .slice f1 l1 c1, .int .i64 u1, .slice hh1 m1 cc1, .int .i64 t2, .slice f2 l2 c2, .int .i64 u2, .slice hh2 m2 cc2] 86 (0, 0))
theorem B10.lt {T : Nat} {w : World} (h : B10 T w) : T < w.heap.size := by obtain ⟨s1, x1, p1, y1, q1, s2, x2, p2, y2, q2, h⟩ := h; exact blk_lt h
theorem B10.keep {T : Nat} {w w' : World} (h : B10 T w) (hb : Below w.heap.size w w') : B10 T w' := by obtain ⟨s1, x1, p1, y1, q1, s2, x2, p2, y2, q2, h⟩ := h; exact ⟨s1, x1, p1, y1, q1, s2, x2, p2, y2, q2, blk_keep h hb⟩
theorem B10.other {T U : Nat} {w w' : World} (h : B10 T w) (hg : w.grownBy w' (some U)) (hne : T ≠ U) : B10 T w' := by obtain ⟨s1, x1, p1, y1, q1, s2, x2, p2, y2, q2, h⟩ := h; exact ⟨s1, x1, p1, y1, q1, s2, x2, p2, y2, q2, blk_other h hg hne⟩
theorem B10.noI {T : Nat} {w : World} (h : B10 T w) : NoI w T := by obtain ⟨s1, x1, p1, y1, q1, s2, x2, p2, y2, q2, h⟩ := h; exact ⟨_, _, _, h, by decide⟩
theorem B10.odd {T : Nat} {w : World} (h : B10 T w) : Odd T w := by
  obtain ⟨s1, x1, p1, y1, q1, s2, x2, p2, y2, q2, h⟩ := h
  have hc : ∀ o, w.cell? ⟨T, o, none⟩ = (#[Value.bool s1, .int .u64 x1, .pointer p1, .int .u64 y1, .pointer q1, .bool s2, .int .u64 x2, .pointer p2, .int .u64 y2, .pointer q2] : Array Value)[o]? := fun o => by simp [World.cell?, h]
  refine ⟨fun o x' y' h1 h2 => ?_, fun p l c h1 => ?_⟩
  · rw [hc] at h1 h2
    match o with
    | 0 => simp at h1
    | 1 => simp at h2
    | 2 => simp at h1
    | 3 => simp at h2
    | 4 => simp at h1
    | 5 => simp at h1
    | 6 => simp at h2
    | 7 => simp at h1
    | 8 => simp at h2
    | 9 => simp at h1
    | o + 10 => simp at h1
  · rw [hc] at h1; simp at h1
theorem B10.cells {T : Nat} {w : World} (h : B10 T w) : ∃ (s1 : Bool) (x1 : Int) (p1 : Option Addr) (y1 : Int) (q1 : Option Addr) (s2 : Bool) (x2 : Int) (p2 : Option Addr) (y2 : Int) (q2 : Option Addr), w.cell? ⟨T, 0, none⟩ = some (.bool s1) ∧ w.cell? ⟨T, 1, none⟩ = some (.int .u64 x1) ∧ w.cell? ⟨T, 2, none⟩ = some (.pointer p1) ∧ w.cell? ⟨T, 3, none⟩ = some (.int .u64 y1) ∧ w.cell? ⟨T, 4, none⟩ = some (.pointer q1) ∧ w.cell? ⟨T, 5, none⟩ = some (.bool s2) ∧ w.cell? ⟨T, 6, none⟩ = some (.int .u64 x2) ∧ w.cell? ⟨T, 7, none⟩ = some (.pointer p2) ∧ w.cell? ⟨T, 8, none⟩ = some (.int .u64 y2) ∧ w.cell? ⟨T, 9, none⟩ = some (.pointer q2) ∧ w.frozen? ⟨T, 0, none⟩ = false ∧ w.frozen? ⟨T, 1, none⟩ = false ∧ w.frozen? ⟨T, 2, none⟩ = false ∧ w.frozen? ⟨T, 3, none⟩ = false ∧ w.frozen? ⟨T, 4, none⟩ = false ∧ w.frozen? ⟨T, 5, none⟩ = false ∧ w.frozen? ⟨T, 6, none⟩ = false ∧ w.frozen? ⟨T, 7, none⟩ = false ∧ w.frozen? ⟨T, 8, none⟩ = false ∧ w.frozen? ⟨T, 9, none⟩ = false := by
  obtain ⟨s1, x1, p1, y1, q1, s2, x2, p2, y2, q2, h⟩ := h
  refine ⟨s1, x1, p1, y1, q1, s2, x2, p2, y2, q2, ?_, ?_, ?_, ?_, ?_, ?_, ?_, ?_, ?_, ?_, ?_, ?_, ?_, ?_, ?_, ?_, ?_, ?_, ?_, ?_⟩ <;> simp [World.cell?, World.frozen?, h]
@[reducible] def st10 (w : World) (T : Nat) (v0 v1 v2 v3 v4 v5 v6 v7 v8 v9 : Value) : World := (((((((((w.setCell ⟨T, 0, none⟩ v0).setCell ⟨T, 1, none⟩ v1).setCell ⟨T, 2, none⟩ v2).setCell ⟨T, 3, none⟩ v3).setCell ⟨T, 4, none⟩ v4).setCell ⟨T, 5, none⟩ v5).setCell ⟨T, 6, none⟩ v6).setCell ⟨T, 7, none⟩ v7).setCell ⟨T, 8, none⟩ v8).setCell ⟨T, 9, none⟩ v9
theorem grown10 (w : World) (T : Nat) (v0 v1 v2 v3 v4 v5 v6 v7 v8 v9 : Value) : w.grownBy (st10 w T v0 v1 v2 v3 v4 v5 v6 v7 v8 v9) (some T) := only_setCell (p := ⟨T, 9, none⟩) (only_setCell (p := ⟨T, 8, none⟩) (only_setCell (p := ⟨T, 7, none⟩) (only_setCell (p := ⟨T, 6, none⟩) (only_setCell (p := ⟨T, 5, none⟩) (only_setCell (p := ⟨T, 4, none⟩) (only_setCell (p := ⟨T, 3, none⟩) (grown3 w T 0 1 2 v0 v1 v2) rfl _) rfl _) rfl _) rfl _) rfl _) rfl _) rfl _
theorem B8.lt {T : Nat} {w : World} (h : B8 T w) : T < w.heap.size := by obtain ⟨t1, f1, l1, c1, u1, hh1, m1, cc1, t2, f2, l2, c2, u2, hh2, m2, cc2, h⟩ := h; exact blk_lt h
theorem B8.keep {T : Nat} {w w' : World} (h : B8 T w) (hb : Below w.heap.size w w') : B8 T w' := by obtain ⟨t1, f1, l1, c1, u1, hh1, m1, cc1, t2, f2, l2, c2, u2, hh2, m2, cc2, h⟩ := h; exact ⟨t1, f1, l1, c1, u1, hh1, m1, cc1, t2, f2, l2, c2, u2, hh2, m2, cc2, blk_keep h hb⟩
theorem B8.other {T U : Nat} {w w' : World} (h : B8 T w) (hg : w.grownBy w' (some U)) (hne : T ≠ U) : B8 T w' := by obtain ⟨t1, f1, l1, c1, u1, hh1, m1, cc1, t2, f2, l2, c2, u2, hh2, m2, cc2, h⟩ := h; exact ⟨t1, f1, l1, c1, u1, hh1, m1, cc1, t2, f2, l2, c2, u2, hh2, m2, cc2, blk_other h hg hne⟩
theorem B8.noI {T : Nat} {w : World} (h : B8 T w) : NoI w T := by obtain ⟨t1, f1, l1, c1, u1, hh1, m1, cc1, t2, f2, l2, c2, u2, hh2, m2, cc2, h⟩ := h; exact ⟨_, _, _, h, by decide⟩
theorem B8.odd {T : Nat} {w : World} (h : B8 T w) : Odd T w := by
  obtain ⟨t1, f1, l1, c1, u1, hh1, m1, cc1, t2, f2, l2, c2, u2, hh2, m2, cc2, h⟩ := h
  have hc : ∀ o, w.cell? ⟨T, o, none⟩ = (#[Value.int .i64 t1, .slice f1 l1 c1, .int .i64 u1, .slice hh1 m1 cc1, .int .i64 t2, .slice f2 l2 c2, .int .i64 u2, .slice hh2 m2 cc2] : Array Value)[o]? := fun o => by simp [World.cell?, h]
  refine ⟨fun o x' y' h1 h2 => ?_, fun p l c h1 => ?_⟩
  · rw [hc] at h1 h2
    match o with
    | 0 => simp at h1
    | 1 => simp at h2
    | 2 => simp at h1
    | 3 => simp at h2
    | 4 => simp at h1
    | 5 => simp at h2
    | 6 => simp at h1
    | 7 => simp at h2
    | o + 8 => simp at h1
  · rw [hc] at h1; simp at h1
theorem B8.cells {T : Nat} {w : World} (h : B8 T w) : ∃ (t1 : Int) (f1 : Option Addr) (l1 c1 : Nat) (u1 : Int) (hh1 : Option Addr) (m1 cc1 : Nat) (t2 : Int) (f2 : Option Addr) (l2 c2 : Nat) (u2 : Int) (hh2 : Option Addr) (m2 cc2 : Nat), w.cell? ⟨T, 0, none⟩ = some (.int .i64 t1) ∧ w.cell? ⟨T, 1, none⟩ = some (.slice f1 l1 c1) ∧ w.cell? ⟨T, 2, none⟩ = some (.int .i64 u1) ∧ w.cell? ⟨T, 3, none⟩ = some (.slice hh1 m1 cc1) ∧ w.cell? ⟨T, 4, none⟩ = some (.int .i64 t2) ∧ w.cell? ⟨T, 5, none⟩ = some (.slice f2 l2 c2) ∧ w.cell? ⟨T, 6, none⟩ = some (.int .i64 u2) ∧ w.cell? ⟨T, 7, none⟩ = some (.slice hh2 m2 cc2) ∧ w.frozen? ⟨T, 0, none⟩ = false ∧ w.frozen? ⟨T, 1, none⟩ = false ∧ w.frozen? ⟨T, 2, none⟩ = false ∧ w.frozen? ⟨T, 3, none⟩ = false ∧ w.frozen? ⟨T, 4, none⟩ = false ∧ w.frozen? ⟨T, 5, none⟩ = false ∧ w.frozen? ⟨T, 6, none⟩ = false ∧ w.frozen? ⟨T, 7, none⟩ = false := by
  obtain ⟨t1, f1, l1, c1, u1, hh1, m1, cc1, t2, f2, l2, c2, u2, hh2, m2, cc2, h⟩ := h
  refine ⟨t1, f1, l1, c1, u1, hh1, m1, cc1, t2, f2, l2, c2, u2, hh2, m2, cc2, ?_, ?_, ?_, ?_, ?_, ?_, ?_, ?_, ?_, ?_, ?_, ?_, ?_, ?_, ?_, ?_⟩ <;> simp [World.cell?, World.frozen?, h]
@[reducible] def st8 (w : World) (T : Nat) (v0 v1 v2 v3 v4 v5 v6 v7 : Value) : World := (((((((w.setCell ⟨T, 0, none⟩ v0).setCell ⟨T, 1, none⟩ v1).setCell ⟨T, 2, none⟩ v2).setCell ⟨T, 3, none⟩ v3).setCell ⟨T, 4, none⟩ v4).setCell ⟨T, 5, none⟩ v5).setCell ⟨T, 6, none⟩ v6).setCell ⟨T, 7, none⟩ v7
theorem grown8 (w : World) (T : Nat) (v0 v1 v2 v3 v4 v5 v6 v7 : Value) : w.grownBy (st8 w T v0 v1 v2 v3 v4 v5 v6 v7) (some T) := only_setCell (p := ⟨T, 7, none⟩) (only_setCell (p := ⟨T, 6, none⟩) (only_setCell (p := ⟨T, 5, none⟩) (only_setCell (p := ⟨T, 4, none⟩) (only_setCell (p := ⟨T, 3, none⟩) (grown3 w T 0 1 2 v0 v1 v2) rfl _) rfl _) rfl _) rfl _) rfl _
/-- a box with a pair -/
def Hvv (T : Nat) (a b : Rat) (w : World) : Prop := ∃ (s1 : Bool) (x1 : Int) (p1 : Option Addr) (y1 : Int) (q1 : Option Addr) (s2 : Bool) (x2 : Int) (p2 : Option Addr) (y2 : Int) (q2 : Option Addr), w.heap[T]? = some (.cells #[.bool s1, .int .u64 x1, .pointer p1, .int .u64 y1, .pointer q1, .bool s2, .int .u64 x2, .pointer p2, .int .u64 y2, .pointer q2] 84 (0, 0)) ∧ Vv w (.agg #[.bool s1, .int .u64 x1, .pointer p1, .int .u64 y1, .pointer q1, .bool s2, .int .u64 x2, .pointer p2, .int .u64 y2, .pointer q2]) a b
theorem Hvv.keep {T : Nat} {a b : Rat} {w w' : World} (h : Hvv T a b w) (hb : Below w.heap.size w w') : Hvv T a b w' := by
  obtain ⟨s1, x1, p1, y1, q1, s2, x2, p2, y2, q2, h1, h2⟩ := h
  exact ⟨s1, x1, p1, y1, q1, s2, x2, p2, y2, q2, blk_keep h1 hb, h2.keep hb (Nat.le_refl _)⟩
theorem Hvv.bx {T : Nat} {a b : Rat} {w : World} (h : Hvv T a b w) : B10 T w := by
  obtain ⟨s1, x1, p1, y1, q1, s2, x2, p2, y2, q2, h1, h2⟩ := h
  exact ⟨s1, x1, p1, y1, q1, s2, x2, p2, y2, q2, h1⟩
theorem Hvv.new {w : World} {a b : Rat} {s1 : Bool} {x1 : Int} {p1 : Option Addr} {y1 : Int} {q1 : Option Addr} {s2 : Bool} {x2 : Int} {p2 : Option Addr} {y2 : Int} {q2 : Option Addr} (h : Vv w (.agg #[.bool s1, .int .u64 x1, .pointer p1, .int .u64 y1, .pointer q1, .bool s2, .int .u64 x2, .pointer p2, .int .u64 y2, .pointer q2]) a b) : Hvv w.heap.size a b (w.alloc (.cells #[.bool s1, .int .u64 x1, .pointer p1, .int .u64 y1, .pointer q1, .bool s2, .int .u64 x2, .pointer p2, .int .u64 y2, .pointer q2] 84)) :=
  ⟨s1, x1, p1, y1, q1, s2, x2, p2, y2, q2, Go.Deep.blk_alloc_new _ _, h.keep (bl1 _ _) (Nat.le_refl _)⟩
theorem Hvv.stored {T : Nat} {w : World} {a b : Rat} {s1 : Bool} {x1 : Int} {p1 : Option Addr} {y1 : Int} {q1 : Option Addr} {s2 : Bool} {x2 : Int} {p2 : Option Addr} {y2 : Int} {q2 : Option Addr} (hT : B10 T w) (h : Vv w (.agg #[.bool s1, .int .u64 x1, .pointer p1, .int .u64 y1, .pointer q1, .bool s2, .int .u64 x2, .pointer p2, .int .u64 y2, .pointer q2]) a b) : Hvv T a b (st10 w T (.bool s1) (.int .u64 x1) (.pointer p1) (.int .u64 y1) (.pointer q1) (.bool s2) (.int .u64 x2) (.pointer p2) (.int .u64 y2) (.pointer q2)) := by
  refine ⟨s1, x1, p1, y1, q1, s2, x2, p2, y2, q2, ?_, h.store hT.odd (grown10 _ _ _ _ _ _ _ _ _ _ _ _)⟩
  obtain ⟨_, _, _, _, _, _, _, _, _, _, hT⟩ := hT
  simp [World.setCell, Array.getElem?_modify, hT]
theorem Hvv.st {T U : Nat} {a b : Rat} {w w' : World} (h : Hvv T a b w) (hU : Odd U w) (hg : w.grownBy w' (some U)) (hne : T ≠ U) : Hvv T a b w' := by
  obtain ⟨s1, x1, p1, y1, q1, s2, x2, p2, y2, q2, h1, h2⟩ := h
  exact ⟨s1, x1, p1, y1, q1, s2, x2, p2, y2, q2, blk_other h1 hg hne, h2.store hU hg⟩
section
variable {ρ : Operand → Value} {o : Oper} {w : World} {t z1 z2 : Operand}
end
/-- a box with a pair -/
def HV (T : Nat) (a b : Rat) (w : World) : Prop := ∃ (t1 : Int) (f1 : Option Addr) (l1 c1 : Nat) (u1 : Int) (hh1 : Option Addr) (m1 cc1 : Nat) (t2 : Int) (f2 : Option Addr) (l2 c2 : Nat) (u2 : Int) (hh2 : Option Addr) (m2 cc2 : Nat), w.heap[T]? = some (.cells #[.int .i64 t1, .slice f1 l1 c1, .int .i64 u1, .slice hh1 m1 cc1, .int .i64 t2, .slice f2 l2 c2, .int .i64 u2, .slice hh2 m2 cc2] 86 (0, 0)) ∧ RVv w (.agg #[.int .i64 t1, .slice f1 l1 c1, .int .i64 u1, .slice hh1 m1 cc1, .int .i64 t2, .slice f2 l2 c2, .int .i64 u2, .slice hh2 m2 cc2]) a b
theorem HV.keep {T : Nat} {a b : Rat} {w w' : World} (h : HV T a b w) (hb : Below w.heap.size w w') : HV T a b w' := by
  obtain ⟨t1, f1, l1, c1, u1, hh1, m1, cc1, t2, f2, l2, c2, u2, hh2, m2, cc2, h1, h2⟩ := h
  exact ⟨t1, f1, l1, c1, u1, hh1, m1, cc1, t2, f2, l2, c2, u2, hh2, m2, cc2, blk_keep h1 hb, h2.keep hb (Nat.le_refl _)⟩
theorem HV.bx {T : Nat} {a b : Rat} {w : World} (h : HV T a b w) : B8 T w := by
  obtain ⟨t1, f1, l1, c1, u1, hh1, m1, cc1, t2, f2, l2, c2, u2, hh2, m2, cc2, h1, h2⟩ := h
  exact ⟨t1, f1, l1, c1, u1, hh1, m1, cc1, t2, f2, l2, c2, u2, hh2, m2, cc2, h1⟩
theorem HV.new {w : World} {a b : Rat} {t1 : Int} {f1 : Option Addr} {l1 c1 : Nat} {u1 : Int} {hh1 : Option Addr} {m1 cc1 : Nat} {t2 : Int} {f2 : Option Addr} {l2 c2 : Nat} {u2 : Int} {hh2 : Option Addr} {m2 cc2 : Nat} (h : RVv w (.agg #[.int .i64 t1, .slice f1 l1 c1, .int .i64 u1, .slice hh1 m1 cc1, .int .i64 t2, .slice f2 l2 c2, .int .i64 u2, .slice hh2 m2 cc2]) a b) : HV w.heap.size a b (w.alloc (.cells #[.int .i64 t1, .slice f1 l1 c1, .int .i64 u1, .slice hh1 m1 cc1, .int .i64 t2, .slice f2 l2 c2, .int .i64 u2, .slice hh2 m2 cc2] 86)) :=
  ⟨t1, f1, l1, c1, u1, hh1, m1, cc1, t2, f2, l2, c2, u2, hh2, m2, cc2, Go.Deep.blk_alloc_new _ _, h.keep (bl1 _ _) (Nat.le_refl _)⟩
theorem HV.stored {T : Nat} {w : World} {a b : Rat} {t1 : Int} {f1 : Option Addr} {l1 c1 : Nat} {u1 : Int} {hh1 : Option Addr} {m1 cc1 : Nat} {t2 : Int} {f2 : Option Addr} {l2 c2 : Nat} {u2 : Int} {hh2 : Option Addr} {m2 cc2 : Nat} (hT : B8 T w) (h : RVv w (.agg #[.int .i64 t1, .slice f1 l1 c1, .int .i64 u1, .slice hh1 m1 cc1, .int .i64 t2, .slice f2 l2 c2, .int .i64 u2, .slice hh2 m2 cc2]) a b) : HV T a b (st8 w T (.int .i64 t1) (.slice f1 l1 c1) (.int .i64 u1) (.slice hh1 m1 cc1) (.int .i64 t2) (.slice f2 l2 c2) (.int .i64 u2) (.slice hh2 m2 cc2)) := by
  refine ⟨t1, f1, l1, c1, u1, hh1, m1, cc1, t2, f2, l2, c2, u2, hh2, m2, cc2, ?_, h.store hT.noI (grown8 _ _ _ _ _ _ _ _ _ _)⟩
  obtain ⟨_, _, _, _, _, _, _, _, _, _, _, _, _, _, _, _, hT⟩ := hT
  simp [World.setCell, Array.getElem?_modify, hT]
theorem HV.st {T U : Nat} {a b : Rat} {w w' : World} (h : HV T a b w) (hU : NoI w U) (hg : w.grownBy w' (some U)) (hne : T ≠ U) : HV T a b w' := by
  obtain ⟨t1, f1, l1, c1, u1, hh1, m1, cc1, t2, f2, l2, c2, u2, hh2, m2, cc2, h1, h2⟩ := h
  exact ⟨t1, f1, l1, c1, u1, hh1, m1, cc1, t2, f2, l2, c2, u2, hh2, m2, cc2, blk_other h1 hg hne, h2.store hU hg⟩
section
variable {ρ : Operand → Value} {o : Oper} {w : World} {t z1 z2 : Operand}
end
section
variable {ρ : Operand → Value} {o : Oper} {w : World} {t z1 z2 : Operand}
end
def kvv (a b : Rat) : Kd := .c (fun v w => Vv w v a b) fun _ _ _ h hb => h.keep hb (Nat.le_refl _)
def PVv (a b : Rat) (w : World) (e : Ending) (w' : World) : Prop := Below w.heap.size w w' ∧ ∃ v, e = .returned v ∧ Vv w' v a b
theorem PVv.kd {a b : Rat} {w : World} {g : FuncId} {args : Array Value} (h : Calls Tryz.prog g args w (PVv a b w)) : Calls Tryz.prog g args w fun e w' => ∃ v, e = .returned v ∧ (Below w.heap.size w w' ∧ Go.Proofs.YtjjomjjgoceklaaGreat.kd (kvv a b) v w') := h.mono fun _ _ ⟨hb, v, he, hv⟩ => ⟨v, he, hb, hv⟩
/-! Dot, Cross of rationals -/
/-! pair -/
structure PB4 (w0 : World) (a b : Rat) (T1 T2 T3 T4 : Nat) (w : World) : Prop where
  k : Below w0.heap.size w0 w
  u : B10 (w0.heap.size + 1 + 1) w
  v : B8 (w0.heap.size + 1 + 1 + 1) w
  qa : Hq T1 a.num a.den w
  ra : HR T2 a.num (a.den : Int) w
  qb : Hq T3 b.num b.den w
  rb : HR T4 b.num (b.den : Int) w
theorem PB4.keep {w0 w w' : World} {a b : Rat} {T1 T2 T3 T4 : Nat} (h : PB4 w0 a b T1 T2 T3 T4 w) (hb : Below w.heap.size w w') : PB4 w0 a b T1 T2 T3 T4 w' :=
  ⟨Below.thru h.k h.k.size hb, h.u.keep hb, h.v.keep hb, h.qa.keep hb, h.ra.keep hb, h.qb.keep hb, h.rb.keep hb⟩
/-! parts -/
theorem Hvv.x {T : Nat} {a b : Rat} {w : World} (h : Hvv T a b w) : Vq T 0 a.num a.den w := by
  obtain ⟨s1, x1, p1, y1, q1, s2, x2, p2, y2, q2, hB, hv⟩ := h
  obtain ⟨_, _, _, _, _, _, _, _, _, _, e, g1, _⟩ := hv
  simp only [Value.agg.injEq, Array.mk.injEq, List.cons.injEq, and_true, Value.bool.injEq, Value.int.injEq, Value.pointer.injEq, true_and] at e
  obtain ⟨rfl, rfl, rfl, rfl, rfl, rfl, rfl, rfl, rfl, rfl⟩ := e
  exact ⟨_, _, _, _, _, ⟨_, _, hB, fun i hi => by rcases i with _ | _ | _ | _ | _ | i <;> first | rfl | omega⟩, g1⟩
theorem Hvv.z {T : Nat} {a b : Rat} {w : World} (h : Hvv T a b w) : Vq T 5 b.num b.den w := by
  obtain ⟨s1, x1, p1, y1, q1, s2, x2, p2, y2, q2, hB, hv⟩ := h
  obtain ⟨_, _, _, _, _, _, _, _, _, _, e, _, g1⟩ := hv
  simp only [Value.agg.injEq, Array.mk.injEq, List.cons.injEq, and_true, Value.bool.injEq, Value.int.injEq, Value.pointer.injEq, true_and] at e
  obtain ⟨rfl, rfl, rfl, rfl, rfl, rfl, rfl, rfl, rfl, rfl⟩ := e
  exact ⟨_, _, _, _, _, ⟨_, _, hB, fun i hi => by rcases i with _ | _ | _ | _ | _ | i <;> first | rfl | omega⟩, g1⟩
structure SP (w0 : World) (a b c d : Rat) (w : World) : Prop where
  k : Below w0.heap.size w0 w
  u : Hvv w0.heap.size a b w
  v : Hvv (w0.heap.size + 1) c d w
  t : B10 (w0.heap.size + 1 + 1) w
theorem SP.keep {w0 w w' : World} {a b c d : Rat} (h : SP w0 a b c d w) (hb : Below w.heap.size w w') : SP w0 a b c d w' := ⟨Below.thru h.k h.k.size hb, h.u.keep hb, h.v.keep hb, h.t.keep hb⟩
/-! Scale -/
structure SS66 (w0 : World) (a b k : Rat) (w : World) : Prop where
  kb : Below w0.heap.size w0 w
  u : Hvv w0.heap.size a b w
  v : Hq (w0.heap.size + 1) k.num k.den w
  t : B10 (w0.heap.size + 1 + 1) w
theorem SS66.keep {w0 w w' : World} {a b k : Rat} (h : SS66 w0 a b k w) (hb : Below w.heap.size w w') : SS66 w0 a b k w' := ⟨Below.thru h.kb h.kb.size hb, h.u.keep hb, h.v.keep hb, h.t.keep hb⟩
end Go.Proofs.YtjjomjjgoceklaaGreat
