import Derived.Test.YtjjomjjgoceklaaGreatVn
import Derived.Test.YtjjomjjgoceklaaGreatVl
namespace Go.Proofs.YtjjomjjgoceklaaGreat
set_option maxRecDepth 100000
open Go.RowKit

/-! pairs of the reference's ratios; its functions on them; V.Add, V.Sub, V.Same -/
def RVA (w : World) (v : Value) (a b : Rat) : Prop := ∃ (t1 : Int) (f1 : Option Addr) (l1 c1 : Nat) (u1 : Int) (hh1 : Option Addr) (m1 cc1 : Nat) (t2 : Int) (f2 : Option Addr) (l2 c2 : Nat) (u2 : Int) (hh2 : Option Addr) (m2 cc2 : Nat), v = .agg #[.int .i64 t1, .slice f1 l1 c1, .int .i64 u1, .slice hh1 m1 cc1, .int .i64 t2, .slice f2 l2 c2, .int .i64 u2, .slice hh2 m2 cc2] ∧ RA w (.agg #[.int .i64 t1, .slice f1 l1 c1, .int .i64 u1, .slice hh1 m1 cc1]) a ∧ RA w (.agg #[.int .i64 t2, .slice f2 l2 c2, .int .i64 u2, .slice hh2 m2 cc2]) b
theorem RVA.keep {w w' : World} {v : Value} {a b : Rat} {B : Nat} (h : RVA w v a b) (hb : Below B w w') (hB : w.heap.size ≤ B) : RVA w' v a b := by
  obtain ⟨t1, f1, l1, c1, u1, hh1, m1, cc1, t2, f2, l2, c2, u2, hh2, m2, cc2, e, h1, h2⟩ := h
  exact ⟨t1, f1, l1, c1, u1, hh1, m1, cc1, t2, f2, l2, c2, u2, hh2, m2, cc2, e, h1.keep hb hB, h2.keep hb hB⟩
theorem RA.store {w w' : World} {v : Value} {a : Rat} {T : Nat} (h : RA w v a) (hT : NoI w T) (hg : w.grownBy w' (some T)) : RA w' v a := by
  obtain ⟨d, h1, h2⟩ := h
  exact ⟨d, h1.store hT hg, h2⟩
theorem RVA.store {w w' : World} {v : Value} {a b : Rat} {T : Nat} (h : RVA w v a b) (hT : NoI w T) (hg : w.grownBy w' (some T)) : RVA w' v a b := by
  obtain ⟨t1, f1, l1, c1, u1, hh1, m1, cc1, t2, f2, l2, c2, u2, hh2, m2, cc2, e, h1, h2⟩ := h
  exact ⟨t1, f1, l1, c1, u1, hh1, m1, cc1, t2, f2, l2, c2, u2, hh2, m2, cc2, e, h1.store hT hg, h2.store hT hg⟩
theorem RVA.agg {w : World} {v : Value} {a b : Rat} (h : RVA w v a b) : ∃ (t1 : Int) (f1 : Option Addr) (l1 c1 : Nat) (u1 : Int) (hh1 : Option Addr) (m1 cc1 : Nat) (t2 : Int) (f2 : Option Addr) (l2 c2 : Nat) (u2 : Int) (hh2 : Option Addr) (m2 cc2 : Nat), v = .agg #[.int .i64 t1, .slice f1 l1 c1, .int .i64 u1, .slice hh1 m1 cc1, .int .i64 t2, .slice f2 l2 c2, .int .i64 u2, .slice hh2 m2 cc2] := by
  obtain ⟨t1, f1, l1, c1, u1, hh1, m1, cc1, t2, f2, l2, c2, u2, hh2, m2, cc2, e, _⟩ := h
  exact ⟨t1, f1, l1, c1, u1, hh1, m1, cc1, t2, f2, l2, c2, u2, hh2, m2, cc2, e⟩
theorem RVv.va {w : World} {v : Value} {a b : Rat} (h : RVv w v a b) : RVA w v a b := by
  obtain ⟨t1, f1, l1, c1, u1, hh1, m1, cc1, t2, f2, l2, c2, u2, hh2, m2, cc2, e, h1, h2⟩ := h
  exact ⟨t1, f1, l1, c1, u1, hh1, m1, cc1, t2, f2, l2, c2, u2, hh2, m2, cc2, e, .of h1, .of h2⟩
/-- its box -/
def HVA (T : Nat) (a b : Rat) (w : World) : Prop := ∃ (t1 : Int) (f1 : Option Addr) (l1 c1 : Nat) (u1 : Int) (hh1 : Option Addr) (m1 cc1 : Nat) (t2 : Int) (f2 : Option Addr) (l2 c2 : Nat) (u2 : Int) (hh2 : Option Addr) (m2 cc2 : Nat), w.heap[T]? = some (.cells #[.int .i64 t1, .slice f1 l1 c1, .int .i64 u1, .slice hh1 m1 cc1, .int .i64 t2, .slice f2 l2 c2, .int .i64 u2, .slice hh2 m2 cc2] 86 (0, 0)) ∧ RA w (.agg #[.int .i64 t1, .slice f1 l1 c1, .int .i64 u1, .slice hh1 m1 cc1]) a ∧ RA w (.agg #[.int .i64 t2, .slice f2 l2 c2, .int .i64 u2, .slice hh2 m2 cc2]) b
theorem HVA.keep {T : Nat} {a b : Rat} {w w' : World} (h : HVA T a b w) (hb : Below w.heap.size w w') : HVA T a b w' := by
  obtain ⟨t1, f1, l1, c1, u1, hh1, m1, cc1, t2, f2, l2, c2, u2, hh2, m2, cc2, h1, h2, h3⟩ := h
  exact ⟨t1, f1, l1, c1, u1, hh1, m1, cc1, t2, f2, l2, c2, u2, hh2, m2, cc2, blk_keep h1 hb, h2.keep hb (Nat.le_refl _), h3.keep hb (Nat.le_refl _)⟩
theorem RVA.parts {w : World} {a b : Rat} {t1 : Int} {f1 : Option Addr} {l1 c1 : Nat} {u1 : Int} {hh1 : Option Addr} {m1 cc1 : Nat} {t2 : Int} {f2 : Option Addr} {l2 c2 : Nat} {u2 : Int} {hh2 : Option Addr} {m2 cc2 : Nat} (h : RVA w (.agg #[.int .i64 t1, .slice f1 l1 c1, .int .i64 u1, .slice hh1 m1 cc1, .int .i64 t2, .slice f2 l2 c2, .int .i64 u2, .slice hh2 m2 cc2]) a b) : RA w (.agg #[.int .i64 t1, .slice f1 l1 c1, .int .i64 u1, .slice hh1 m1 cc1]) a ∧ RA w (.agg #[.int .i64 t2, .slice f2 l2 c2, .int .i64 u2, .slice hh2 m2 cc2]) b := by
  obtain ⟨_, _, _, _, _, _, _, _, _, _, _, _, _, _, _, _, e, h1, h2⟩ := h
  simp only [Value.agg.injEq, Array.mk.injEq, List.cons.injEq, and_true, Value.int.injEq, Value.slice.injEq, true_and] at e
  obtain ⟨rfl, ⟨rfl, rfl, rfl⟩, rfl, ⟨rfl, rfl, rfl⟩, rfl, ⟨rfl, rfl, rfl⟩, rfl, rfl, rfl, rfl⟩ := e
  exact ⟨h1, h2⟩
theorem HVA.new {w : World} {a b : Rat} {t1 : Int} {f1 : Option Addr} {l1 c1 : Nat} {u1 : Int} {hh1 : Option Addr} {m1 cc1 : Nat} {t2 : Int} {f2 : Option Addr} {l2 c2 : Nat} {u2 : Int} {hh2 : Option Addr} {m2 cc2 : Nat} (h : RVA w (.agg #[.int .i64 t1, .slice f1 l1 c1, .int .i64 u1, .slice hh1 m1 cc1, .int .i64 t2, .slice f2 l2 c2, .int .i64 u2, .slice hh2 m2 cc2]) a b) : HVA w.heap.size a b (w.alloc (.cells #[.int .i64 t1, .slice f1 l1 c1, .int .i64 u1, .slice hh1 m1 cc1, .int .i64 t2, .slice f2 l2 c2, .int .i64 u2, .slice hh2 m2 cc2] 86)) :=
  ⟨t1, f1, l1, c1, u1, hh1, m1, cc1, t2, f2, l2, c2, u2, hh2, m2, cc2, Go.Deep.blk_alloc_new _ _, h.parts.1.keep (bl1 _ _) (Nat.le_refl _), h.parts.2.keep (bl1 _ _) (Nat.le_refl _)⟩
theorem HVA.stored {T : Nat} {w : World} {a b : Rat} {t1 : Int} {f1 : Option Addr} {l1 c1 : Nat} {u1 : Int} {hh1 : Option Addr} {m1 cc1 : Nat} {t2 : Int} {f2 : Option Addr} {l2 c2 : Nat} {u2 : Int} {hh2 : Option Addr} {m2 cc2 : Nat} (hT : B8 T w) (h : RVA w (.agg #[.int .i64 t1, .slice f1 l1 c1, .int .i64 u1, .slice hh1 m1 cc1, .int .i64 t2, .slice f2 l2 c2, .int .i64 u2, .slice hh2 m2 cc2]) a b) : HVA T a b (st8 w T (.int .i64 t1) (.slice f1 l1 c1) (.int .i64 u1) (.slice hh1 m1 cc1) (.int .i64 t2) (.slice f2 l2 c2) (.int .i64 u2) (.slice hh2 m2 cc2)) := by
  refine ⟨t1, f1, l1, c1, u1, hh1, m1, cc1, t2, f2, l2, c2, u2, hh2, m2, cc2, ?_, h.parts.1.store hT.noI (grown8 _ _ _ _ _ _ _ _ _ _), h.parts.2.store hT.noI (grown8 _ _ _ _ _ _ _ _ _ _)⟩
  obtain ⟨_, _, _, _, _, _, _, _, _, _, _, _, _, _, _, _, hT⟩ := hT
  simp [World.setCell, Array.getElem?_modify, hT]
def kva (a b : Rat) : Kd := .c (fun v w => RVA w v a b) fun _ _ _ h hb => h.keep hb (Nat.le_refl _)
def PVA (a b : Rat) (w : World) (e : Ending) (w' : World) : Prop := Below w.heap.size w w' ∧ ∃ v, e = .returned v ∧ RVA w' v a b
theorem PVA.kd {a b : Rat} {w : World} {g : FuncId} {args : Array Value} (h : Calls Tryz.prog g args w (PVA a b w)) : Calls Tryz.prog g args w fun e w' => ∃ v, e = .returned v ∧ (Below w.heap.size w w' ∧ Go.Proofs.YtjjomjjgoceklaaGreat.kd (kva a b) v w') := h.mono fun _ _ ⟨hb, v, he, hv⟩ => ⟨v, he, hb, hv⟩
section
variable {ρ : Operand → Value} {o : Oper} {w : World} {t : Operand}
end
theorem cf43' : CF 43 := fun W args => by go_simp
theorem cf53' : CF 53 := fun W args => by go_simp
structure Gpp86 (w0 : World) (a b c d : Rat) (w : World) : Prop where
  kb : Below w0.heap.size w0 w
  u : HVA w0.heap.size a b w
  v : HVA (w0.heap.size + 1) c d w
  t : B8 (w0.heap.size + 1 + 1) w
theorem Gpp86.keep {w0 w w' : World} {a b c d : Rat} (h : Gpp86 w0 a b c d w) (hb : Below w.heap.size w w') : Gpp86 w0 a b c d w' := ⟨Below.thru h.kb h.kb.size hb, h.u.keep hb, h.v.keep hb, h.t.keep hb⟩
structure Gpr86 (w0 : World) (a b c d : Rat) (w : World) : Prop where
  kb : Below w0.heap.size w0 w
  u : HVA w0.heap.size a b w
  v : HA (w0.heap.size + 1) c w
  t : B8 (w0.heap.size + 1 + 1) w
theorem Gpr86.keep {w0 w w' : World} {a b c d : Rat} (h : Gpr86 w0 a b c d w) (hb : Below w.heap.size w w') : Gpr86 w0 a b c d w' := ⟨Below.thru h.kb h.kb.size hb, h.u.keep hb, h.v.keep hb, h.t.keep hb⟩
structure Gpp44 (w0 : World) (a b c d : Rat) (w : World) : Prop where
  kb : Below w0.heap.size w0 w
  u : HVA w0.heap.size a b w
  v : HVA (w0.heap.size + 1) c d w
  t : R4 (w0.heap.size + 1 + 1) w
theorem Gpp44.keep {w0 w w' : World} {a b c d : Rat} (h : Gpp44 w0 a b c d w) (hb : Below w.heap.size w w') : Gpp44 w0 a b c d w' := ⟨Below.thru h.kb h.kb.size hb, h.u.keep hb, h.v.keep hb, h.t.keep hb⟩
structure Gpp (w0 : World) (a b c d : Rat) (w : World) : Prop where
  kb : Below w0.heap.size w0 w
  u : HVA w0.heap.size a b w
  v : HVA (w0.heap.size + 1) c d w
theorem Gpp.keep {w0 w w' : World} {a b c d : Rat} (h : Gpp w0 a b c d w) (hb : Below w.heap.size w w') : Gpp w0 a b c d w' := ⟨Below.thru h.kb h.kb.size hb, h.u.keep hb, h.v.keep hb⟩
structure GPp (w0 : World) (a b c d : Rat) (w : World) : Prop where
  kb : Below w0.heap.size w0 w
  u : Hvv w0.heap.size a b w
  v : HVA (w0.heap.size + 1) c d w
theorem GPp.keep {w0 w w' : World} {a b c d : Rat} (h : GPp w0 a b c d w) (hb : Below w.heap.size w w') : GPp w0 a b c d w' := ⟨Below.thru h.kb h.kb.size hb, h.u.keep hb, h.v.keep hb⟩
structure GPP (w0 : World) (a b c d : Rat) (w : World) : Prop where
  kb : Below w0.heap.size w0 w
  u : Hvv w0.heap.size a b w
  v : Hvv (w0.heap.size + 1) c d w
theorem GPP.keep {w0 w w' : World} {a b c d : Rat} (h : GPP w0 a b c d w) (hb : Below w.heap.size w w') : GPP w0 a b c d w' := ⟨Below.thru h.kb h.kb.size hb, h.u.keep hb, h.v.keep hb⟩
structure GPP84 (w0 : World) (a b c d : Rat) (w : World) : Prop where
  kb : Below w0.heap.size w0 w
  u : Hvv w0.heap.size a b w
  v : Hvv (w0.heap.size + 1) c d w
  t : B10 (w0.heap.size + 1 + 1) w
theorem GPP84.keep {w0 w w' : World} {a b c d : Rat} (h : GPP84 w0 a b c d w) (hb : Below w.heap.size w w') : GPP84 w0 a b c d w' := ⟨Below.thru h.kb h.kb.size hb, h.u.keep hb, h.v.keep hb, h.t.keep hb⟩
structure Gp (w0 : World) (a b c d : Rat) (w : World) : Prop where
  kb : Below w0.heap.size w0 w
  u : HVA w0.heap.size a b w
theorem Gp.keep {w0 w w' : World} {a b c d : Rat} (h : Gp w0 a b c d w) (hb : Below w.heap.size w w') : Gp w0 a b c d w' := ⟨Below.thru h.kb h.kb.size hb, h.u.keep hb⟩
end Go.Proofs.YtjjomjjgoceklaaGreat
