import Derived.Test.YtjjomjjgoceklaaGreatUn
import Derived.Test.YtjjomjjgoceklaaGreatUl
namespace Go.Proofs.YtjjomjjgoceklaaGreat
set_option maxRecDepth 100000
open Go.RowKit

/-! pairs of the reference's ratios; its functions on them; V.Add, V.Sub, V.Same -/
def RVA (w : World) (v : Value) (a b : Rat) : Prop := ∃ (t1 : Int) (f1 : Option Addr) (l1 c1 : Nat) (u1 : Int) (hh1 : Option Addr) (m1 cc1 : Nat) (t2 : Int) (f2 : Option Addr) (l2 c2 : Nat) (u2 : Int) (hh2 : Option Addr) (m2 cc2 : Nat), v = .agg #[.int .i64 t1, .slice f1 l1 c1, .int .i64 u1, .slice hh1 m1 cc1, .int .i64 t2, .slice f2 l2 c2, .int .i64 u2, .slice hh2 m2 cc2] ∧ RA w (.agg #[.int .i64 t1, .slice f1 l1 c1, .int .i64 u1, .slice hh1 m1 cc1]) a ∧ RA w (.agg #[.int .i64 t2, .slice f2 l2 c2, .int .i64 u2, .slice hh2 m2 cc2]) b
theorem RVA.keep {w w' : World} {v : Value} {a b : Rat} {B : Nat} (h : RVA w v a b) (hb : Below B w w') (hB : w.heap.size ≤ B) : RVA w' v a b := by
  obtain ⟨t1, f1, l1, c1, u1, hh1, m1, cc1, t2, f2, l2, c2, u2, hh2, m2, cc2, e, h1, h2⟩ := h
  exact ⟨t1, f1, l1, c1, u1, hh1, m1, cc1, t2, f2, l2, c2, u2, hh2, m2, cc2, e, h1.keep hb hB, h2.keep hb hB⟩
theorem RA.store {w w' : World} {v : Value} {a : Rat} {T : Nat} (h : RA w v a) (hT : NoI w T) (hg : w.grownBy w' (some T)) : RA w' v a := by
  obtain ⟨d, h1, h2⟩ := h
  exact ⟨d, h1.store hT hg, h2⟩
theorem RVA.store {w w' : World} {v : Value} {a b : Rat} {T : Nat} (h : RVA w v a b) (hT : NoI w T) (hg : w.grownBy w' (some T)) : RVA w' v a b := by
  obtain ⟨t1, f1, l1, c1, u1, hh1, m1, cc1, t2, f2, l2, c2, u2, hh2, m2, cc2, e, h1, h2⟩ := h
  exact ⟨t1, f1, l1, c1, u1, hh1, m1, cc1, t2, f2, l2, c2, u2, hh2, m2, cc2, e, h1.store hT hg, h2.store hT hg⟩
theorem RVA.agg {w : World} {v : Value} {a b : Rat} (h : RVA w v a b) : ∃ (t1 : Int) (f1 : Option Addr) (l1 c1 : Nat) (u1 : Int) (hh1 : Option Addr) (m1 cc1 : Nat) (t2 : Int) (f2 : Option Addr) (l2 c2 : Nat) (u2 : Int) (hh2 : Option Addr) (m2 cc2 : Nat), v = .agg #[.int .i64 t1, .slice f1 l1 c1, .int .i64 u1, .slice hh1 m1 cc1, .int .i64 t2, .slice f2 l2 c2, .int .i64 u2, .slice hh2 m2 cc2] := by
  obtain ⟨t1, f1, l1, c1, u1, hh1, m1, cc1, t2, f2, l2, c2, u2, hh2, m2, cc2, e, _⟩ := h
  exact ⟨t1, f1, l1, c1, u1, hh1, m1, cc1, t2, f2, l2, c2, u2, hh2, m2, cc2, e⟩
theorem RVv.va {w : World} {v : Value} {a b : Rat} (h : RVv w v a b) : RVA w v a b := by
  obtain ⟨t1, f1, l1, c1, u1, hh1, m1, cc1, t2, f2, l2, c2, u2, hh2, m2, cc2, e, h1, h2⟩ := h
  exact ⟨t1, f1, l1, c1, u1, hh1, m1, cc1, t2, f2, l2, c2, u2, hh2, m2, cc2, e, .of h1, .of h2⟩
/-- its box -/
def HVA (T : Nat) (a b : Rat) (w : World) : Prop := ∃ (t1 : Int) (f1 : Option Addr) (l1 c1 : Nat) (u1 : Int) (hh1 : Option Addr) (m1 cc1 : Nat) (t2 : Int) (f2 : Option Addr) (l2 c2 : Nat) (u2 : Int) (hh2 : Option Addr) (m2 cc2 : Nat), w.heap[T]? = some (.cells #[.int .i64 t1, .slice f1 l1 c1, .int .i64 u1, .slice hh1 m1 cc1, .int .i64 t2, .slice f2 l2 c2, .int .i64 u2, .slice hh2 m2 cc2] 86 (0, 0)) ∧ RA w (.agg #[.int .i64 t1, .slice f1 l1 c1, .int .i64 u1, .slice hh1 m1 cc1]) a ∧ RA w (.agg #[.int .i64 t2, .slice f2 l2 c2, .int .i64 u2, .slice hh2 m2 cc2]) b
theorem HVA.keep {T : Nat} {a b : Rat} {w w' : World} (h : HVA T a b w) (hb : Below w.heap.size w w') : HVA T a b w' := by
  obtain ⟨t1, f1, l1, c1, u1, hh1, m1, cc1, t2, f2, l2, c2, u2, hh2, m2, cc2, h1, h2, h3⟩ := h
  exact ⟨t1, f1, l1, c1, u1, hh1, m1, cc1, t2, f2, l2, c2, u2, hh2, m2, cc2, blk_keep h1 hb, h2.keep hb (Nat.le_refl _), h3.keep hb (Nat.le_refl _)⟩
theorem RVA.parts {w : World} {a b : Rat} {t1 : Int} {f1 : Option Addr} {l1 c1 : Nat} {u1 : Int} {hh1 : Option Addr} {m1 cc1 : Nat} {t2 : Int} {f2 : Option Addr} {l2 c2 : Nat} {u2 : Int} {hh2 : Option Addr} {m2 cc2 : Nat} (h : RVA w (.agg #[.int .i64 t1, .slice f1 l1 c1, .int .i64 u1, .slice hh1 m1 cc1, .int .i64 t2, .slice f2 l2 c2, .int .i64 u2, .slice hh2 m2 cc2]) a b) : RA w (.agg #[.int .i64 t1, .slice f1 l1 c1, .int .i64 u1, .slice hh1 m1 cc1]) a ∧ RA w (.agg #[.int .i64 t2, .slice f2 l2 c2, .int .i64 u2, .slice hh2 m2 cc2]) b := by
  obtain ⟨_, _, _, _, _, _, _, _, _, _, _, _, _, _, _, _, e, h1, h2⟩ := h
  simp only [Value.agg.injEq, Array.mk.injEq, List.cons.injEq, and_true, Value.int.injEq, Value.slice.injEq, true_and] at e
  obtain ⟨rfl, ⟨rfl, rfl, rfl⟩, rfl, ⟨rfl, rfl, rfl⟩, rfl, ⟨rfl, rfl, rfl⟩, rfl, rfl, rfl, rfl⟩ := e
  exact ⟨h1, h2⟩
theorem HVA.new {w : World} {a b : Rat} {t1 : Int} {f1 : Option Addr} {l1 c1 : Nat} {u1 : Int} {hh1 : Option Addr} {m1 cc1 : Nat} {t2 : Int} {f2 : Option Addr} {l2 c2 : Nat} {u2 : Int} {hh2 : Option Addr} {m2 cc2 : Nat} (h : RVA w (.agg #[.int .i64 t1, .slice f1 l1 c1, .int .i64 u1, .slice hh1 m1 cc1, .int .i64 t2, .slice f2 l2 c2, .int .i64 u2, .slice hh2 m2 cc2]) a b) : HVA w.heap.size a b (w.alloc (.cells #[.int .i64 t1, .slice f1 l1 c1, .int .i64 u1, .slice hh1 m1 cc1, .int .i64 t2, .slice f2 l2 c2, .int .i64 u2, .slice hh2 m2 cc2] 86)) :=
  ⟨t1, f1, l1, c1, u1, hh1, m1, cc1, t2, f2, l2, c2, u2, hh2, m2, cc2, Go.Deep.blk_alloc_new _ _, h.parts.1.keep (bl1 _ _) (Nat.le_refl _), h.parts.2.keep (bl1 _ _) (Nat.le_refl _)⟩
theorem HVA.stored {T : Nat} {w : World} {a b : Rat} {t1 : Int} {f1 : Option Addr} {l1 c1 : Nat} {u1 : Int} {hh1 : Option Addr} {m1 cc1 : Nat} {t2 : Int} {f2 : Option Addr} {l2 c2 : Nat} {u2 : Int} {hh2 : Option Addr} {m2 cc2 : Nat} (hT : B8 T w) (h : RVA w (.agg #[.int .i64 t1, .slice f1 l1 c1, .int .i64 u1, .slice hh1 m1 cc1, .int .i64 t2, .slice f2 l2 c2, .int .i64 u2, .slice hh2 m2 cc2]) a b) : HVA T a b (st8 w T (.int .i64 t1) (.slice f1 l1 c1) (.int .i64 u1) (.slice hh1 m1 cc1) (.int .i64 t2) (.slice f2 l2 c2) (.int .i64 u2) (.slice hh2 m2 cc2)) := by
  refine ⟨t1, f1, l1, c1, u1, hh1, m1, cc1, t2, f2, l2, c2, u2, hh2, m2, cc2, ?_, h.parts.1.store hT.noI (grown8 _ _ _ _ _ _ _ _ _ _), h.parts.2.store hT.noI (grown8 _ _ _ _ _ _ _ _ _ _)⟩
  obtain ⟨_, _, _, _, _, _, _, _, _, _, _, _, _, _, _, _, hT⟩ := hT
  simp [World.setCell, Array.getElem?_modify, hT]
def kva (a b : Rat) : Kd := .c (fun v w => RVA w v a b) fun _ _ _ h hb => h.keep hb (Nat.le_refl _)
def PVA (a b : Rat) (w : World) (e : Ending) (w' : World) : Prop := Below w.heap.size w w' ∧ ∃ v, e = .returned v ∧ RVA w' v a b
theorem PVA.kd {a b : Rat} {w : World} {g : FuncId} {args : Array Value} (h : Calls Tryz.prog g args w (PVA a b w)) : Calls Tryz.prog g args w fun e w' => ∃ v, e = .returned v ∧ (Below w.heap.size w w' ∧ Go.Proofs.YtjjomjjgoceklaaGreat.kd (kva a b) v w') := h.mono fun _ _ ⟨hb, v, he, hv⟩ => ⟨v, he, hb, hv⟩
section
variable {ρ : Operand → Value} {o : Oper} {w : World} {t : Operand}
theorem rn_field86_0 {b : Nat} (ho : o.op = .fieldAddr 86 t 0) (he : ρ t = .pointer (some ⟨b, 0, none⟩)) : (execOp ρ o).run Tryz.prog w = .ok (.value (.pointer (some ⟨b, 0, none⟩))) w := by
  unfold execOp; rw [ho]; simp [go_sem, he]
theorem rn_field86_1 {b : Nat} (ho : o.op = .fieldAddr 86 t 1) (he : ρ t = .pointer (some ⟨b, 0, none⟩)) : (execOp ρ o).run Tryz.prog w = .ok (.value (.pointer (some ⟨b, 4, none⟩))) w := by
  unfold execOp; rw [ho]; simp [go_sem, he]
theorem rn_load44a {T : Nat} {t1 : Int} {f1 : Option Addr} {l1 c1 : Nat} {u1 : Int} {hh1 : Option Addr} {m1 cc1 : Nat} {t2 : Int} {f2 : Option Addr} {l2 c2 : Nat} {u2 : Int} {hh2 : Option Addr} {m2 cc2 : Nat} (ho : o.op = .load 44 t) (he : ρ t = .pointer (some ⟨T, 0, none⟩)) (h : w.heap[T]? = some (.cells #[.int .i64 t1, .slice f1 l1 c1, .int .i64 u1, .slice hh1 m1 cc1, .int .i64 t2, .slice f2 l2 c2, .int .i64 u2, .slice hh2 m2 cc2] 86 (0, 0))) : (execOp ρ o).run Tryz.prog w = .ok (.value (.agg #[.int .i64 t1, .slice f1 l1 c1, .int .i64 u1, .slice hh1 m1 cc1])) w := by
  have g1 : w.cell? ⟨T, 0, none⟩ = some (.int .i64 t1) := by simp [World.cell?, h]
  have g2 : w.cell? ⟨T, 1, none⟩ = some (.slice f1 l1 c1) := by simp [World.cell?, h]
  have g3 : w.cell? ⟨T, 2, none⟩ = some (.int .i64 u1) := by simp [World.cell?, h]
  have g4 : w.cell? ⟨T, 3, none⟩ = some (.slice hh1 m1 cc1) := by simp [World.cell?, h]
  unfold execOp; rw [ho]; simp [go_sem, he, g1, g2, g3, g4]
theorem rn_load44b {T : Nat} {t1 : Int} {f1 : Option Addr} {l1 c1 : Nat} {u1 : Int} {hh1 : Option Addr} {m1 cc1 : Nat} {t2 : Int} {f2 : Option Addr} {l2 c2 : Nat} {u2 : Int} {hh2 : Option Addr} {m2 cc2 : Nat} (ho : o.op = .load 44 t) (he : ρ t = .pointer (some ⟨T, 4, none⟩)) (h : w.heap[T]? = some (.cells #[.int .i64 t1, .slice f1 l1 c1, .int .i64 u1, .slice hh1 m1 cc1, .int .i64 t2, .slice f2 l2 c2, .int .i64 u2, .slice hh2 m2 cc2] 86 (0, 0))) : (execOp ρ o).run Tryz.prog w = .ok (.value (.agg #[.int .i64 t2, .slice f2 l2 c2, .int .i64 u2, .slice hh2 m2 cc2])) w := by
  have g1 : w.cell? ⟨T, 4, none⟩ = some (.int .i64 t2) := by simp [World.cell?, h]
  have g2 : w.cell? ⟨T, 5, none⟩ = some (.slice f2 l2 c2) := by simp [World.cell?, h]
  have g3 : w.cell? ⟨T, 6, none⟩ = some (.int .i64 u2) := by simp [World.cell?, h]
  have g4 : w.cell? ⟨T, 7, none⟩ = some (.slice hh2 m2 cc2) := by simp [World.cell?, h]
  unfold execOp; rw [ho]; simp [go_sem, he, g1, g2, g3, g4]
end
theorem cf43' : CF 43 := fun W args => by go_simp
theorem cf45' : CF 45 := fun W args => by go_simp
theorem cf47' : CF 47 := fun W args => by go_simp
theorem cf53' : CF 53 := fun W args => by go_simp
structure Gpp86 (w0 : World) (a b c d : Rat) (w : World) : Prop where
  kb : Below w0.heap.size w0 w
  u : HVA w0.heap.size a b w
  v : HVA (w0.heap.size + 1) c d w
  t : B8 (w0.heap.size + 1 + 1) w
theorem Gpp86.keep {w0 w w' : World} {a b c d : Rat} (h : Gpp86 w0 a b c d w) (hb : Below w.heap.size w w') : Gpp86 w0 a b c d w' := ⟨Below.thru h.kb h.kb.size hb, h.u.keep hb, h.v.keep hb, h.t.keep hb⟩
structure Gpr86 (w0 : World) (a b c d : Rat) (w : World) : Prop where
  kb : Below w0.heap.size w0 w
  u : HVA w0.heap.size a b w
  v : HA (w0.heap.size + 1) c w
  t : B8 (w0.heap.size + 1 + 1) w
theorem Gpr86.keep {w0 w w' : World} {a b c d : Rat} (h : Gpr86 w0 a b c d w) (hb : Below w.heap.size w w') : Gpr86 w0 a b c d w' := ⟨Below.thru h.kb h.kb.size hb, h.u.keep hb, h.v.keep hb, h.t.keep hb⟩
structure Gpp44 (w0 : World) (a b c d : Rat) (w : World) : Prop where
  kb : Below w0.heap.size w0 w
  u : HVA w0.heap.size a b w
  v : HVA (w0.heap.size + 1) c d w
  t : R4 (w0.heap.size + 1 + 1) w
theorem Gpp44.keep {w0 w w' : World} {a b c d : Rat} (h : Gpp44 w0 a b c d w) (hb : Below w.heap.size w w') : Gpp44 w0 a b c d w' := ⟨Below.thru h.kb h.kb.size hb, h.u.keep hb, h.v.keep hb, h.t.keep hb⟩
structure Gpp (w0 : World) (a b c d : Rat) (w : World) : Prop where
  kb : Below w0.heap.size w0 w
  u : HVA w0.heap.size a b w
  v : HVA (w0.heap.size + 1) c d w
theorem Gpp.keep {w0 w w' : World} {a b c d : Rat} (h : Gpp w0 a b c d w) (hb : Below w.heap.size w w') : Gpp w0 a b c d w' := ⟨Below.thru h.kb h.kb.size hb, h.u.keep hb, h.v.keep hb⟩
structure GPp (w0 : World) (a b c d : Rat) (w : World) : Prop where
  kb : Below w0.heap.size w0 w
  u : Hvv w0.heap.size a b w
  v : HVA (w0.heap.size + 1) c d w
theorem GPp.keep {w0 w w' : World} {a b c d : Rat} (h : GPp w0 a b c d w) (hb : Below w.heap.size w w') : GPp w0 a b c d w' := ⟨Below.thru h.kb h.kb.size hb, h.u.keep hb, h.v.keep hb⟩
structure GPP (w0 : World) (a b c d : Rat) (w : World) : Prop where
  kb : Below w0.heap.size w0 w
  u : Hvv w0.heap.size a b w
  v : Hvv (w0.heap.size + 1) c d w
theorem GPP.keep {w0 w w' : World} {a b c d : Rat} (h : GPP w0 a b c d w) (hb : Below w.heap.size w w') : GPP w0 a b c d w' := ⟨Below.thru h.kb h.kb.size hb, h.u.keep hb, h.v.keep hb⟩
structure GPP84 (w0 : World) (a b c d : Rat) (w : World) : Prop where
  kb : Below w0.heap.size w0 w
  u : Hvv w0.heap.size a b w
  v : Hvv (w0.heap.size + 1) c d w
  t : B10 (w0.heap.size + 1 + 1) w
theorem GPP84.keep {w0 w w' : World} {a b c d : Rat} (h : GPP84 w0 a b c d w) (hb : Below w.heap.size w w') : GPP84 w0 a b c d w' := ⟨Below.thru h.kb h.kb.size hb, h.u.keep hb, h.v.keep hb, h.t.keep hb⟩
structure Gp (w0 : World) (a b c d : Rat) (w : World) : Prop where
  kb : Below w0.heap.size w0 w
  u : HVA w0.heap.size a b w
theorem Gp.keep {w0 w w' : World} {a b c d : Rat} (h : Gp w0 a b c d w) (hb : Below w.heap.size w w') : Gp w0 a b c d w' := ⟨Below.thru h.kb h.kb.size hb, h.u.keep hb⟩
def tabI63 (w : World) (a b c d : Rat) (tt : Nat) : Kd := [(kp w.heap.size 0), (kra a), (kp (w.heap.size + 1) 0), (kra c), (kra (a + c)), (kp w.heap.size 4), (kra b), (kp (w.heap.size + 1) 4), (kra d), (kra (b + d)), (kva (a + c) (b + d))].getD (tt - 5) .any
def DI63 (t : Nat) : Bool := (Nat.ble 5 t && Nat.ble t 15)
set_option maxHeartbeats 1600000 in
theorem vaddr_any (va vb : Value) (a b c d : Rat) (k l : Nat) (w : World) (ha : RVA w va a b) (hb : RVA w vb c d) (ba : Bd9 k a) (bb : Bd9 k b) (bc : Bd9 l c) (bd : Bd9 l d) (hk : k + l + 1 ≤ 75) : Calls Tryz.prog 63 #[va, vb] w (PVA (a + c) (b + d) w) := by
  obtain ⟨t1, f1, l1, c1, u1, hh1, m1, cc1, t2, f2, l2, c2, u2, hh2, m2, cc2, rfl⟩ := ha.agg
  obtain ⟨t3, f3, l3, c3, u3, hh3, m3, cc3, t4, f4, l4, c4, u4, hh4, m4, cc4, rfl⟩ := hb.agg
  have S0 : Gpp86 w a b c d (((w.alloc (.cells #[.int .i64 t1, .slice f1 l1 c1, .int .i64 u1, .slice hh1 m1 cc1, .int .i64 t2, .slice f2 l2 c2, .int .i64 u2, .slice hh2 m2 cc2] 86)).alloc (.cells #[.int .i64 t3, .slice f3 l3 c3, .int .i64 u3, .slice hh3 m3 cc3, .int .i64 t4, .slice f4 l4 c4, .int .i64 u4, .slice hh4 m4 cc4] 86)).alloc (.cells #[.int .i64 0, .slice none 0 0, .int .i64 0, .slice none 0 0, .int .i64 0, .slice none 0 0, .int .i64 0, .slice none 0 0] 86)) := by
    refine ⟨bl3 _ _ _ _, ((HVA.new ha).keep (bl1 _ _)).keep (bl1 _ _), ?_, b8_new _ (by simp)⟩
    have := HVA.new (hb.keep (bl1 w (.cells #[.int .i64 t1, .slice f1 l1 c1, .int .i64 u1, .slice hh1 m1 cc1, .int .i64 t2, .slice f2 l2 c2, .int .i64 u2, .slice hh2 m2 cc2] 86)) (Nat.le_refl _))
    rw [World.size_alloc] at this
    exact this.keep (bl1 _ _)
  have S := Lib.hid S0
  clear ha hb S0
  go_enter Tryz.func63, Tryz.ntmps63
  go_upto_region 1 with fail
  go_cut [] (fun wx => Below w.heap.size w wx ∧ HVA (w.heap.size + 1 + 1) (a + c) (b + d) wx)
  case first =>
    rename_i J K' hJ hK
    refine wp_region_two DI63 (tabI63 w a b c d) (Gpp86 w a b c d) 11 (fun _ _ w' => Below w.heap.size w w' ∧ HVA (w.heap.size + 1 + 1) (a + c) (b + d) w') (by kernel_rfl) (by kernel_rfl) (by kernel_rfl) (by kernel_rfl) (by decide) (by kernel_rfl) (fun _ _ h hb => h.keep hb) (S.out.keep (Below.refl _ _).drew) ?_ ?_ ?_
    ·
      refine .cons (fun f w' hI hs => ⟨wanted_none rfl, _, rfl, .val (rn_field86_0 rfl (fr_old rfl rfl)) ⟨Below.refl _ _, rfl⟩⟩) ?_
      refine .cons (fun f w' hI hs => ?_) ?_
      · obtain ⟨t1, f1, l1, c1, u1, hh1, m1, cc1, t2, f2, l2, c2, u2, hh2, m2, cc2, e1, e2, e3⟩ := hI.u
        exact ⟨wanted_none rfl, _, rfl, .val (rn_load44a rfl ((fr_own rfl rfl).trans (hs 5 (by kernel_rfl))) e1) ⟨Below.refl _ _, e2⟩⟩
      refine .cons (fun f w' hI hs => ⟨wanted_none rfl, _, rfl, .val (rn_field86_0 rfl (fr_old rfl rfl)) ⟨Below.refl _ _, rfl⟩⟩) ?_
      refine .cons (fun f w' hI hs => ?_) ?_
      · obtain ⟨t1, f1, l1, c1, u1, hh1, m1, cc1, t2, f2, l2, c2, u2, hh2, m2, cc2, e1, e2, e3⟩ := hI.v
        exact ⟨wanted_none rfl, _, rfl, .val (rn_load44a rfl ((fr_own rfl rfl).trans (hs 7 (by kernel_rfl))) e1) ⟨Below.refl _ _, e2⟩⟩
      refine .cons (fun f w' hI hs => ⟨wanted_none rfl, _, rfl, .call2 rfl cf43' rfl rfl rfl rfl (PRA.kd (raddr_any _ _ a c (a + c) _ _ _ (hs 6 (by kernel_rfl)) (hs 8 (by kernel_rfl)) ba bc (by omega) rfl))⟩) ?_
      refine .cons (fun f w' hI hs => ⟨wanted_none rfl, _, rfl, .val (rn_field86_1 rfl (fr_old rfl rfl)) ⟨Below.refl _ _, rfl⟩⟩) ?_
      refine .cons (fun f w' hI hs => ?_) ?_
      · obtain ⟨t1, f1, l1, c1, u1, hh1, m1, cc1, t2, f2, l2, c2, u2, hh2, m2, cc2, e1, e2, e3⟩ := hI.u
        exact ⟨wanted_none rfl, _, rfl, .val (rn_load44b rfl ((fr_own rfl rfl).trans (hs 10 (by kernel_rfl))) e1) ⟨Below.refl _ _, e3⟩⟩
      refine .cons (fun f w' hI hs => ⟨wanted_none rfl, _, rfl, .val (rn_field86_1 rfl (fr_old rfl rfl)) ⟨Below.refl _ _, rfl⟩⟩) ?_
      refine .cons (fun f w' hI hs => ?_) ?_
      · obtain ⟨t1, f1, l1, c1, u1, hh1, m1, cc1, t2, f2, l2, c2, u2, hh2, m2, cc2, e1, e2, e3⟩ := hI.v
        exact ⟨wanted_none rfl, _, rfl, .val (rn_load44b rfl ((fr_own rfl rfl).trans (hs 12 (by kernel_rfl))) e1) ⟨Below.refl _ _, e3⟩⟩
      refine .cons (fun f w' hI hs => ⟨wanted_none rfl, _, rfl, .call2 rfl cf43' rfl rfl rfl rfl (PRA.kd (raddr_any _ _ b d (b + d) _ _ _ (hs 11 (by kernel_rfl)) (hs 13 (by kernel_rfl)) bb bd (by omega) rfl))⟩) ?_
      refine .cons (fun f w' hI hs => ?_) ?_
      · have j1 : RA w' (f 9) (a + c) := (hs 9 (by kernel_rfl))
        have j2 : RA w' (f 14) (b + d) := (hs 14 (by kernel_rfl))
        obtain ⟨t1, f1, l1, c1, u1, hh1, m1, cc1, e1⟩ := j1.agg
        obtain ⟨t2, f2, l2, c2, u2, hh2, m2, cc2, e2⟩ := j2.agg
        rw [e1] at j1
        rw [e2] at j2
        exact ⟨wanted_none rfl, _, rfl, .val (rn_build86 rfl ((fr_own rfl rfl).trans e1) ((fr_own rfl rfl).trans e2)) ⟨Below.refl _ _, t1, f1, l1, c1, u1, hh1, m1, cc1, t2, f2, l2, c2, u2, hh2, m2, cc2, rfl, j1, j2⟩⟩
      exact .nil
    · refine .cons (fun f w' h => ⟨wanted_none rfl, ?_⟩) .nil
      obtain ⟨hI, hs⟩ := (if_pos rfl) ▸ h
      have hv : RVA w' (f 15) (a + c) (b + d) := (hs 15 (by kernel_rfl))
      obtain ⟨t1, f1, l1, c1, u1, hh1, m1, cc1, t2, f2, l2, c2, u2, hh2, m2, cc2, e1⟩ := hv.agg
      rw [e1] at hv
      have hz := hI.t
      exact .skip (rn_store86 rfl (fr_old rfl rfl) ((fr_own rfl rfl).trans e1) hz) ⟨below8 hI.kb (by omega) _ _ _ _ _ _ _ _, HVA.stored hz hv⟩
    · intro f w' h
      refine hK _ _ (Met.intro (hJ _ _ ?_))
      (repeat apply Exists.intro)
      refine ⟨?_, rfl⟩
      exact h
  case rest =>
    obtain ⟨kf, t1, f1, l1, c1, u1, hh1, m1, cc1, t2, f2, l2, c2, u2, hh2, m2, cc2, e1, e2, e3⟩ := hcut
    have i0 := cell_blk (i := 0) e1
    have i1 := cell_blk (i := 1) e1
    have i2 := cell_blk (i := 2) e1
    have i3 := cell_blk (i := 3) e1
    have i4 := cell_blk (i := 4) e1
    have i5 := cell_blk (i := 5) e1
    have i6 := cell_blk (i := 6) e1
    have i7 := cell_blk (i := 7) e1
    have KF := Lib.hid kf
    have VV1 := Lib.hid (show RVA wc (.agg #[.int .i64 t1, .slice f1 l1 c1, .int .i64 u1, .slice hh1 m1 cc1, .int .i64 t2, .slice f2 l2 c2, .int .i64 u2, .slice hh2 m2 cc2]) (a + c) (b + d) from ⟨t1, f1, l1, c1, u1, hh1, m1, cc1, t2, f2, l2, c2, u2, hh2, m2, cc2, rfl, e2, e3⟩)
    clear e1 e2 e3 kf S
    go_wp2
    exact bodyPost_ret (v := .agg #[.int .i64 t1, .slice f1 l1 c1, .int .i64 u1, .slice hh1 m1 cc1, .int .i64 t2, .slice f2 l2 c2, .int .i64 u2, .slice hh2 m2 cc2]) (by simp [results, Tryz.results63, go_sem, i0, i1, i2, i3, i4, i5, i6, i7]) rfl ⟨KF.out, _, rfl, VV1.out⟩
def tabI65 (w : World) (a b c d : Rat) (tt : Nat) : Kd := [(kp w.heap.size 0), (kra a), (kp (w.heap.size + 1) 0), (kra c), (kra (a - c)), (kp w.heap.size 4), (kra b), (kp (w.heap.size + 1) 4), (kra d), (kra (b - d)), (kva (a - c) (b - d))].getD (tt - 5) .any
def DI65 (t : Nat) : Bool := (Nat.ble 5 t && Nat.ble t 15)
set_option maxHeartbeats 1600000 in
theorem vsubr_any (va vb : Value) (a b c d : Rat) (k l : Nat) (w : World) (ha : RVA w va a b) (hb : RVA w vb c d) (ba : Bd9 k a) (bb : Bd9 k b) (bc : Bd9 l c) (bd : Bd9 l d) (hk : k + l + 1 ≤ 75) : Calls Tryz.prog 65 #[va, vb] w (PVA (a - c) (b - d) w) := by
  obtain ⟨t1, f1, l1, c1, u1, hh1, m1, cc1, t2, f2, l2, c2, u2, hh2, m2, cc2, rfl⟩ := ha.agg
  obtain ⟨t3, f3, l3, c3, u3, hh3, m3, cc3, t4, f4, l4, c4, u4, hh4, m4, cc4, rfl⟩ := hb.agg
  have S0 : Gpp86 w a b c d (((w.alloc (.cells #[.int .i64 t1, .slice f1 l1 c1, .int .i64 u1, .slice hh1 m1 cc1, .int .i64 t2, .slice f2 l2 c2, .int .i64 u2, .slice hh2 m2 cc2] 86)).alloc (.cells #[.int .i64 t3, .slice f3 l3 c3, .int .i64 u3, .slice hh3 m3 cc3, .int .i64 t4, .slice f4 l4 c4, .int .i64 u4, .slice hh4 m4 cc4] 86)).alloc (.cells #[.int .i64 0, .slice none 0 0, .int .i64 0, .slice none 0 0, .int .i64 0, .slice none 0 0, .int .i64 0, .slice none 0 0] 86)) := by
    refine ⟨bl3 _ _ _ _, ((HVA.new ha).keep (bl1 _ _)).keep (bl1 _ _), ?_, b8_new _ (by simp)⟩
    have := HVA.new (hb.keep (bl1 w (.cells #[.int .i64 t1, .slice f1 l1 c1, .int .i64 u1, .slice hh1 m1 cc1, .int .i64 t2, .slice f2 l2 c2, .int .i64 u2, .slice hh2 m2 cc2] 86)) (Nat.le_refl _))
    rw [World.size_alloc] at this
    exact this.keep (bl1 _ _)
  have S := Lib.hid S0
  clear ha hb S0
  go_enter Tryz.func65, Tryz.ntmps65
  go_upto_region 1 with fail
  go_cut [] (fun wx => Below w.heap.size w wx ∧ HVA (w.heap.size + 1 + 1) (a - c) (b - d) wx)
  case first =>
    rename_i J K' hJ hK
    refine wp_region_two DI65 (tabI65 w a b c d) (Gpp86 w a b c d) 11 (fun _ _ w' => Below w.heap.size w w' ∧ HVA (w.heap.size + 1 + 1) (a - c) (b - d) w') (by kernel_rfl) (by kernel_rfl) (by kernel_rfl) (by kernel_rfl) (by decide) (by kernel_rfl) (fun _ _ h hb => h.keep hb) (S.out.keep (Below.refl _ _).drew) ?_ ?_ ?_
    ·
      refine .cons (fun f w' hI hs => ⟨wanted_none rfl, _, rfl, .val (rn_field86_0 rfl (fr_old rfl rfl)) ⟨Below.refl _ _, rfl⟩⟩) ?_
      refine .cons (fun f w' hI hs => ?_) ?_
      · obtain ⟨t1, f1, l1, c1, u1, hh1, m1, cc1, t2, f2, l2, c2, u2, hh2, m2, cc2, e1, e2, e3⟩ := hI.u
        exact ⟨wanted_none rfl, _, rfl, .val (rn_load44a rfl ((fr_own rfl rfl).trans (hs 5 (by kernel_rfl))) e1) ⟨Below.refl _ _, e2⟩⟩
      refine .cons (fun f w' hI hs => ⟨wanted_none rfl, _, rfl, .val (rn_field86_0 rfl (fr_old rfl rfl)) ⟨Below.refl _ _, rfl⟩⟩) ?_
      refine .cons (fun f w' hI hs => ?_) ?_
      · obtain ⟨t1, f1, l1, c1, u1, hh1, m1, cc1, t2, f2, l2, c2, u2, hh2, m2, cc2, e1, e2, e3⟩ := hI.v
        exact ⟨wanted_none rfl, _, rfl, .val (rn_load44a rfl ((fr_own rfl rfl).trans (hs 7 (by kernel_rfl))) e1) ⟨Below.refl _ _, e2⟩⟩
      refine .cons (fun f w' hI hs => ⟨wanted_none rfl, _, rfl, .call2 rfl cf45' rfl rfl rfl rfl (PRA.kd (rsubr_any _ _ a c (a - c) _ _ _ (hs 6 (by kernel_rfl)) (hs 8 (by kernel_rfl)) ba bc (by omega) rfl))⟩) ?_
      refine .cons (fun f w' hI hs => ⟨wanted_none rfl, _, rfl, .val (rn_field86_1 rfl (fr_old rfl rfl)) ⟨Below.refl _ _, rfl⟩⟩) ?_
      refine .cons (fun f w' hI hs => ?_) ?_
      · obtain ⟨t1, f1, l1, c1, u1, hh1, m1, cc1, t2, f2, l2, c2, u2, hh2, m2, cc2, e1, e2, e3⟩ := hI.u
        exact ⟨wanted_none rfl, _, rfl, .val (rn_load44b rfl ((fr_own rfl rfl).trans (hs 10 (by kernel_rfl))) e1) ⟨Below.refl _ _, e3⟩⟩
      refine .cons (fun f w' hI hs => ⟨wanted_none rfl, _, rfl, .val (rn_field86_1 rfl (fr_old rfl rfl)) ⟨Below.refl _ _, rfl⟩⟩) ?_
      refine .cons (fun f w' hI hs => ?_) ?_
      · obtain ⟨t1, f1, l1, c1, u1, hh1, m1, cc1, t2, f2, l2, c2, u2, hh2, m2, cc2, e1, e2, e3⟩ := hI.v
        exact ⟨wanted_none rfl, _, rfl, .val (rn_load44b rfl ((fr_own rfl rfl).trans (hs 12 (by kernel_rfl))) e1) ⟨Below.refl _ _, e3⟩⟩
      refine .cons (fun f w' hI hs => ⟨wanted_none rfl, _, rfl, .call2 rfl cf45' rfl rfl rfl rfl (PRA.kd (rsubr_any _ _ b d (b - d) _ _ _ (hs 11 (by kernel_rfl)) (hs 13 (by kernel_rfl)) bb bd (by omega) rfl))⟩) ?_
      refine .cons (fun f w' hI hs => ?_) ?_
      · have j1 : RA w' (f 9) (a - c) := (hs 9 (by kernel_rfl))
        have j2 : RA w' (f 14) (b - d) := (hs 14 (by kernel_rfl))
        obtain ⟨t1, f1, l1, c1, u1, hh1, m1, cc1, e1⟩ := j1.agg
        obtain ⟨t2, f2, l2, c2, u2, hh2, m2, cc2, e2⟩ := j2.agg
        rw [e1] at j1
        rw [e2] at j2
        exact ⟨wanted_none rfl, _, rfl, .val (rn_build86 rfl ((fr_own rfl rfl).trans e1) ((fr_own rfl rfl).trans e2)) ⟨Below.refl _ _, t1, f1, l1, c1, u1, hh1, m1, cc1, t2, f2, l2, c2, u2, hh2, m2, cc2, rfl, j1, j2⟩⟩
      exact .nil
    · refine .cons (fun f w' h => ⟨wanted_none rfl, ?_⟩) .nil
      obtain ⟨hI, hs⟩ := (if_pos rfl) ▸ h
      have hv : RVA w' (f 15) (a - c) (b - d) := (hs 15 (by kernel_rfl))
      obtain ⟨t1, f1, l1, c1, u1, hh1, m1, cc1, t2, f2, l2, c2, u2, hh2, m2, cc2, e1⟩ := hv.agg
      rw [e1] at hv
      have hz := hI.t
      exact .skip (rn_store86 rfl (fr_old rfl rfl) ((fr_own rfl rfl).trans e1) hz) ⟨below8 hI.kb (by omega) _ _ _ _ _ _ _ _, HVA.stored hz hv⟩
    · intro f w' h
      refine hK _ _ (Met.intro (hJ _ _ ?_))
      (repeat apply Exists.intro)
      refine ⟨?_, rfl⟩
      exact h
  case rest =>
    obtain ⟨kf, t1, f1, l1, c1, u1, hh1, m1, cc1, t2, f2, l2, c2, u2, hh2, m2, cc2, e1, e2, e3⟩ := hcut
    have i0 := cell_blk (i := 0) e1
    have i1 := cell_blk (i := 1) e1
    have i2 := cell_blk (i := 2) e1
    have i3 := cell_blk (i := 3) e1
    have i4 := cell_blk (i := 4) e1
    have i5 := cell_blk (i := 5) e1
    have i6 := cell_blk (i := 6) e1
    have i7 := cell_blk (i := 7) e1
    have KF := Lib.hid kf
    have VV1 := Lib.hid (show RVA wc (.agg #[.int .i64 t1, .slice f1 l1 c1, .int .i64 u1, .slice hh1 m1 cc1, .int .i64 t2, .slice f2 l2 c2, .int .i64 u2, .slice hh2 m2 cc2]) (a - c) (b - d) from ⟨t1, f1, l1, c1, u1, hh1, m1, cc1, t2, f2, l2, c2, u2, hh2, m2, cc2, rfl, e2, e3⟩)
    clear e1 e2 e3 kf S
    go_wp2
    exact bodyPost_ret (v := .agg #[.int .i64 t1, .slice f1 l1 c1, .int .i64 u1, .slice hh1 m1 cc1, .int .i64 t2, .slice f2 l2 c2, .int .i64 u2, .slice hh2 m2 cc2]) (by simp [results, Tryz.results65, go_sem, i0, i1, i2, i3, i4, i5, i6, i7]) rfl ⟨KF.out, _, rfl, VV1.out⟩
def tabI67 (w : World) (a b c : Rat) (tt : Nat) : Kd := [(kp w.heap.size 0), (kra a), (kra c), (kra (a * c)), (kp w.heap.size 4), (kra b), (kra c), (kra (b * c)), (kva (a * c) (b * c))].getD (tt - 5) .any
def DI67 (t : Nat) : Bool := (Nat.ble 5 t && Nat.ble t 13)
set_option maxHeartbeats 1600000 in
theorem vscaler_any (va vb : Value) (a b c : Rat) (k l : Nat) (w : World) (ha : RVA w va a b) (hb : RA w vb c) (ba : Bd9 k a) (bb : Bd9 k b) (bc : Bd9 l c) (hk : k + l ≤ 75) : Calls Tryz.prog 67 #[va, vb] w (PVA (a * c) (b * c) w) := by
  obtain ⟨t1, f1, l1, c1, u1, hh1, m1, cc1, t2, f2, l2, c2, u2, hh2, m2, cc2, rfl⟩ := ha.agg
  obtain ⟨t3, f3, l3, c3, u3, hh3, m3, cc3, rfl⟩ := hb.agg
  have S0 : Gpr86 w a b c 0 (((w.alloc (.cells #[.int .i64 t1, .slice f1 l1 c1, .int .i64 u1, .slice hh1 m1 cc1, .int .i64 t2, .slice f2 l2 c2, .int .i64 u2, .slice hh2 m2 cc2] 86)).alloc (.cells #[.int .i64 t3, .slice f3 l3 c3, .int .i64 u3, .slice hh3 m3 cc3] 44)).alloc (.cells #[.int .i64 0, .slice none 0 0, .int .i64 0, .slice none 0 0, .int .i64 0, .slice none 0 0, .int .i64 0, .slice none 0 0] 86)) := by
    refine ⟨bl3 _ _ _ _, ((HVA.new ha).keep (bl1 _ _)).keep (bl1 _ _), ?_, b8_new _ (by simp)⟩
    have := HA.new (hb.keep (bl1 w (.cells #[.int .i64 t1, .slice f1 l1 c1, .int .i64 u1, .slice hh1 m1 cc1, .int .i64 t2, .slice f2 l2 c2, .int .i64 u2, .slice hh2 m2 cc2] 86)) (Nat.le_refl _))
    rw [World.size_alloc] at this
    exact this.keep (bl1 _ _)
  have S := Lib.hid S0
  clear ha hb S0
  go_enter Tryz.func67, Tryz.ntmps67
  go_upto_region 1 with fail
  go_cut [] (fun wx => Below w.heap.size w wx ∧ HVA (w.heap.size + 1 + 1) (a * c) (b * c) wx)
  case first =>
    rename_i J K' hJ hK
    refine wp_region_two DI67 (tabI67 w a b c) (Gpr86 w a b c 0) 9 (fun _ _ w' => Below w.heap.size w w' ∧ HVA (w.heap.size + 1 + 1) (a * c) (b * c) w') (by kernel_rfl) (by kernel_rfl) (by kernel_rfl) (by kernel_rfl) (by decide) (by kernel_rfl) (fun _ _ h hb => h.keep hb) (S.out.keep (Below.refl _ _).drew) ?_ ?_ ?_
    ·
      refine .cons (fun f w' hI hs => ⟨wanted_none rfl, _, rfl, .val (rn_field86_0 rfl (fr_old rfl rfl)) ⟨Below.refl _ _, rfl⟩⟩) ?_
      refine .cons (fun f w' hI hs => ?_) ?_
      · obtain ⟨t1, f1, l1, c1, u1, hh1, m1, cc1, t2, f2, l2, c2, u2, hh2, m2, cc2, e1, e2, e3⟩ := hI.u
        exact ⟨wanted_none rfl, _, rfl, .val (rn_load44a rfl ((fr_own rfl rfl).trans (hs 5 (by kernel_rfl))) e1) ⟨Below.refl _ _, e2⟩⟩
      refine .cons (fun f w' hI hs => ?_) ?_
      · obtain ⟨s1, p1, l1, c1, s2, p2, l2, c2, e1, e2, e3⟩ := hI.v
        exact ⟨wanted_none rfl, _, rfl, .val (rn_load44 rfl (fr_old rfl rfl) e1) ⟨Below.refl _ _, e2⟩⟩
      refine .cons (fun f w' hI hs => ⟨wanted_none rfl, _, rfl, .call2 rfl cf47' rfl rfl rfl rfl (PRA.kd (rmulr_any _ _ a c (a * c) _ _ _ (hs 6 (by kernel_rfl)) (hs 7 (by kernel_rfl)) ba bc (by omega) rfl))⟩) ?_
      refine .cons (fun f w' hI hs => ⟨wanted_none rfl, _, rfl, .val (rn_field86_1 rfl (fr_old rfl rfl)) ⟨Below.refl _ _, rfl⟩⟩) ?_
      refine .cons (fun f w' hI hs => ?_) ?_
      · obtain ⟨t1, f1, l1, c1, u1, hh1, m1, cc1, t2, f2, l2, c2, u2, hh2, m2, cc2, e1, e2, e3⟩ := hI.u
        exact ⟨wanted_none rfl, _, rfl, .val (rn_load44b rfl ((fr_own rfl rfl).trans (hs 9 (by kernel_rfl))) e1) ⟨Below.refl _ _, e3⟩⟩
      refine .cons (fun f w' hI hs => ?_) ?_
      · obtain ⟨s1, p1, l1, c1, s2, p2, l2, c2, e1, e2, e3⟩ := hI.v
        exact ⟨wanted_none rfl, _, rfl, .val (rn_load44 rfl (fr_old rfl rfl) e1) ⟨Below.refl _ _, e2⟩⟩
      refine .cons (fun f w' hI hs => ⟨wanted_none rfl, _, rfl, .call2 rfl cf47' rfl rfl rfl rfl (PRA.kd (rmulr_any _ _ b c (b * c) _ _ _ (hs 10 (by kernel_rfl)) (hs 11 (by kernel_rfl)) bb bc (by omega) rfl))⟩) ?_
      refine .cons (fun f w' hI hs => ?_) ?_
      · have j1 : RA w' (f 8) (a * c) := (hs 8 (by kernel_rfl))
        have j2 : RA w' (f 12) (b * c) := (hs 12 (by kernel_rfl))
        obtain ⟨t1, f1, l1, c1, u1, hh1, m1, cc1, e1⟩ := j1.agg
        obtain ⟨t2, f2, l2, c2, u2, hh2, m2, cc2, e2⟩ := j2.agg
        rw [e1] at j1
        rw [e2] at j2
        exact ⟨wanted_none rfl, _, rfl, .val (rn_build86 rfl ((fr_own rfl rfl).trans e1) ((fr_own rfl rfl).trans e2)) ⟨Below.refl _ _, t1, f1, l1, c1, u1, hh1, m1, cc1, t2, f2, l2, c2, u2, hh2, m2, cc2, rfl, j1, j2⟩⟩
      exact .nil
    · refine .cons (fun f w' h => ⟨wanted_none rfl, ?_⟩) .nil
      obtain ⟨hI, hs⟩ := (if_pos rfl) ▸ h
      have hv : RVA w' (f 13) (a * c) (b * c) := (hs 13 (by kernel_rfl))
      obtain ⟨t1, f1, l1, c1, u1, hh1, m1, cc1, t2, f2, l2, c2, u2, hh2, m2, cc2, e1⟩ := hv.agg
      rw [e1] at hv
      have hz := hI.t
      exact .skip (rn_store86 rfl (fr_old rfl rfl) ((fr_own rfl rfl).trans e1) hz) ⟨below8 hI.kb (by omega) _ _ _ _ _ _ _ _, HVA.stored hz hv⟩
    · intro f w' h
      refine hK _ _ (Met.intro (hJ _ _ ?_))
      (repeat apply Exists.intro)
      refine ⟨?_, rfl⟩
      exact h
  case rest =>
    obtain ⟨kf, t1, f1, l1, c1, u1, hh1, m1, cc1, t2, f2, l2, c2, u2, hh2, m2, cc2, e1, e2, e3⟩ := hcut
    have i0 := cell_blk (i := 0) e1
    have i1 := cell_blk (i := 1) e1
    have i2 := cell_blk (i := 2) e1
    have i3 := cell_blk (i := 3) e1
    have i4 := cell_blk (i := 4) e1
    have i5 := cell_blk (i := 5) e1
    have i6 := cell_blk (i := 6) e1
    have i7 := cell_blk (i := 7) e1
    have KF := Lib.hid kf
    have VV1 := Lib.hid (show RVA wc (.agg #[.int .i64 t1, .slice f1 l1 c1, .int .i64 u1, .slice hh1 m1 cc1, .int .i64 t2, .slice f2 l2 c2, .int .i64 u2, .slice hh2 m2 cc2]) (a * c) (b * c) from ⟨t1, f1, l1, c1, u1, hh1, m1, cc1, t2, f2, l2, c2, u2, hh2, m2, cc2, rfl, e2, e3⟩)
    clear e1 e2 e3 kf S
    go_wp2
    exact bodyPost_ret (v := .agg #[.int .i64 t1, .slice f1 l1 c1, .int .i64 u1, .slice hh1 m1 cc1, .int .i64 t2, .slice f2 l2 c2, .int .i64 u2, .slice hh2 m2 cc2]) (by simp [results, Tryz.results67, go_sem, i0, i1, i2, i3, i4, i5, i6, i7]) rfl ⟨KF.out, _, rfl, VV1.out⟩
def tabI69 (w : World) (a b c d : Rat) (tt : Nat) : Kd := [(kp w.heap.size 0), (kra a), (kp (w.heap.size + 1) 0), (kra c), (kra (a * c)), (kp w.heap.size 4), (kra b), (kp (w.heap.size + 1) 4), (kra d), (kra (b * d)), (kra ((a * c) + (b * d)))].getD (tt - 5) .any
def DI69 (t : Nat) : Bool := (Nat.ble 5 t && Nat.ble t 15)
set_option maxHeartbeats 1600000 in
theorem vdotr_any (va vb : Value) (a b c d : Rat) (k l : Nat) (w : World) (ha : RVA w va a b) (hb : RVA w vb c d) (ba : Bd9 k a) (bb : Bd9 k b) (bc : Bd9 l c) (bd : Bd9 l d) (hk : k + l + (k + l) + 1 ≤ 75) : Calls Tryz.prog 69 #[va, vb] w (PRA (a * c + b * d) w) := by
  obtain ⟨t1, f1, l1, c1, u1, hh1, m1, cc1, t2, f2, l2, c2, u2, hh2, m2, cc2, rfl⟩ := ha.agg
  obtain ⟨t3, f3, l3, c3, u3, hh3, m3, cc3, t4, f4, l4, c4, u4, hh4, m4, cc4, rfl⟩ := hb.agg
  have S0 : Gpp44 w a b c d (((w.alloc (.cells #[.int .i64 t1, .slice f1 l1 c1, .int .i64 u1, .slice hh1 m1 cc1, .int .i64 t2, .slice f2 l2 c2, .int .i64 u2, .slice hh2 m2 cc2] 86)).alloc (.cells #[.int .i64 t3, .slice f3 l3 c3, .int .i64 u3, .slice hh3 m3 cc3, .int .i64 t4, .slice f4 l4 c4, .int .i64 u4, .slice hh4 m4 cc4] 86)).alloc (.cells #[.int .i64 0, .slice none 0 0, .int .i64 0, .slice none 0 0] 44)) := by
    refine ⟨bl3 _ _ _ _, ((HVA.new ha).keep (bl1 _ _)).keep (bl1 _ _), ?_, r4_new _ (by simp)⟩
    have := HVA.new (hb.keep (bl1 w (.cells #[.int .i64 t1, .slice f1 l1 c1, .int .i64 u1, .slice hh1 m1 cc1, .int .i64 t2, .slice f2 l2 c2, .int .i64 u2, .slice hh2 m2 cc2] 86)) (Nat.le_refl _))
    rw [World.size_alloc] at this
    exact this.keep (bl1 _ _)
  have S := Lib.hid S0
  clear ha hb S0
  go_enter Tryz.func69, Tryz.ntmps69
  go_upto_region 1 with fail
  go_cut [] (fun wx => Below w.heap.size w wx ∧ HA (w.heap.size + 1 + 1) (a * c + b * d) wx)
  case first =>
    rename_i J K' hJ hK
    refine wp_region_two DI69 (tabI69 w a b c d) (Gpp44 w a b c d) 11 (fun _ _ w' => Below w.heap.size w w' ∧ HA (w.heap.size + 1 + 1) (a * c + b * d) w') (by kernel_rfl) (by kernel_rfl) (by kernel_rfl) (by kernel_rfl) (by decide) (by kernel_rfl) (fun _ _ h hb => h.keep hb) (S.out.keep (Below.refl _ _).drew) ?_ ?_ ?_
    ·
      refine .cons (fun f w' hI hs => ⟨wanted_none rfl, _, rfl, .val (rn_field86_0 rfl (fr_old rfl rfl)) ⟨Below.refl _ _, rfl⟩⟩) ?_
      refine .cons (fun f w' hI hs => ?_) ?_
      · obtain ⟨t1, f1, l1, c1, u1, hh1, m1, cc1, t2, f2, l2, c2, u2, hh2, m2, cc2, e1, e2, e3⟩ := hI.u
        exact ⟨wanted_none rfl, _, rfl, .val (rn_load44a rfl ((fr_own rfl rfl).trans (hs 5 (by kernel_rfl))) e1) ⟨Below.refl _ _, e2⟩⟩
      refine .cons (fun f w' hI hs => ⟨wanted_none rfl, _, rfl, .val (rn_field86_0 rfl (fr_old rfl rfl)) ⟨Below.refl _ _, rfl⟩⟩) ?_
      refine .cons (fun f w' hI hs => ?_) ?_
      · obtain ⟨t1, f1, l1, c1, u1, hh1, m1, cc1, t2, f2, l2, c2, u2, hh2, m2, cc2, e1, e2, e3⟩ := hI.v
        exact ⟨wanted_none rfl, _, rfl, .val (rn_load44a rfl ((fr_own rfl rfl).trans (hs 7 (by kernel_rfl))) e1) ⟨Below.refl _ _, e2⟩⟩
      refine .cons (fun f w' hI hs => ⟨wanted_none rfl, _, rfl, .call2 rfl cf47' rfl rfl rfl rfl (PRA.kd (rmulr_any _ _ a c (a * c) _ _ _ (hs 6 (by kernel_rfl)) (hs 8 (by kernel_rfl)) ba bc (by omega) rfl))⟩) ?_
      refine .cons (fun f w' hI hs => ⟨wanted_none rfl, _, rfl, .val (rn_field86_1 rfl (fr_old rfl rfl)) ⟨Below.refl _ _, rfl⟩⟩) ?_
      refine .cons (fun f w' hI hs => ?_) ?_
      · obtain ⟨t1, f1, l1, c1, u1, hh1, m1, cc1, t2, f2, l2, c2, u2, hh2, m2, cc2, e1, e2, e3⟩ := hI.u
        exact ⟨wanted_none rfl, _, rfl, .val (rn_load44b rfl ((fr_own rfl rfl).trans (hs 10 (by kernel_rfl))) e1) ⟨Below.refl _ _, e3⟩⟩
      refine .cons (fun f w' hI hs => ⟨wanted_none rfl, _, rfl, .val (rn_field86_1 rfl (fr_old rfl rfl)) ⟨Below.refl _ _, rfl⟩⟩) ?_
      refine .cons (fun f w' hI hs => ?_) ?_
      · obtain ⟨t1, f1, l1, c1, u1, hh1, m1, cc1, t2, f2, l2, c2, u2, hh2, m2, cc2, e1, e2, e3⟩ := hI.v
        exact ⟨wanted_none rfl, _, rfl, .val (rn_load44b rfl ((fr_own rfl rfl).trans (hs 12 (by kernel_rfl))) e1) ⟨Below.refl _ _, e3⟩⟩
      refine .cons (fun f w' hI hs => ⟨wanted_none rfl, _, rfl, .call2 rfl cf47' rfl rfl rfl rfl (PRA.kd (rmulr_any _ _ b d (b * d) _ _ _ (hs 11 (by kernel_rfl)) (hs 13 (by kernel_rfl)) bb bd (by omega) rfl))⟩) ?_
      refine .cons (fun f w' hI hs => ⟨wanted_none rfl, _, rfl, .call2 rfl cf43' rfl rfl rfl rfl (PRA.kd (raddr_any _ _ (a * c) (b * d) ((a * c) + (b * d)) _ _ _ (hs 9 (by kernel_rfl)) (hs 14 (by kernel_rfl)) (Bd9.mul ba bc) (Bd9.mul bb bd) (by omega) rfl))⟩) ?_
      exact .nil
    · refine .cons (fun f w' h => ⟨wanted_none rfl, ?_⟩) .nil
      obtain ⟨hI, hs⟩ := (if_pos rfl) ▸ h
      have hv : RA w' (f 15) (a * c + b * d) := (hs 15 (by kernel_rfl))
      obtain ⟨dd, hv, hd⟩ := hv
      obtain ⟨t1, f1, l1, c1, u1, hh1, m1, cc1, e1⟩ := hv.agg
      rw [e1] at hv
      have hz := hI.t
      have hq := Go.Proofs.YtjjomjjgoceklaaGreat.HR.stored hz hv
      exact .skip (rn_store44 rfl (fr_old rfl rfl) ((fr_own rfl rfl).trans e1) hz) ⟨below4r hI.kb (by omega) _ _ _ _, HA.ofHR hq hd⟩
    · intro f w' h
      refine hK _ _ (Met.intro (hJ _ _ ?_))
      (repeat apply Exists.intro)
      refine ⟨?_, rfl⟩
      exact h
  case rest =>
    obtain ⟨kf, t1, f1, l1, c1, u1, hh1, m1, cc1, e1, e2, e3⟩ := hcut
    have i0 := cell_blk (i := 0) e1
    have i1 := cell_blk (i := 1) e1
    have i2 := cell_blk (i := 2) e1
    have i3 := cell_blk (i := 3) e1
    have KF := Lib.hid kf
    have VV1 := Lib.hid (show RA wc (.agg #[.int .i64 t1, .slice f1 l1 c1, .int .i64 u1, .slice hh1 m1 cc1]) (a * c + b * d) from e2)
    clear e1 e2 e3 kf S
    go_wp2
    exact bodyPost_ret (v := .agg #[.int .i64 t1, .slice f1 l1 c1, .int .i64 u1, .slice hh1 m1 cc1]) (by simp [results, Tryz.results69, go_sem, i0, i1, i2, i3]) rfl ⟨KF.out, _, rfl, VV1.out⟩
def tabI71 (w : World) (a b c d : Rat) (tt : Nat) : Kd := [(kp w.heap.size 0), (kra a), (kp (w.heap.size + 1) 4), (kra d), (kra (a * d)), (kp w.heap.size 4), (kra b), (kp (w.heap.size + 1) 0), (kra c), (kra (b * c)), (kra ((a * d) - (b * c)))].getD (tt - 5) .any
def DI71 (t : Nat) : Bool := (Nat.ble 5 t && Nat.ble t 15)
set_option maxHeartbeats 1600000 in
theorem vcrossr_any (va vb : Value) (a b c d : Rat) (k l : Nat) (w : World) (ha : RVA w va a b) (hb : RVA w vb c d) (ba : Bd9 k a) (bb : Bd9 k b) (bc : Bd9 l c) (bd : Bd9 l d) (hk : k + l + (k + l) + 1 ≤ 75) : Calls Tryz.prog 71 #[va, vb] w (PRA (a * d - b * c) w) := by
  obtain ⟨t1, f1, l1, c1, u1, hh1, m1, cc1, t2, f2, l2, c2, u2, hh2, m2, cc2, rfl⟩ := ha.agg
  obtain ⟨t3, f3, l3, c3, u3, hh3, m3, cc3, t4, f4, l4, c4, u4, hh4, m4, cc4, rfl⟩ := hb.agg
  have S0 : Gpp44 w a b c d (((w.alloc (.cells #[.int .i64 t1, .slice f1 l1 c1, .int .i64 u1, .slice hh1 m1 cc1, .int .i64 t2, .slice f2 l2 c2, .int .i64 u2, .slice hh2 m2 cc2] 86)).alloc (.cells #[.int .i64 t3, .slice f3 l3 c3, .int .i64 u3, .slice hh3 m3 cc3, .int .i64 t4, .slice f4 l4 c4, .int .i64 u4, .slice hh4 m4 cc4] 86)).alloc (.cells #[.int .i64 0, .slice none 0 0, .int .i64 0, .slice none 0 0] 44)) := by
    refine ⟨bl3 _ _ _ _, ((HVA.new ha).keep (bl1 _ _)).keep (bl1 _ _), ?_, r4_new _ (by simp)⟩
    have := HVA.new (hb.keep (bl1 w (.cells #[.int .i64 t1, .slice f1 l1 c1, .int .i64 u1, .slice hh1 m1 cc1, .int .i64 t2, .slice f2 l2 c2, .int .i64 u2, .slice hh2 m2 cc2] 86)) (Nat.le_refl _))
    rw [World.size_alloc] at this
    exact this.keep (bl1 _ _)
  have S := Lib.hid S0
  clear ha hb S0
  go_enter Tryz.func71, Tryz.ntmps71
  go_upto_region 1 with fail
  go_cut [] (fun wx => Below w.heap.size w wx ∧ HA (w.heap.size + 1 + 1) (a * d - b * c) wx)
  case first =>
    rename_i J K' hJ hK
    refine wp_region_two DI71 (tabI71 w a b c d) (Gpp44 w a b c d) 11 (fun _ _ w' => Below w.heap.size w w' ∧ HA (w.heap.size + 1 + 1) (a * d - b * c) w') (by kernel_rfl) (by kernel_rfl) (by kernel_rfl) (by kernel_rfl) (by decide) (by kernel_rfl) (fun _ _ h hb => h.keep hb) (S.out.keep (Below.refl _ _).drew) ?_ ?_ ?_
    ·
      refine .cons (fun f w' hI hs => ⟨wanted_none rfl, _, rfl, .val (rn_field86_0 rfl (fr_old rfl rfl)) ⟨Below.refl _ _, rfl⟩⟩) ?_
      refine .cons (fun f w' hI hs => ?_) ?_
      · obtain ⟨t1, f1, l1, c1, u1, hh1, m1, cc1, t2, f2, l2, c2, u2, hh2, m2, cc2, e1, e2, e3⟩ := hI.u
        exact ⟨wanted_none rfl, _, rfl, .val (rn_load44a rfl ((fr_own rfl rfl).trans (hs 5 (by kernel_rfl))) e1) ⟨Below.refl _ _, e2⟩⟩
      refine .cons (fun f w' hI hs => ⟨wanted_none rfl, _, rfl, .val (rn_field86_1 rfl (fr_old rfl rfl)) ⟨Below.refl _ _, rfl⟩⟩) ?_
      refine .cons (fun f w' hI hs => ?_) ?_
      · obtain ⟨t1, f1, l1, c1, u1, hh1, m1, cc1, t2, f2, l2, c2, u2, hh2, m2, cc2, e1, e2, e3⟩ := hI.v
        exact ⟨wanted_none rfl, _, rfl, .val (rn_load44b rfl ((fr_own rfl rfl).trans (hs 7 (by kernel_rfl))) e1) ⟨Below.refl _ _, e3⟩⟩
      refine .cons (fun f w' hI hs => ⟨wanted_none rfl, _, rfl, .call2 rfl cf47' rfl rfl rfl rfl (PRA.kd (rmulr_any _ _ a d (a * d) _ _ _ (hs 6 (by kernel_rfl)) (hs 8 (by kernel_rfl)) ba bd (by omega) rfl))⟩) ?_
      refine .cons (fun f w' hI hs => ⟨wanted_none rfl, _, rfl, .val (rn_field86_1 rfl (fr_old rfl rfl)) ⟨Below.refl _ _, rfl⟩⟩) ?_
      refine .cons (fun f w' hI hs => ?_) ?_
      · obtain ⟨t1, f1, l1, c1, u1, hh1, m1, cc1, t2, f2, l2, c2, u2, hh2, m2, cc2, e1, e2, e3⟩ := hI.u
        exact ⟨wanted_none rfl, _, rfl, .val (rn_load44b rfl ((fr_own rfl rfl).trans (hs 10 (by kernel_rfl))) e1) ⟨Below.refl _ _, e3⟩⟩
      refine .cons (fun f w' hI hs => ⟨wanted_none rfl, _, rfl, .val (rn_field86_0 rfl (fr_old rfl rfl)) ⟨Below.refl _ _, rfl⟩⟩) ?_
      refine .cons (fun f w' hI hs => ?_) ?_
      · obtain ⟨t1, f1, l1, c1, u1, hh1, m1, cc1, t2, f2, l2, c2, u2, hh2, m2, cc2, e1, e2, e3⟩ := hI.v
        exact ⟨wanted_none rfl, _, rfl, .val (rn_load44a rfl ((fr_own rfl rfl).trans (hs 12 (by kernel_rfl))) e1) ⟨Below.refl _ _, e2⟩⟩
      refine .cons (fun f w' hI hs => ⟨wanted_none rfl, _, rfl, .call2 rfl cf47' rfl rfl rfl rfl (PRA.kd (rmulr_any _ _ b c (b * c) _ _ _ (hs 11 (by kernel_rfl)) (hs 13 (by kernel_rfl)) bb bc (by omega) rfl))⟩) ?_
      refine .cons (fun f w' hI hs => ⟨wanted_none rfl, _, rfl, .call2 rfl cf45' rfl rfl rfl rfl (PRA.kd (rsubr_any _ _ (a * d) (b * c) ((a * d) - (b * c)) _ _ _ (hs 9 (by kernel_rfl)) (hs 14 (by kernel_rfl)) (Bd9.mul ba bd) (Bd9.mul bb bc) (by omega) rfl))⟩) ?_
      exact .nil
    · refine .cons (fun f w' h => ⟨wanted_none rfl, ?_⟩) .nil
      obtain ⟨hI, hs⟩ := (if_pos rfl) ▸ h
      have hv : RA w' (f 15) (a * d - b * c) := (hs 15 (by kernel_rfl))
      obtain ⟨dd, hv, hd⟩ := hv
      obtain ⟨t1, f1, l1, c1, u1, hh1, m1, cc1, e1⟩ := hv.agg
      rw [e1] at hv
      have hz := hI.t
      have hq := Go.Proofs.YtjjomjjgoceklaaGreat.HR.stored hz hv
      exact .skip (rn_store44 rfl (fr_old rfl rfl) ((fr_own rfl rfl).trans e1) hz) ⟨below4r hI.kb (by omega) _ _ _ _, HA.ofHR hq hd⟩
    · intro f w' h
      refine hK _ _ (Met.intro (hJ _ _ ?_))
      (repeat apply Exists.intro)
      refine ⟨?_, rfl⟩
      exact h
  case rest =>
    obtain ⟨kf, t1, f1, l1, c1, u1, hh1, m1, cc1, e1, e2, e3⟩ := hcut
    have i0 := cell_blk (i := 0) e1
    have i1 := cell_blk (i := 1) e1
    have i2 := cell_blk (i := 2) e1
    have i3 := cell_blk (i := 3) e1
    have KF := Lib.hid kf
    have VV1 := Lib.hid (show RA wc (.agg #[.int .i64 t1, .slice f1 l1 c1, .int .i64 u1, .slice hh1 m1 cc1]) (a * d - b * c) from e2)
    clear e1 e2 e3 kf S
    go_wp2
    exact bodyPost_ret (v := .agg #[.int .i64 t1, .slice f1 l1 c1, .int .i64 u1, .slice hh1 m1 cc1]) (by simp [results, Tryz.results71, go_sem, i0, i1, i2, i3]) rfl ⟨KF.out, _, rfl, VV1.out⟩
end Go.Proofs.YtjjomjjgoceklaaGreat
