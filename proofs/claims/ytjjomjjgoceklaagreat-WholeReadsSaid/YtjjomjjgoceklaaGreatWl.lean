import Derived.Test.YtjjomjjgoceklaaGreatWj
import Derived.Test.YtjjomjjgoceklaaGreatWh
namespace Go.Proofs.YtjjomjjgoceklaaGreat
set_option maxRecDepth 100000
open Go.RowKit

/-! the reference's functions on ratios, as the rationals' -/
def RA (w : World) (v : Value) (a : Rat) : Prop := ∃ d : Int, RRv w v a.num d ∧ (d = (a.den : Int) ∨ (d = 0 ∧ a.den = 1))
theorem RA.of {w : World} {v : Value} {a : Rat} (h : RRv w v a.num (a.den : Int)) : RA w v a := ⟨_, h, .inl rfl⟩
theorem RA.keep {w w' : World} {v : Value} {a : Rat} {B : Nat} (h : RA w v a) (hb : Below B w w') (hB : w.heap.size ≤ B) : RA w' v a := by
  obtain ⟨d, h1, h2⟩ := h
  exact ⟨d, h1.keep hb hB, h2⟩
theorem RA.agg {w : World} {v : Value} {a : Rat} (h : RA w v a) : ∃ (s1 : Int) (p1 : Option Addr) (l1 c1 : Nat) (s2 : Int) (p2 : Option Addr) (l2 c2 : Nat), v = .agg #[.int .i64 s1, .slice p1 l1 c1, .int .i64 s2, .slice p2 l2 c2] := by
  obtain ⟨d, h1, _⟩ := h
  exact h1.agg
/-- its box -/
def HA (T : Nat) (a : Rat) (w : World) : Prop := ∃ (s1 : Int) (p1 : Option Addr) (l1 c1 : Nat) (s2 : Int) (p2 : Option Addr) (l2 c2 : Nat), w.heap[T]? = some (.cells #[.int .i64 s1, .slice p1 l1 c1, .int .i64 s2, .slice p2 l2 c2] 44 (0, 0)) ∧ RA w (.agg #[.int .i64 s1, .slice p1 l1 c1, .int .i64 s2, .slice p2 l2 c2]) a ∧ RZ w (.agg #[.int .i64 s1, .slice p1 l1 c1]) a.num
theorem HA.keep {T : Nat} {a : Rat} {w w' : World} (h : HA T a w) (hb : Below w.heap.size w w') : HA T a w' := by
  obtain ⟨s1, p1, l1, c1, s2, p2, l2, c2, h1, h2, h3⟩ := h
  exact ⟨s1, p1, l1, c1, s2, p2, l2, c2, blk_keep h1 hb, h2.keep hb (Nat.le_refl _), h3.keep hb (Nat.le_refl _)⟩
theorem HA.new {w : World} {a : Rat} {s1 : Int} {p1 : Option Addr} {l1 c1 : Nat} {s2 : Int} {p2 : Option Addr} {l2 c2 : Nat} (h : RA w (.agg #[.int .i64 s1, .slice p1 l1 c1, .int .i64 s2, .slice p2 l2 c2]) a) : HA w.heap.size a (w.alloc (.cells #[.int .i64 s1, .slice p1 l1 c1, .int .i64 s2, .slice p2 l2 c2] 44)) := by
  obtain ⟨d, h1, h2⟩ := id h
  exact ⟨s1, p1, l1, c1, s2, p2, l2, c2, Go.Deep.blk_alloc_new _ _, h.keep (bl1 _ _) (Nat.le_refl _), h1.parts.1.keep (bl1 _ _) (Nat.le_refl _)⟩
def kra (a : Rat) : Kd := .c (fun v w => RA w v a) fun _ _ _ h hb => h.keep hb (Nat.le_refl _)
def PRA (a : Rat) (w : World) (e : Ending) (w' : World) : Prop := Below w.heap.size w w' ∧ ∃ v, e = .returned v ∧ RA w' v a
theorem PRA.kd {a : Rat} {w : World} {g : FuncId} {args : Array Value} (h : Calls Tryz.prog g args w (PRA a w)) : Calls Tryz.prog g args w fun e w' => ∃ v, e = .returned v ∧ (Below w.heap.size w w' ∧ Go.Proofs.YtjjomjjgoceklaaGreat.kd (kra a) v w') := h.mono fun _ _ ⟨hb, v, he, hv⟩ => ⟨v, he, hb, hv⟩
theorem PRR.ra {n d : Int} {a : Rat} {w : World} {g : FuncId} {args : Array Value} (h : Calls Tryz.prog g args w (PRR n d w)) (h1 : n = a.num) (h2 : d = (a.den : Int)) : Calls Tryz.prog g args w (PRA a w) := by
  subst h1; subst h2
  exact h.mono fun _ _ ⟨hb, v, he, hv⟩ => ⟨hb, v, he, .of hv⟩
section
variable {ρ : Operand → Value} {o : Oper} {w : World} {t : Operand}
theorem rn_field44_0 {b : Nat} (ho : o.op = .fieldAddr 44 t 0) (he : ρ t = .pointer (some ⟨b, 0, none⟩)) : (execOp ρ o).run Tryz.prog w = .ok (.value (.pointer (some ⟨b, 0, none⟩))) w := by
  unfold execOp; rw [ho]; simp [go_sem, he]
theorem rn_load41n {T : Nat} {s1 : Int} {p1 : Option Addr} {l1 c1 : Nat} {s2 : Int} {p2 : Option Addr} {l2 c2 : Nat} (ho : o.op = .load 41 t) (he : ρ t = .pointer (some ⟨T, 0, none⟩)) (h : w.heap[T]? = some (.cells #[.int .i64 s1, .slice p1 l1 c1, .int .i64 s2, .slice p2 l2 c2] 44 (0, 0))) : (execOp ρ o).run Tryz.prog w = .ok (.value (.agg #[.int .i64 s1, .slice p1 l1 c1])) w := by
  have g1 : w.cell? ⟨T, 0, none⟩ = some (.int .i64 s1) := by simp [World.cell?, h]
  have g2 : w.cell? ⟨T, 1, none⟩ = some (.slice p1 l1 c1) := by simp [World.cell?, h]
  unfold execOp; rw [ho]; simp [go_sem, he, g1, g2]
end
theorem cf33 : CF 33 := fun W args => by go_simp
theorem rden_any (v : Value) (a : Rat) (w : World) (h : RA w v a) : Calls Tryz.prog 33 #[v] w (PRZ (a.den : Int) w) := by
  obtain ⟨d, ⟨s1, p1, l1, c1, s2, p2, l2, c2, rfl, _, h2⟩, hd⟩ := h
  have hs2 : s2 = d.sign := by
    obtain ⟨_, _, _, e⟩ := h2.agg
    simp at e
    exact e.1
  have H2 := Lib.hid h2
  clear h2
  rcases hd with hd | ⟨hd, h1⟩
  · have : s2 = 1 := by rw [hs2, hd, Int.sign_eq_one_of_pos (by have := a.den_pos; omega)]
    subst this
    subst hd
    clear hs2
    go_enter Tryz.func33, Tryz.ntmps33
    go_wp2
    exact bodyPost_ret (v := .agg #[.int .i64 1, .slice p2 l2 c2]) (by simp [results, Tryz.results33, go_sem]) rfl ⟨bl2 _ _ _, _, rfl, H2.out.keep (bl2 _ _ _) (Nat.le_refl _)⟩
  · have : s2 = 0 := by rw [hs2, hd]; rfl
    subst this
    have h1' : ((a.den : Nat) : Int) = 1 := by omega
    rw [h1']
    clear hs2 hd H2
    go_enter Tryz.func33, Tryz.ntmps33
    go_wp2_with fail
    refine (zint_any 1 _ (by decide)).mono ?_
    rintro e w1 ⟨hb1, v1, rfl, h9⟩
    obtain ⟨s9, p9, l9, c9, rfl, h9⟩ := PRZ.box h9
    have t1 : Bz (w.heap.size + 1) 0 none 0 0 w1 := (bz_new _ _ _ _ _ (by simp)).keep hb1 (by simp)
    have k1 := Below.thru (bl2 w _ _) (by simp <;> omega) hb1
    obtain ⟨m1, m2, m3, m4⟩ := t1.cells
    obtain ⟨g1, g2⟩ := two_cells m1 m2 (.int .i64 s9) (.slice p9 l9 c9)
    have HF := Lib.hid (h9.store t1.noI (grown2 w1 (w.heap.size + 1) 0 1 (.int .i64 s9) (.slice p9 l9 c9)))
    have KF := Lib.hid (below2 k1 (show w.heap.size ≤ w.heap.size + 1 by omega) (.int .i64 s9) (.slice p9 l9 c9))
    clear hb1 h9 k1 t1
    go_wp2
    exact bodyPost_ret (v := .agg #[.int .i64 s9, .slice p9 l9 c9]) (by simp [results, Tryz.results33, go_sem, g1, g2]) rfl ⟨KF.out, _, rfl, HF.out⟩
/-- the absolute value -/
def absQ (a : Rat) : Rat := ⟨(a.num.natAbs : Int), a.den, a.den_nz, by rw [Int.natAbs_natCast]; exact a.reduced⟩
/-- two ratios in boxes, a third box for the result -/
structure G2 (w0 : World) (a b : Rat) (w : World) : Prop where
  k : Below w0.heap.size w0 w
  a : HA w0.heap.size a w
  b : HA (w0.heap.size + 1) b w
  t : R4 (w0.heap.size + 1 + 1) w
theorem G2.keep {w0 w w' : World} {a b : Rat} (h : G2 w0 a b w) (hb : Below w.heap.size w w') : G2 w0 a b w' := ⟨Below.thru h.k h.k.size hb, h.a.keep hb, h.b.keep hb, h.t.keep hb⟩
structure G1 (w0 : World) (a : Rat) (w : World) : Prop where
  k : Below w0.heap.size w0 w
  a : HA w0.heap.size a w
  t : R4 (w0.heap.size + 1) w
theorem G1.keep {w0 w w' : World} {a : Rat} (h : G1 w0 a w) (hb : Below w.heap.size w w') : G1 w0 a w' := ⟨Below.thru h.k h.k.size hb, h.a.keep hb, h.t.keep hb⟩
structure G2c (w0 : World) (a b : Rat) (w : World) : Prop where
  k : Below w0.heap.size w0 w
  a : HA w0.heap.size a w
  b : HA (w0.heap.size + 1) b w
theorem G2c.keep {w0 w w' : World} {a b : Rat} (h : G2c w0 a b w) (hb : Below w.heap.size w w') : G2c w0 a b w' := ⟨Below.thru h.k h.k.size hb, h.a.keep hb, h.b.keep hb⟩
end Go.Proofs.YtjjomjjgoceklaaGreat
