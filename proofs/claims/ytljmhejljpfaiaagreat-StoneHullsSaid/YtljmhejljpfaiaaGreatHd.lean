import Derived.Test.YtljmhejljpfaiaaGreatEb
namespace Go.Proofs.YtljmhejljpfaiaaGreat
set_option maxRecDepth 100000
set_option maxRecDepth 100000
open Go.RowKit

/-! more operations of a region, one by one -/
theorem cf74 : CF 74 := fun W args => by go_simp
section
variable {ρ : Operand → Value} {o : Oper} {w : World} {t x y c : Operand}
theorem rn_assign (ho : o.op = .assign t) : (execOp ρ o).run Tryz.prog w = .ok (.value (ρ t)) w := by
  unfold execOp; rw [ho]; rfl
theorem rn_idx31 {b oo n cp k : Nat} (ho : o.op = .indexAddr 24 t c) (h1 : ρ t = .slice (some ⟨b, oo, none⟩) n cp) (h2 : ρ c = .int .i64 (k : Int)) (hk : k < n) : (execOp ρ o).run Tryz.prog w = .ok (.value (.pointer (some ⟨b, oo + k * 2, none⟩))) w := by
  have hk' : (k : Int) < (n : Int) := by omega
  unfold execOp; rw [ho]; simp [go_sem, h1, h2, hk']
theorem rn_load32 {b oo : Nat} {p q : Int} (ho : o.op = .load 37 t) (he : ρ t = .pointer (some ⟨b, oo, none⟩)) (h1 : w.cell? ⟨b, oo, none⟩ = some (.int .i64 p)) (h2 : w.cell? ⟨b, oo + 1, none⟩ = some (.int .i64 q)) : (execOp ρ o).run Tryz.prog w = .ok (.value (.agg #[.int .i64 p, .int .i64 q])) w := by
  unfold execOp; rw [ho]; simp [go_sem, he, h1, h2]
theorem rn_field34 {b : Nat} (ho : o.op = .fieldAddr 39 t 1) (he : ρ t = .pointer (some ⟨b, 0, none⟩)) : (execOp ρ o).run Tryz.prog w = .ok (.value (.pointer (some ⟨b, 1, none⟩))) w := by
  unfold execOp; rw [ho]; simp [go_sem, he]
theorem rn_load31 {b i n cp : Nat} {p : Option Addr} (ho : o.op = .load 24 t) (he : ρ t = .pointer (some ⟨b, i, none⟩)) (h1 : w.cell? ⟨b, i, none⟩ = some (.slice p n cp)) : (execOp ρ o).run Tryz.prog w = .ok (.value (.slice p n cp)) w := by
  unfold execOp; rw [ho]; simp [go_sem, he, h1]
theorem rn_add3 {a b r : Int} (ho : o.op = .binOp .add 3 t c 3) (h1 : ρ t = .int .i64 a) (h2 : ρ c = .int .i64 b) (hc : IntKind.i64.wrap (a + b) = r) : (execOp ρ o).run Tryz.prog w = .ok (.value (.int .i64 r)) w := by
  subst hc; unfold execOp; rw [ho]; simp [go_sem, h1, h2]
theorem rn_sub3 {a b r : Int} (ho : o.op = .binOp .sub 3 t c 3) (h1 : ρ t = .int .i64 a) (h2 : ρ c = .int .i64 b) (hc : IntKind.i64.wrap (a - b) = r) : (execOp ρ o).run Tryz.prog w = .ok (.value (.int .i64 r)) w := by
  subst hc; unfold execOp; rw [ho]; simp [go_sem, h1, h2]
theorem rn_rem3 {a b r : Int} (ho : o.op = .binOp .rem 3 t c 3) (h1 : ρ t = .int .i64 a) (h2 : ρ c = .int .i64 b) (h0 : ¬ b = 0) (hr : a.tmod b = r) : (execOp ρ o).run Tryz.prog w = .ok (.value (.int .i64 r)) w := by
  subst hr
  unfold execOp; rw [ho]; simp [go_sem, h1, h2, h0]
theorem rn_extract0 {u v : Value} (ho : o.op = .extract t 0) (h1 : ρ t = .tuple #[u, v]) : (execOp ρ o).run Tryz.prog w = .ok (.value u) w := by
  unfold execOp; rw [ho]; simp [go_sem, h1]
theorem rn_extract1 {u v : Value} (ho : o.op = .extract t 1) (h1 : ρ t = .tuple #[u, v]) : (execOp ρ o).run Tryz.prog w = .ok (.value v) w := by
  unfold execOp; rw [ho]; simp [go_sem, h1]
theorem rn_alloc32 (ho : o.op = .alloc 37) : (execOp ρ o).run Tryz.prog w = .ok (.value (.pointer (some ⟨w.heap.size, 0, none⟩))) (w.alloc (.cells #[.int .i64 0, .int .i64 0] 37)) := by
  unfold execOp; rw [ho]; simp [go_sem]
theorem rn_store32 {T : Nat} {p0 q0 p q : Int} (ho : o.op = .store 37 t x) (he : ρ t = .pointer (some ⟨T, 0, none⟩)) (hx : ρ x = .agg #[.int .i64 p, .int .i64 q]) (h : w.heap[T]? = some (.cells #[.int .i64 p0, .int .i64 q0] 37 (0, 0))) :
    (execOp ρ o).run Tryz.prog w = .ok .skip ((w.setCell ⟨T, 0, none⟩ (.int .i64 p)).setCell ⟨T, 1, none⟩ (.int .i64 q)) := by
  have h1 : w.cell? ⟨T, 0, none⟩ = some (.int .i64 p0) := by simp [World.cell?, h]
  have h2 : w.cell? ⟨T, 1, none⟩ = some (.int .i64 q0) := by simp [World.cell?, h]
  have h3 : w.frozen? ⟨T, 0, none⟩ = false := by simp [World.frozen?, h]
  have h4 : w.frozen? ⟨T, 1, none⟩ = false := by simp [World.frozen?, h]
  unfold execOp; rw [ho]; simp [go_sem, he, hx, h1, h2, h3, h4]
end
/-- a new box of a point, of the program's type -/
def kP32 (W : Nat) : Kd := .c (fun v w => ∃ T, v = .pointer (some ⟨T, 0, none⟩) ∧ W ≤ T ∧ ∃ x z : Int, w.heap[T]? = some (.cells #[.int .i64 x, .int .i64 z] 37 (0, 0)))
  (fun _ _ _ ⟨T, h1, h2, x, z, h3⟩ hb => ⟨T, h1, h2, x, z, (hb.block T (Array.getElem?_eq_some_iff.1 h3).1).trans h3⟩)
theorem blk32_st {T : Nat} {x z p q : Int} {w : World} (h : w.heap[T]? = some (.cells #[.int .i64 x, .int .i64 z] 37 (0, 0))) : ((w.setCell ⟨T, 0, none⟩ (.int .i64 p)).setCell ⟨T, 1, none⟩ (.int .i64 q)).heap[T]? = some (.cells #[.int .i64 p, .int .i64 q] 37 (0, 0)) := by
  have e1 : (w.setCell ⟨T, 0, none⟩ (.int .i64 p)).heap[T]? = some (.cells #[.int .i64 p, .int .i64 z] 37 (0, 0)) := by
    unfold World.setCell
    dsimp only
    rw [Array.getElem?_modify, if_pos rfl, h]
    rfl
  unfold World.setCell at e1 ⊢
  dsimp only at e1 ⊢
  rw [Array.getElem?_modify, if_pos rfl, e1]
  rfl
/-- a table: one new box, all other slots hold what is known -/
def tabC (al : Nat) (vals : Nat → Value) (W d : Nat) : Kd := if d = al then kP32 W else .v (vals d)
theorem tabC_st {al : Nat} {vals : Nat → Value} {W T : Nat} {w : World} {p0 q0 p q : Int} (h : w.heap[T]? = some (.cells #[.int .i64 p0, .int .i64 q0] 37 (0, 0))) (d : Nat) (v : Value) (hk : kd (tabC al vals W d) v w) :
    kd (tabC al vals W d) v ((w.setCell ⟨T, 0, none⟩ (.int .i64 p)).setCell ⟨T, 1, none⟩ (.int .i64 q)) := by
  have kp : ∀ v, kd (kP32 W) v w → kd (kP32 W) v ((w.setCell ⟨T, 0, none⟩ (.int .i64 p)).setCell ⟨T, 1, none⟩ (.int .i64 q)) := by
    rintro v ⟨C, h1, h2, x, z, h3⟩
    by_cases e : C = T
    · subst e; exact ⟨C, h1, h2, p, q, blk32_st h3⟩
    · exact ⟨C, h1, h2, x, z, blk2_far h3 e⟩
  unfold tabC at hk ⊢
  split at hk
  · rw [if_pos ‹_›]; exact kp v hk
  · rw [if_neg ‹_›]; exact hk
end Go.Proofs.YtljmhejljpfaiaaGreat
