import Derived.Test.YtljmhejljpfaiaaGreatEa
import Derived.Test.YtljmhejljpfaiaaGreatA
namespace Go.Proofs.YtljmhejljpfaiaaGreat
set_option maxRecDepth 100000
set_option maxRecDepth 100000
open Go.RowKit

/-! the operations of a region, one by one -/
/-- function n is entered -/
def CF (n : FuncId) : Prop := ∀ (W : World) (args : Array Value), (callFunc n args).run Tryz.prog W = .ok (.enter n args) W
section
variable {ρ : Operand → Value} {o : Oper} {w : World} {t x y c : Operand}
theorem rn_move (ho : o.op = .move t) : (execOp ρ o).run Tryz.prog w = .ok (.value (ρ t)) w := by
  unfold execOp; rw [ho]; rfl
theorem rn_idx22 {b oo n cp k : Nat} (ho : o.op = .indexAddr 22 t c) (h1 : ρ t = .slice (some ⟨b, oo, none⟩) n cp) (h2 : ρ c = .int .i64 (k : Int)) (hk : k < n) : (execOp ρ o).run Tryz.prog w = .ok (.value (.pointer (some ⟨b, oo + k * 2, none⟩))) w := by
  have hk' : (k : Int) < (n : Int) := by omega
  unfold execOp; rw [ho]; simp [go_sem, h1, h2, hk']
theorem rn_load24 {b oo : Nat} {p q : Int} (ho : o.op = .load 31 t) (he : ρ t = .pointer (some ⟨b, oo, none⟩)) (h1 : w.cell? ⟨b, oo, none⟩ = some (.int .i64 p)) (h2 : w.cell? ⟨b, oo + 1, none⟩ = some (.int .i64 q)) : (execOp ρ o).run Tryz.prog w = .ok (.value (.agg #[.int .i64 p, .int .i64 q])) w := by
  unfold execOp; rw [ho]; simp [go_sem, he, h1, h2]
theorem rn_alloc24 (ho : o.op = .alloc 31) : (execOp ρ o).run Tryz.prog w = .ok (.value (.pointer (some ⟨w.heap.size, 0, none⟩))) (w.alloc (.cells #[.int .i64 0, .int .i64 0] 31)) := by
  unfold execOp; rw [ho]; simp [go_sem]
theorem rn_store24 {T : Nat} {p0 q0 p q : Int} (ho : o.op = .store 31 t x) (he : ρ t = .pointer (some ⟨T, 0, none⟩)) (hx : ρ x = .agg #[.int .i64 p, .int .i64 q]) (h : w.heap[T]? = some (.cells #[.int .i64 p0, .int .i64 q0] 31 (0, 0))) :
    (execOp ρ o).run Tryz.prog w = .ok .skip ((w.setCell ⟨T, 0, none⟩ (.int .i64 p)).setCell ⟨T, 1, none⟩ (.int .i64 q)) := by
  have h1 : w.cell? ⟨T, 0, none⟩ = some (.int .i64 p0) := by simp [World.cell?, h]
  have h2 : w.cell? ⟨T, 1, none⟩ = some (.int .i64 q0) := by simp [World.cell?, h]
  have h3 : w.frozen? ⟨T, 0, none⟩ = false := by simp [World.frozen?, h]
  have h4 : w.frozen? ⟨T, 1, none⟩ = false := by simp [World.frozen?, h]
  unfold execOp; rw [ho]; simp [go_sem, he, hx, h1, h2, h3, h4]
theorem rn_call2 {n : FuncId} {ts : Array TypeId} (ho : o.op = .call { callee := .value (.func n), args := #[x, y], argTypes := ts }) (hf : ρ (.func n) = .func (.func n) #[] #[]) (hcf : CF n) : (execOp ρ o).run Tryz.prog w = .ok (.enter n #[ρ x, ρ y]) w := by
  unfold execOp; rw [ho]; simp [go_sem, hf]; exact hcf _ _
end
theorem OpR.call2 {o : Oper} {a0 : Act} {D : Nat → Bool} {f : Nat → Value} {w : World} {R : Value → World → Prop} {n : FuncId} {tx ty : Nat} {ts : Array TypeId} (ho : o.op = .call { callee := .value (.func n), args := #[.tmp tx, .tmp ty], argTypes := ts }) (hcf : CF n) (hx : D tx = true) (hx' : (a0.tmps[tx]?).isSome = true) (hy : D ty = true) (hy' : (a0.tmps[ty]?).isSome = true)
    (h : Calls Tryz.prog n #[f tx, f ty] w fun e w' => ∃ v, e = .returned v ∧ R v w') : OpR Tryz.prog o (fr a0 D f) w R := by
  refine .inr (.inr ⟨n, _, rn_call2 ho rfl hcf, ?_⟩)
  rw [fr_own hx hx', fr_own hy hy']
  exact h
/-- a new box of a point -/
def kP (W : Nat) : Kd := .c (fun v w => ∃ T, v = .pointer (some ⟨T, 0, none⟩) ∧ W ≤ T ∧ ∃ x z : Int, w.heap[T]? = some (.cells #[.int .i64 x, .int .i64 z] 31 (0, 0)))
  (fun _ _ _ ⟨T, h1, h2, x, z, h3⟩ hb => ⟨T, h1, h2, x, z, (hb.block T (Array.getElem?_eq_some_iff.1 h3).1).trans h3⟩)
theorem blk2_st {T : Nat} {x z p q : Int} {w : World} (h : w.heap[T]? = some (.cells #[.int .i64 x, .int .i64 z] 31 (0, 0))) : ((w.setCell ⟨T, 0, none⟩ (.int .i64 p)).setCell ⟨T, 1, none⟩ (.int .i64 q)).heap[T]? = some (.cells #[.int .i64 p, .int .i64 q] 31 (0, 0)) := by
  have e1 : (w.setCell ⟨T, 0, none⟩ (.int .i64 p)).heap[T]? = some (.cells #[.int .i64 p, .int .i64 z] 31 (0, 0)) := by
    unfold World.setCell
    dsimp only
    rw [Array.getElem?_modify, if_pos rfl, h]
    rfl
  unfold World.setCell at e1 ⊢
  dsimp only at e1 ⊢
  rw [Array.getElem?_modify, if_pos rfl, e1]
  rfl
theorem blk2_far {T C : Nat} {o : Obj} {p q : Value} {w : World} (h : w.heap[C]? = some o) (hn : C ≠ T) : ((w.setCell ⟨T, 0, none⟩ p).setCell ⟨T, 1, none⟩ q).heap[C]? = some o :=
  (Below.heap_setCell _ _ _ _ hn).trans ((Below.heap_setCell _ _ _ _ hn).trans h)
end Go.Proofs.YtljmhejljpfaiaaGreat
