import Derived.Test.YtjjomjjgoceklaaAq
import Derived.Test.YtjjomjjgoceklaaZh
import Derived.Deep.DeepCutAuto
namespace Go.Proofs.Ytjjomjjgoceklaa
open Go.RowKit

/-- box T holds the integer z, the reference's z -/
def Hz (T : Nat) (z : Int) (w : World) : Prop := ∃ (s : Bool) (x : Int) (p : Option Addr), w.heap[T]? = some (.cells #[.bool s, .int .u64 x, .pointer p] 29 (0, 0)) ∧ Zr w (.agg #[.bool s, .int .u64 x, .pointer p]) z
def Hr (T : Nat) (z : Int) (w : World) : Prop := ∃ (s : Int) (p : Option Addr) (l c : Nat), Bz T s p l c w ∧ RZ w (.agg #[.int .i64 s, .slice p l c]) z
theorem blk_lt {w : World} {T : Nat} {o : Obj} (h : w.heap[T]? = some o) : T < w.heap.size := (Array.getElem?_eq_some_iff.1 h).1
theorem blk_keep {w w' : World} {T : Nat} {o : Obj} (h : w.heap[T]? = some o) (hb : Below w.heap.size w w') : w'.heap[T]? = some o := (hb.block T (blk_lt h)).trans h
theorem blk_other {w w' : World} {T U : Nat} {o : Obj} (h : w.heap[T]? = some o) (hg : w.grownBy w' (some U)) (hne : T ≠ U) : w'.heap[T]? = some o := (hg.block T (blk_lt h) (by intro e; cases e; exact hne rfl)).trans h
theorem Hz.rz {T : Nat} {z : Int} {w : World} (h : Hz T z w) : Rz T w := by obtain ⟨s, x, p, h, _⟩ := h; exact ⟨s, x, p, h⟩
theorem Hz.keep {T : Nat} {z : Int} {w w' : World} (h : Hz T z w) (hb : Below w.heap.size w w') : Hz T z w' := by
  obtain ⟨s, x, p, h1, h2⟩ := h
  exact ⟨s, x, p, blk_keep h1 hb, h2.keep hb (Nat.le_refl _)⟩
theorem Hr.keep {T : Nat} {z : Int} {w w' : World} (h : Hr T z w) (hb : Below w.heap.size w w') : Hr T z w' := by
  obtain ⟨s, p, l, c, h1, h2⟩ := h
  exact ⟨s, p, l, c, blk_keep h1 hb, h2.keep hb (Nat.le_refl _)⟩
theorem Rz.noI {T : Nat} {w : World} (h : Rz T w) : NoI w T := by obtain ⟨s, x, p, h⟩ := h; exact ⟨_, _, _, h, by decide⟩
theorem Bz.odd {T : Nat} {s : Int} {p : Option Addr} {l c : Nat} {w : World} (h : Bz T s p l c w) : Odd T w := by
  have hc : ∀ o, w.cell? ⟨T, o, none⟩ = (#[Value.int .i64 s, .slice p l c] : Array Value)[o]? := fun o => by simp [World.cell?, show w.heap[T]? = _ from h]
  refine ⟨fun o x' y' h1 h2 => ?_, fun p l c h1 => ?_⟩
  · rw [hc] at h1 h2
    match o with
    | 0 => simp at h1
    | 1 => simp at h1
    | o + 2 => simp at h1
  · rw [hc] at h1; simp at h1
/-- a store into another box keeps it -/
theorem Hz.st {T U : Nat} {z : Int} {w w' : World} (h : Hz T z w) (hU : Odd U w) (hg : w.grownBy w' (some U)) (hne : T ≠ U) : Hz T z w' := by
  obtain ⟨s, x, p, h1, h2⟩ := h
  exact ⟨s, x, p, blk_other h1 hg hne, h2.store hU hg⟩
theorem Hr.st {T U : Nat} {z : Int} {w w' : World} (h : Hr T z w) (hU : NoI w U) (hg : w.grownBy w' (some U)) (hne : T ≠ U) : Hr T z w' := by
  obtain ⟨s, p, l, c, h1, h2⟩ := h
  exact ⟨s, p, l, c, blk_other h1 hg hne, h2.store hU hg⟩
theorem Rz.stored {T : Nat} {w : World} (h : Rz T w) (s : Bool) (x : Int) (p : Option Addr) : (st3 w T (.bool s) (.int .u64 x) (.pointer p)).heap[T]? = some (.cells #[.bool s, .int .u64 x, .pointer p] 29 (0, 0)) := by
  obtain ⟨s0, x0, p0, h⟩ := h
  unfold st3
  simp [World.setCell, Array.getElem?_modify, h]
/-- a new box, a box written -/
theorem Hz.stored {T : Nat} {z : Int} {w : World} {s : Bool} {x : Int} {p : Option Addr} (h : Rz T w) (hz : Zr w (.agg #[.bool s, .int .u64 x, .pointer p]) z) : Hz T z (st3 w T (.bool s) (.int .u64 x) (.pointer p)) :=
  ⟨s, x, p, h.stored s x p, hz.store h.odd (grown3 _ _ _ _ _ _ _ _)⟩
theorem Hr.stored {T : Nat} {z : Int} {w : World} {s0 : Int} {p0 : Option Addr} {l0 c0 : Nat} {s : Int} {p : Option Addr} {l c : Nat} (h : Bz T s0 p0 l0 c0 w) (hz : RZ w (.agg #[.int .i64 s, .slice p l c]) z) : Hr T z (st2 w T (.int .i64 s) (.slice p l c)) :=
  ⟨s, p, l, c, h.set _ _ _ _, hz.store h.noI (grown2 _ _ _ _ _ _)⟩
theorem Hz.new {w : World} {z : Int} {s : Bool} {x : Int} {p : Option Addr} (hz : Zr w (.agg #[.bool s, .int .u64 x, .pointer p]) z) : Hz w.heap.size z (w.alloc (.cells #[.bool s, .int .u64 x, .pointer p] 29)) :=
  ⟨s, x, p, Go.Deep.blk_alloc_new _ _, hz.al _⟩
theorem Hr.new {w : World} {z : Int} {s : Int} {p : Option Addr} {l c : Nat} (hz : RZ w (.agg #[.int .i64 s, .slice p l c]) z) : Hr w.heap.size z (w.alloc (.cells #[.int .i64 s, .slice p l c] 32)) :=
  ⟨s, p, l, c, Go.Deep.blk_alloc_new _ _, hz.keep (bl1 _ _) (Nat.le_refl _)⟩
theorem Hr.bz {T : Nat} {z : Int} {w : World} (h : Hr T z w) : ∃ s p l c, Bz T s p l c w := by obtain ⟨s, p, l, c, h, _⟩ := h; exact ⟨s, p, l, c, h⟩
/-- pointers to a box of zero or whatever from B on -/
def kbz (B : Nat) : Kd := .c (fun v w => ∃ T, v = .pointer (some ⟨T, 0, none⟩) ∧ B ≤ T ∧ Rz T w) fun _ _ _ ⟨T, h1, h2, h3⟩ hb => ⟨T, h1, h2, h3.keep hb h3.lt⟩
def kbr (B : Nat) : Kd := .c (fun v w => ∃ T s p l c, v = .pointer (some ⟨T, 0, none⟩) ∧ B ≤ T ∧ Bz T s p l c w) fun _ _ _ ⟨T, s, p, l, c, h1, h2, h3⟩ hb => ⟨T, s, p, l, c, h1, h2, blk_keep h3 hb⟩

section
variable {ρ : Operand → Value} {o : Oper} {w : World}
theorem rn_field23_0 {t : Operand} {b : Nat} (ho : o.op = .fieldAddr 23 t 0) (he : ρ t = .pointer (some ⟨b, 0, none⟩)) : (execOp ρ o).run Try.prog w = .ok (.value (.pointer (some ⟨b, 0, none⟩))) w := by
  unfold execOp; rw [ho]; simp [go_sem, he]
theorem rn_field23_1 {t : Operand} {b : Nat} (ho : o.op = .fieldAddr 23 t 1) (he : ρ t = .pointer (some ⟨b, 0, none⟩)) : (execOp ρ o).run Try.prog w = .ok (.value (.pointer (some ⟨b, 1, none⟩))) w := by
  unfold execOp; rw [ho]; simp [go_sem, he]
theorem rn_field23_2 {t : Operand} {b : Nat} (ho : o.op = .fieldAddr 23 t 2) (he : ρ t = .pointer (some ⟨b, 0, none⟩)) : (execOp ρ o).run Try.prog w = .ok (.value (.pointer (some ⟨b, 2, none⟩))) w := by
  unfold execOp; rw [ho]; simp [go_sem, he]
theorem rn_field23_3 {t : Operand} {b : Nat} (ho : o.op = .fieldAddr 23 t 3) (he : ρ t = .pointer (some ⟨b, 0, none⟩)) : (execOp ρ o).run Try.prog w = .ok (.value (.pointer (some ⟨b, 3, none⟩))) w := by
  unfold execOp; rw [ho]; simp [go_sem, he]
theorem rn_loadI {t : Operand} {b i : Nat} {n : Int} (ho : o.op = .load 2 t) (he : ρ t = .pointer (some ⟨b, i, none⟩)) (h : w.cell? ⟨b, i, none⟩ = some (.int .i64 n)) : (execOp ρ o).run Try.prog w = .ok (.value (.int .i64 n)) w := by
  unfold execOp; rw [ho]; simp [go_sem, he, h]
theorem rn_alloc29 (ho : o.op = .alloc 29) : (execOp ρ o).run Try.prog w = .ok (.value (.pointer (some ⟨w.heap.size, 0, none⟩))) (w.alloc (.cells #[.bool false, .int .u64 0, .pointer none] 29)) := by
  unfold execOp; rw [ho]; simp [go_sem]
theorem rn_alloc32 (ho : o.op = .alloc 32) : (execOp ρ o).run Try.prog w = .ok (.value (.pointer (some ⟨w.heap.size, 0, none⟩))) (w.alloc (.cells #[.int .i64 0, .slice none 0 0] 32)) := by
  unfold execOp; rw [ho]; simp [go_sem]
theorem rn_store29 {t x : Operand} {T : Nat} {s : Bool} {y : Int} {p : Option Addr} (ho : o.op = .store 29 t x) (he : ρ t = .pointer (some ⟨T, 0, none⟩)) (hx : ρ x = .agg #[.bool s, .int .u64 y, .pointer p]) (h : Rz T w) : (execOp ρ o).run Try.prog w = .ok .skip (st3 w T (.bool s) (.int .u64 y) (.pointer p)) := by
  obtain ⟨_, _, _, h1, h2, h3, h4, h5, h6⟩ := h.cells
  unfold execOp; rw [ho]; simp [go_sem, he, hx, h1, h2, h3, h4, h5, h6]
theorem rn_store32 {t x : Operand} {T : Nat} {s0 : Int} {p0 : Option Addr} {l0 c0 : Nat} {s : Int} {p : Option Addr} {l c : Nat} (ho : o.op = .store 32 t x) (he : ρ t = .pointer (some ⟨T, 0, none⟩)) (hx : ρ x = .agg #[.int .i64 s, .slice p l c]) (h : Bz T s0 p0 l0 c0 w) : (execOp ρ o).run Try.prog w = .ok .skip (st2 w T (.int .i64 s) (.slice p l c)) := by
  obtain ⟨h1, h2, h3, h4⟩ := h.cells
  unfold execOp; rw [ho]; simp [go_sem, he, hx, h1, h2, h3, h4]
theorem rn_load32 {t : Operand} {T : Nat} {s : Int} {p : Option Addr} {l c : Nat} (ho : o.op = .load 32 t) (he : ρ t = .pointer (some ⟨T, 0, none⟩)) (h : Bz T s p l c w) : (execOp ρ o).run Try.prog w = .ok (.value (.agg #[.int .i64 s, .slice p l c])) w := by
  obtain ⟨h1, h2, h3, h4⟩ := h.cells
  unfold execOp; rw [ho]; simp [go_sem, he, h1, h2]
end
section
variable {o : Oper} {a0 : Act} {D : Nat → Bool} {f : Nat → Value} {w : World} {R : Value → World → Prop}
theorem OpR.call2 {n : FuncId} {tx ty : Nat} {ts : Array TypeId} (ho : o.op = .call { callee := .value (.func n), args := #[.tmp tx, .tmp ty], argTypes := ts }) (hcf : CF n) (hx : D tx = true) (hx' : (a0.tmps[tx]?).isSome = true) (hy : D ty = true) (hy' : (a0.tmps[ty]?).isSome = true)
    (h : Calls Try.prog n #[f tx, f ty] w fun e w' => ∃ v, e = .returned v ∧ R v w') : OpR Try.prog o (fr a0 D f) w R := by
  refine .inr (.inr ⟨n, _, rn_call2 ho rfl hcf, ?_⟩)
  rw [fr_own hx hx', fr_own hy hy']
  exact h
theorem OpR.call1 {n : FuncId} {tx : Nat} {ts : Array TypeId} (ho : o.op = .call { callee := .value (.func n), args := #[.tmp tx], argTypes := ts }) (hcf : CF n) (hx : D tx = true) (hx' : (a0.tmps[tx]?).isSome = true)
    (h : Calls Try.prog n #[f tx] w fun e w' => ∃ v, e = .returned v ∧ R v w') : OpR Try.prog o (fr a0 D f) w R := by
  refine .inr (.inr ⟨n, _, rn_call1 ho rfl hcf, ?_⟩)
  rw [fr_own hx hx']
  exact h
theorem OpR.call0 {n : FuncId} {ts : Array TypeId} (ho : o.op = .call { callee := .value (.func n), args := #[], argTypes := ts }) (hcf : CF n)
    (h : Calls Try.prog n #[] w fun e w' => ∃ v, e = .returned v ∧ R v w') : OpR Try.prog o (fr a0 D f) w R :=
  .inr (.inr ⟨n, _, rn_call0 ho rfl hcf, h⟩)
/-- a contract as an operation's end -/
theorem PZ.kd {z : Int} {w : World} {n : FuncId} {args : Array Value} (h : Calls Try.prog n args w (PZ z w)) : Calls Try.prog n args w fun e w' => ∃ v, e = .returned v ∧ (Below w.heap.size w w' ∧ kd (.z z) v w') := h.mono fun _ _ ⟨hb, v, he, hv⟩ => ⟨v, he, hb, hv⟩
theorem PRZ.kd {z : Int} {w : World} {n : FuncId} {args : Array Value} (h : Calls Try.prog n args w (PRZ z w)) : Calls Try.prog n args w fun e w' => ∃ v, e = .returned v ∧ (Below w.heap.size w w' ∧ Go.Proofs.Ytjjomjjgoceklaa.kd (.r z) v w') := h.mono fun _ _ ⟨hb, v, he, hv⟩ => ⟨v, he, hb, hv⟩
end
/-- k words -/
def Wk (k : Nat) (z : Int) : Prop := z.natAbs < WB ^ k
theorem Wk.sz {k : Nat} {z : Int} (h : Wk k z) (hk : k ≤ 1000) : Sz z.natAbs := ⟨k, hk, h⟩
theorem Wk.mono {j k : Nat} {z : Int} (h : Wk j z) (hk : j ≤ k) : Wk k z := Nat.lt_of_lt_of_le h (Nat.pow_le_pow_right WB_pos hk)
theorem Wk.add {k : Nat} {a b : Int} (ha : Wk k a) (hb : Wk k b) : Wk (k + 1) (a + b) := by
  unfold Wk at *
  have h1 : (a + b).natAbs ≤ a.natAbs + b.natAbs := Int.natAbs_add_le _ _
  have h2 : WB ^ (k + 1) = WB ^ k * WB := Nat.pow_succ _ _
  have h3 : WB ^ k * 2 ≤ WB ^ k * WB := Nat.mul_le_mul_left _ (by unfold WB; omega)
  omega
theorem Wk.sub {k : Nat} {a b : Int} (ha : Wk k a) (hb : Wk k b) : Wk (k + 1) (a - b) := by
  rw [Int.sub_eq_add_neg]; exact ha.add (by unfold Wk at *; rw [Int.natAbs_neg]; exact hb)
theorem Wk.mul {j k : Nat} {a b : Int} (ha : Wk j a) (hb : Wk k b) : Wk (j + k) (a * b) := by
  unfold Wk at *
  rw [Int.natAbs_mul, Nat.pow_add]
  exact Nat.mul_lt_mul'' ha hb
theorem Wk.i64 {n : Int} (h : I64 n) : Wk 1 n := by unfold Wk WB; unfold I64 at h; omega
/-- j groups of four digits -/
theorem Wk.sr {k : Nat} {z : Int} (h : Wk k z) (hk : k ≤ 150) : Sr z := by
  refine ⟨5 * k, by omega, Nat.lt_of_lt_of_le h ?_⟩
  rw [Nat.pow_mul]
  exact Nat.pow_le_pow_left (by unfold WB; decide) k
end Go.Proofs.Ytjjomjjgoceklaa
