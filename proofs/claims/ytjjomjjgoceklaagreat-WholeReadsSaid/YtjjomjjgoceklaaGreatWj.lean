import Derived.Test.YtjjomjjgoceklaaGreatWi
import Derived.Test.YtjjomjjgoceklaaGreatWa
namespace Go.Proofs.YtjjomjjgoceklaaGreat
set_option maxRecDepth 100000
open Go.RowKit

/-! the law WholeField -/
theorem PRq.kd {r : Rat} {w : World} {g : FuncId} {args : Array Value} (h : Calls Tryz.prog g args w (PRq r w)) : Calls Tryz.prog g args w fun e w' => ∃ v, e = .returned v ∧ (Below w.heap.size w w' ∧ Go.Proofs.YtjjomjjgoceklaaGreat.kd (.q r.num r.den) v w') := h.mono fun _ _ ⟨hb, v, he, hv⟩ => ⟨v, he, hb, hv⟩
theorem PCq.kd {a b : Rat} {w : World} {g : FuncId} {args : Array Value} (h : Calls Tryz.prog g args w fun e w' => Below w.heap.size w w' ∧ e = .returned (.int .i64 (cmpQ a b))) : Calls Tryz.prog g args w fun e w' => ∃ v, e = .returned v ∧ (Below w.heap.size w w' ∧ Go.Proofs.YtjjomjjgoceklaaGreat.kd (ki (cmpQ a b)) v w') := h.mono fun _ _ ⟨hb, he⟩ => ⟨_, he, hb, rfl⟩
theorem Bd9.sub {k l : Nat} {a b : Rat} (ha : Bd9 k a) (hb : Bd9 l b) : Bd9 (k + l + 1) (a - b) := by rw [Rat.sub_eq_add_neg]; exact ha.add hb.neg
theorem Bd9.wd {k : Nat} {a : Rat} (h : Bd9 k a) : Wk k (a.den : Int) := by unfold Wk; rw [Int.natAbs_natCast]; exact h.2
section
variable {ρ : Operand → Value} {o : Oper} {w : World} {t c : Operand} {n m : Int} {r : Bool}
theorem rn_neqI (ho : o.op = .binOp .neq 3 t c 3) (h1 : ρ t = .int .i64 n) (h2 : ρ c = .int .i64 m) (hc : (n != m) = r) : (execOp ρ o).run Tryz.prog w = .ok (.value (.bool r)) w := by
  subst hc; unfold execOp; rw [ho]; simp [go_sem, h1, h2, bne]
theorem rn_eqlO (ho : o.op = .binOp .eql 29 t c 29) (h1 : ρ t = .int .i64 n) (h2 : ρ c = .int .i64 m) (hc : (n == m) = r) : (execOp ρ o).run Tryz.prog w = .ok (.value (.bool r)) w := by
  subst hc; unfold execOp; rw [ho]; simp [go_sem, h1, h2]
end
theorem OpR.callk {o : Oper} {a0 : Act} {D : Nat → Bool} {f : Nat → Value} {w : World} {R : Value → World → Prop} {n : FuncId} {x : Value} {ts : Array TypeId} (ho : o.op = .call { callee := .value (.func n), args := #[.const x], argTypes := ts }) (hcf : CF n)
    (h : Calls Tryz.prog n #[x] w fun e w' => ∃ v, e = .returned v ∧ R v w') : OpR Tryz.prog o (fr a0 D f) w R := .inr (.inr ⟨n, _, rn_call1 ho rfl hcf, h⟩)
theorem rn_neq29 {ρ : Operand → Value} {o : Oper} {w : World} {t c : Operand} {n m : Int} {r : Bool} (ho : o.op = .binOp .neq 29 t c 29) (h1 : ρ t = .int .i64 n) (h2 : ρ c = .int .i64 m) (hc : (n != m) = r) : (execOp ρ o).run Tryz.prog w = .ok (.value (.bool r)) w := by
  subst hc; unfold execOp; rw [ho]; simp [go_sem, h1, h2, bne]
/-- three ratios in boxes -/
structure F3 (w0 : World) (a b c : Rat) (Ta Tb Tc : Nat) (w : World) : Prop where
  k : Below w0.heap.size w0 w
  a : Hq Ta a.num a.den w
  b : Hq Tb b.num b.den w
  c : Hq Tc c.num c.den w
theorem F3.keep {w0 : World} {a b c : Rat} {Ta Tb Tc : Nat} {w w' : World} (h : F3 w0 a b c Ta Tb Tc w) (hb : Below w.heap.size w w') : F3 w0 a b c Ta Tb Tc w' := ⟨Below.thru h.k h.k.size hb, h.a.keep hb, h.b.keep hb, h.c.keep hb⟩
structure F4q (w0 : World) (a b c q : Rat) (Ta Tb Tc Tq : Nat) (w : World) : Prop where
  f : F3 w0 a b c Ta Tb Tc w
  q : Hq Tq q.num q.den w
theorem F4q.keep {w0 : World} {a b c q : Rat} {Ta Tb Tc Tq : Nat} {w w' : World} (h : F4q w0 a b c q Ta Tb Tc Tq w) (hb : Below w.heap.size w w') : F4q w0 a b c q Ta Tb Tc Tq w' := ⟨h.f.keep hb, h.q.keep hb⟩
structure F1s (w0 : World) (s : Rat) (T : Nat) (w : World) : Prop where
  k : Below w0.heap.size w0 w
  s : Hq T s.num s.den w
theorem F1s.keep {w0 : World} {s : Rat} {T : Nat} {w w' : World} (h : F1s w0 s T w) (hb : Below w.heap.size w w') : F1s w0 s T w' := ⟨Below.thru h.k h.k.size hb, h.s.keep hb⟩
/-- the box of a Num -/
def Xn (T : Nat) (A B : Int) (w : World) : Prop := w.heap[T]? = some (.cells #[.int .i64 A, .int .i64 B] 65 (0, 0))
theorem Xn.keep {T : Nat} {A B : Int} {w w' : World} (h : Xn T A B w) (hb : Below w.heap.size w w') : Xn T A B w' := blk_keep h hb
theorem Xn.cells {T : Nat} {A B : Int} {w : World} (h : Xn T A B w) : w.cell? ⟨T, 0, none⟩ = some (.int .i64 A) ∧ w.cell? ⟨T, 1, none⟩ = some (.int .i64 B) := by
  have h' : w.heap[T]? = _ := h
  constructor <;> simp [World.cell?, h']
end Go.Proofs.YtjjomjjgoceklaaGreat
