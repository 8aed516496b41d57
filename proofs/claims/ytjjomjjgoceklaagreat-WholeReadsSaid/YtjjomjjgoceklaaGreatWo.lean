import Derived.Test.YtjjomjjgoceklaaGreatWm
import Derived.Test.YtjjomjjgoceklaaGreatWn
import Derived.Test.YtjjomjjgoceklaaGreatWd
import Derived.Test.YtjjomjjgoceklaaGreatWb
namespace Go.Proofs.YtjjomjjgoceklaaGreat
set_option maxRecDepth 100000
open Go.RowKit

/-! the law WholeRatios -/
theorem wanted_un {ops : Array Oper} {o : Oper} {a0 : Act} {D : Nat → Bool} {f : Nat → Value} {g d : Nat} {b : Bool} (h : o.guard = some (g, b)) (hg : (ops[g]?).bind (·.dst) = some d) (hD : D d = true) (hs : (a0.tmps[d]?).isSome = true) (hf : f d = undef) :
    Region.wanted o (yielded ops (fr a0 D f).tmps) = false := by
  obtain ⟨v, hv⟩ := Option.isSome_iff_exists.1 hs
  have := fr_get a0 D f d
  rw [hv] at this
  simp only [Option.map_some, hD, hf] at this
  unfold Region.wanted yielded
  rw [h]
  simp [hg, this, undef]
theorem rn_not4' {ρ : Operand → Value} {o : Oper} {w : World} {t : Operand} {b r : Bool} (ho : o.op = .unOp .not 4 t) (h1 : ρ t = .bool b) (hc : (!b) = r) : (execOp ρ o).run Tryz.prog w = .ok (.value (.bool r)) w := by
  subst hc; unfold execOp; rw [ho]; simp [go_sem, h1]
section
variable {ρ : Operand → Value} {o : Oper} {w : World} {t c : Operand} {n m : Int} {r : Bool}
end
structure V4 (w0 : World) (y z : Int) (T1 T2 T3 T4 : Nat) (w : World) : Prop where
  k : Below w0.heap.size w0 w
  a : Hz T1 y w
  ra : Hr T2 y w
  b : Hz T3 z w
  rb : Hr T4 z w
theorem V4.keep {w0 w w' : World} {y z : Int} {T1 T2 T3 T4 : Nat} (h : V4 w0 y z T1 T2 T3 T4 w) (hb : Below w.heap.size w w') : V4 w0 y z T1 T2 T3 T4 w' := ⟨Below.thru h.k h.k.size hb, h.a.keep hb, h.ra.keep hb, h.b.keep hb, h.rb.keep hb⟩
structure V5 (w0 : World) (y z : Int) (r : Rat) (T1 T2 T3 T4 T5 : Nat) (w : World) : Prop where
  s : V4 w0 y z T1 T2 T3 T4 w
  r : Hq T5 r.num r.den w
theorem V5.keep {w0 w w' : World} {y z : Int} {r : Rat} {T1 T2 T3 T4 T5 : Nat} (h : V5 w0 y z r T1 T2 T3 T4 T5 w) (hb : Below w.heap.size w w') : V5 w0 y z r T1 T2 T3 T4 T5 w' := ⟨h.s.keep hb, h.r.keep hb⟩
structure V6 (w0 : World) (y z : Int) (q : Rat) (T1 T2 T3 T4 T5 : Nat) (w : World) : Prop where
  s : V4 w0 y z T1 T2 T3 T4 w
  q : Hq T5 q.num q.den w
theorem V6.keep {w0 w w' : World} {y z : Int} {q : Rat} {T1 T2 T3 T4 T5 : Nat} (h : V6 w0 y z q T1 T2 T3 T4 T5 w) (hb : Below w.heap.size w w') : V6 w0 y z q T1 T2 T3 T4 T5 w' := ⟨h.s.keep hb, h.q.keep hb⟩
structure V7 (w0 : World) (y z : Int) (q : Rat) (T1 T2 T3 T4 T5 T6 : Nat) (w : World) : Prop where
  s : V6 w0 y z q T1 T2 T3 T4 T5 w
  rq : HA T6 q w
theorem V7.keep {w0 w w' : World} {y z : Int} {q : Rat} {T1 T2 T3 T4 T5 T6 : Nat} (h : V7 w0 y z q T1 T2 T3 T4 T5 T6 w) (hb : Below w.heap.size w w') : V7 w0 y z q T1 T2 T3 T4 T5 T6 w' := ⟨h.s.keep hb, h.rq.keep hb⟩
end Go.Proofs.YtjjomjjgoceklaaGreat
