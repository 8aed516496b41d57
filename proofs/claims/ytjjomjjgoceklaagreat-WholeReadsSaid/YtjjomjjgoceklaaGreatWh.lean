import Derived.Test.YtjjomjjgoceklaaGreatWe
import Derived.Test.YtjjomjjgoceklaaGreatKbg
import Derived.Test.YtjjomjjgoceklaaGreatWf
namespace Go.Proofs.YtjjomjjgoceklaaGreat
set_option maxRecDepth 100000
open Go.RowKit

/-! V.Text, R.Sign -/
theorem cf80 : CF 80 := fun W args => by go_simp
theorem PTr.kd {n : Int} {d : Nat} {w : World} {g : FuncId} {args : Array Value} (h : Calls Tryz.prog g args w (PTr n d w)) : Calls Tryz.prog g args w fun e w' => ∃ v, e = .returned v ∧ (Below w.heap.size w w' ∧ Go.Proofs.YtjjomjjgoceklaaGreat.kd (.v (.string (txtR n d))) v w') :=
  h.mono fun _ _ ⟨hb, he⟩ => ⟨_, he, hb, rfl⟩
theorem rn_add9 {ρ : Operand → Value} {o : Oper} {w : World} {t c : Operand} {s u : ByteArray} (ho : o.op = .binOp .add 9 t c 9) (h1 : ρ t = .string s) (h2 : ρ c = .string u) (hs : s.size + u.size ≤ 9223372036854775807) : (execOp ρ o).run Tryz.prog w = .ok (.value (.string (s ++ u))) w := by
  unfold execOp; rw [ho]; simp [go_sem, h1, h2, hs]
theorem addsz {s u : ByteArray} {a b : Nat} (h1 : s.size ≤ a) (h2 : u.size ≤ b) (h : a + b ≤ 9223372036854775807) : s.size + u.size ≤ 9223372036854775807 := by omega
theorem catsz {s u : ByteArray} {a b : Nat} (h1 : s.size ≤ a) (h2 : u.size ≤ b) : (s ++ u).size ≤ a + b := by rw [ByteArray.size_append]; omega
structure S46 (w0 : World) (n m : Int) (d e : Nat) (w : World) : Prop where
  k : Below w0.heap.size w0 w
  x : Vq w0.heap.size 0 n d w
  z : Vq w0.heap.size 5 m e w
theorem S46.keep {w0 w w' : World} {n m : Int} {d e : Nat} (h : S46 w0 n m d e w) (hb : Below w.heap.size w w') : S46 w0 n m d e w' := ⟨Below.thru h.k h.k.size hb, h.x.keep hb, h.z.keep hb⟩
theorem rsign_any (v : Value) (n : Int) (d : Nat) (w : World) (h : Rr w v n d) : Calls Tryz.prog 15 #[v] w fun e w' => Below w.heap.size w w' ∧ e = .returned (.int .i64 n.sign) := by
  obtain ⟨s, x, p, y, q, rfl⟩ := h.agg
  have HR := Lib.hid ((h.keep (bl1 w (.cells #[.bool s, .int .u64 x, .pointer p, .int .u64 y, .pointer q] 33)) (Nat.le_refl _)).num)
  clear h
  go_enter Tryz.func15, Tryz.ntmps15
  go_wp2_with fail
  refine (sign_any _ n _ HR.out).mono ?_
  rintro e w1 ⟨hb1, rfl⟩
  have k1 := Below.thru (bl1 w _) (by simp) hb1
  go_wp2
  go_ret
  exact ⟨k1, rfl⟩
end Go.Proofs.YtjjomjjgoceklaaGreat
namespace Go.Proofs.YtjjomjjgoceklaaGreat
set_option maxRecDepth 100000
open Go.RowKit

/-! R.Cmp -/
structure S52 (w0 : World) (an bn : Int) (p q : Nat) (w : World) : Prop where
  k : Below w0.heap.size w0 w
  a : Hq w0.heap.size an p w
  b : Hq (w0.heap.size + 1) bn q w
theorem S52.keep {w0 w w' : World} {an bn : Int} {p q : Nat} (h : S52 w0 an bn p q w) (hb : Below w.heap.size w w') : S52 w0 an bn p q w' := ⟨Below.thru h.k h.k.size hb, h.a.keep hb, h.b.keep hb⟩
/-! the ratios' functions as the rationals' -/
section
variable {va vb : Value} {a b : Rat} {k l : Nat} {w : World}
theorem Bd9.szn (h : Bd9 k a) (hk : k ≤ 1000) : Sz a.num.natAbs := wb_sz h.1 hk
theorem Bd9.szd (h : Bd9 k a) (hk : k ≤ 1000) : Sz a.den := wb_sz h.2 hk
end
end Go.Proofs.YtjjomjjgoceklaaGreat
namespace Go.Proofs.YtjjomjjgoceklaaGreat
set_option maxRecDepth 100000
open Go.RowKit

/-! R.Div -/
section
variable {ρ : Operand → Value} {o : Oper} {w : World} {t : Operand}
end
def Ks5 (K : Kd) : Prop := ∀ {v : Value} {w : World} {T : Nat} {s : Bool} {x y : Int} {p q : Option Addr}, Rq T w → kd K v w → kd K v (st5 w T (.bool s) (.int .u64 x) (.pointer p) (.int .u64 y) (.pointer q))
theorem Ks5.z {n : Int} : Ks5 (.z n) := fun hT h => Zr.store h hT.odd (grown5 _ _ _ _ _ _ _)
theorem Ks5.q {n : Int} {d : Nat} : Ks5 (.q n d) := fun hT h => Rr.store h hT.odd (grown5 _ _ _ _ _ _ _)
theorem Ks5.g {n : Nat} : Ks5 (.g n) := fun hT h => Dg.store h hT.odd (grown5 _ _ _ _ _ _ _)
theorem Ks5.v {y : Value} : Ks5 (.v y) := by
  intro v w T s x z p q _ h
  have h1 : v = y := h
  show v = y
  exact h1
theorem Ks5.kp {b i : Nat} : Ks5 (kp b i) := Ks5.v
theorem Ks5.any : Ks5 .any := fun _ _ => trivial
theorem Ks5.getD {L : List Kd} (h : ∀ K ∈ L, Ks5 K) (j : Nat) : Ks5 (L.getD j .any) := by
  intro v w T s x y p q
  rw [List.getD_eq_getElem?_getD]
  cases hj : L[j]? with
  | none => exact fun _ _ => trivial
  | some K => exact h K (List.mem_of_getElem? hj)
end Go.Proofs.YtjjomjjgoceklaaGreat
