import Derived.Test.YtjjomjjgoceklaaGreatWd
namespace Go.Proofs.YtjjomjjgoceklaaGreat
set_option maxRecDepth 100000
open Go.RowKit

/-! what R.Mul needs: numbers; tables that a store keeps; boxes of digits -/
/-- what a slot holds outlives a store into a box of digits -/
def Ks2 (K : Kd) : Prop := ∀ {v : Value} {w : World} {T : Nat} {x : Int} {p : Option Addr}, Rs T w → kd K v w → kd K v (st2 w T (.int .u64 x) (.pointer p))
/-- and into a box of an integer -/
def Ks3 (K : Kd) : Prop := ∀ {v : Value} {w : World} {T : Nat} {s : Bool} {x : Int} {p : Option Addr}, Rz T w → kd K v w → kd K v (st3 w T (.bool s) (.int .u64 x) (.pointer p))
theorem Ks2.z {n : Int} : Ks2 (.z n) := fun hT h => Zr.store h hT.odd (grown2 _ _ _ _ _ _)
theorem Ks2.q {n : Int} {d : Nat} : Ks2 (.q n d) := fun hT h => Rr.store h hT.odd (grown2 _ _ _ _ _ _)
theorem Ks2.g {n : Nat} : Ks2 (.g n) := fun hT h => Dg.store h hT.odd (grown2 _ _ _ _ _ _)
theorem Ks2.v {y : Value} : Ks2 (.v y) := fun _ h => h
theorem Ks2.kp {b i : Nat} : Ks2 (kp b i) := fun _ h => h
theorem Ks2.any : Ks2 .any := fun _ _ => trivial
theorem Ks3.z {n : Int} : Ks3 (.z n) := fun hT h => Zr.store h hT.odd (grown3 _ _ _ _ _ _ _ _)
theorem Ks3.q {n : Int} {d : Nat} : Ks3 (.q n d) := fun hT h => Rr.store h hT.odd (grown3 _ _ _ _ _ _ _ _)
theorem Ks3.g {n : Nat} : Ks3 (.g n) := fun hT h => Dg.store h hT.odd (grown3 _ _ _ _ _ _ _ _)
theorem Ks3.v {y : Value} : Ks3 (.v y) := fun _ h => h
theorem Ks3.kp {b i : Nat} : Ks3 (kp b i) := fun _ h => h
theorem Ks3.any : Ks3 .any := fun _ _ => trivial
theorem Ks2.getD {L : List Kd} (h : ∀ K ∈ L, Ks2 K) (j : Nat) : Ks2 (L.getD j .any) := by
  intro v w T x p
  rw [List.getD_eq_getElem?_getD]
  cases hj : L[j]? with
  | none => exact fun _ _ => trivial
  | some K => exact h K (List.mem_of_getElem? hj)
theorem Ks3.getD {L : List Kd} (h : ∀ K ∈ L, Ks3 K) (j : Nat) : Ks3 (L.getD j .any) := by
  intro v w T s x p
  rw [List.getD_eq_getElem?_getD]
  cases hj : L[j]? with
  | none => exact fun _ _ => trivial
  | some K => exact h K (List.mem_of_getElem? hj)
theorem Hd.rs {T n : Nat} {w : World} (h : Hd T n w) : Rs T w := by obtain ⟨x, p, h, _⟩ := h; exact ⟨x, p, h⟩
theorem Hd.stored {T n : Nat} {w : World} {x : Int} {p : Option Addr} (h : Rs T w) (hd : Dg w (.agg #[.int .u64 x, .pointer p]) n) : Hd T n (st2 w T (.int .u64 x) (.pointer p)) := ⟨x, p, h.stored x p, hd.store h.odd (grown2 _ _ _ _ _ _)⟩
theorem Hd.st {T U n : Nat} {w w' : World} (h : Hd T n w) (hU : Odd U w) (hg : w.grownBy w' (some U)) (hne : T ≠ U) : Hd T n w' := by
  obtain ⟨x, p, h1, h2⟩ := h
  exact ⟨x, p, blk_other h1 hg hne, h2.store hU hg⟩
theorem PDg.kd {n : Nat} {w : World} {g : FuncId} {args : Array Value} (h : Calls Tryz.prog g args w (PDg n w)) : Calls Tryz.prog g args w fun e w' => ∃ v, e = .returned v ∧ (Below w.heap.size w w' ∧ Go.Proofs.YtjjomjjgoceklaaGreat.kd (.g n) v w') := h.mono fun _ _ ⟨hb, v, he, hv⟩ => ⟨v, he, hb, hv⟩
section
variable {ρ : Operand → Value} {o : Oper} {w : World} {t : Operand}
end
theorem Hq.b3 {T : Nat} {n : Int} {d : Nat} {w : World} (h : Hq T n d w) : ∃ (s : Bool) (x : Int) (p : Option Addr), B3 T s x p w ∧ Zr w (.agg #[.bool s, .int .u64 x, .pointer p]) n := by
  obtain ⟨s, x, y, p, q, h1, h2⟩ := h
  exact ⟨s, x, p, ⟨cell_blk (i := 0) h1, cell_blk (i := 1) h1, cell_blk (i := 2) h1⟩, h2.num⟩

/-! R.Mul -/
theorem hz3 {T : Nat} {w : World} {s : Bool} {x : Int} {p : Option Addr} (h : w.heap[T]? = some (.cells #[.bool s, .int .u64 x, .pointer p] 28 (0, 0))) : B3 T s x p w := ⟨cell_blk (i := 0) h, cell_blk (i := 1) h, cell_blk (i := 2) h⟩
end Go.Proofs.YtjjomjjgoceklaaGreat
