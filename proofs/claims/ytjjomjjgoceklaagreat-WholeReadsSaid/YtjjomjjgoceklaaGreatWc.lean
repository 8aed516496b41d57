import Derived.Test.YtjjomjjgoceklaaGreatWb
import Derived.Test.YtjjomjjgoceklaaGreatKcd
import Derived.Test.YtjjomjjgoceklaaGreatKce
namespace Go.Proofs.YtjjomjjgoceklaaGreat
set_option maxRecDepth 100000
open Go.RowKit

/-! z; R.Div by zero -/
end Go.Proofs.YtjjomjjgoceklaaGreat
namespace Go.Proofs.YtjjomjjgoceklaaGreat
set_option maxRecDepth 100000
open Go.RowKit

/-! R.Neg -/
theorem Rr.zr' {w : World} {s : Bool} {x y : Int} {p q : Option Addr} {n : Int} {d : Nat} (h : Rr w (.agg #[.bool s, .int .u64 x, .pointer p, .int .u64 y, .pointer q]) n d) : Zr w (.agg #[.bool s, .int .u64 x, .pointer p]) n := by
  obtain ⟨_, _, _, _, _, e, h2, _⟩ := h
  simp only [Value.agg.injEq, Array.mk.injEq, List.cons.injEq, and_true, Value.bool.injEq, Value.int.injEq, Value.pointer.injEq, true_and] at e
  obtain ⟨rfl, rfl, rfl, _, _⟩ := e
  exact h2
theorem Rr.low {w : World} {v : Value} {n : Int} {d : Nat} (h : Rr w v n d) : Nat.gcd n.natAbs d = 1 := by obtain ⟨_, _, _, _, _, _, _, _, _, h⟩ := h; exact h
section
variable {ρ : Operand → Value} {o : Oper} {w : World} {t x1 x2 : Operand}
end
structure N5 (w0 : World) (s : Bool) (x y : Int) (p q : Option Addr) (n : Int) (d : Nat) (w : World) : Prop where
  k : Below w0.heap.size w0 w
  a : w.heap[w0.heap.size]? = some (.cells #[.bool s, .int .u64 x, .pointer p, .int .u64 y, .pointer q] 33 (0, 0))
  r : Rr w (.agg #[.bool s, .int .u64 x, .pointer p, .int .u64 y, .pointer q]) n d
  t : Rq (w0.heap.size + 1) w
section
variable {w0 w w' : World} {s : Bool} {x y : Int} {p q : Option Addr} {n : Int} {d : Nat}
theorem Rq.lt {T : Nat} {w : World} (h : Rq T w) : T < w.heap.size := by obtain ⟨_, _, _, _, _, h⟩ := h; exact blk_lt h
theorem N5.keep (h : N5 w0 s x y p q n d w) (hb : Below w.heap.size w w') : N5 w0 s x y p q n d w' := ⟨Below.thru h.k h.k.size hb, blk_keep h.a hb, h.r.keep hb (Nat.le_refl _), h.t.keep hb h.t.lt⟩
theorem N5.b3 (h : N5 w0 s x y p q n d w) : B3 w0.heap.size s x p w := by refine ⟨?_, ?_, ?_⟩ <;> simp [World.cell?, h.a]
theorem N5.z (h : N5 w0 s x y p q n d w) : Zr w (.agg #[.bool s, .int .u64 x, .pointer p]) n := h.r.zr'
theorem N5.c3 (h : N5 w0 s x y p q n d w) : w.cell? ⟨w0.heap.size, 3, none⟩ = some (.int .u64 y) ∧ w.cell? ⟨w0.heap.size, 3 + 1, none⟩ = some (.pointer q) := by constructor <;> simp [World.cell?, h.a]
end
theorem cell_blk {w : World} {T i : Nat} {c : Array Value} {t : TypeId} (h : w.heap[T]? = some (.cells c t (0, 0))) : w.cell? ⟨T, i, none⟩ = c[i]? := by simp [World.cell?, h]
end Go.Proofs.YtjjomjjgoceklaaGreat
namespace Go.Proofs.YtjjomjjgoceklaaGreat
set_option maxRecDepth 100000
open Go.RowKit

/-- the new blocks so far: all there, all different -/
def Als (al : Nat → Bool) (ops : Array Oper) (L : Nat → Bool) (f : Nat → Value) (w : World) : Prop :=
  (∀ i o d, ops[i]? = some o → L i = true → o.dst = some d → al d = true → ∃ T, f d = .pointer (some ⟨T, 0, none⟩) ∧ T < w.heap.size) ∧
  (∀ i j oi oj d d', ops[i]? = some oi → ops[j]? = some oj → L i = true → L j = true → oi.dst = some d → oj.dst = some d' → al d = true → al d' = true → d ≠ d' → f d ≠ f d')
theorem Als.step {al : Nat → Bool} {ops : Array Oper} {L : Nat → Bool} {f : Nat → Value} {w w' : World} {n : Nat} {o : Oper} {d : Nat} {v : Value} (h : Als al ops L f w) (_hu : uniqB ops = true) (ho : ops[n]? = some o) (hd : o.dst = some d) (hs : w.heap.size ≤ w'.heap.size)
    (hal : al d = true → v = .pointer (some ⟨w.heap.size, 0, none⟩) ∧ w.heap.size < w'.heap.size) : Als al ops (dn L n) (updo f o.dst v) w' := by
  rw [hd]
  have old : ∀ i oi di, ops[i]? = some oi → dn L n i = true → oi.dst = some di → al di = true → di ≠ d → ∃ T, f di = .pointer (some ⟨T, 0, none⟩) ∧ T < w.heap.size := by
    intro i oi di hi hL hdi ha hne
    unfold dn at hL
    by_cases e : i = n
    · subst e; rw [ho] at hi; cases hi; rw [hd] at hdi; cases hdi; exact absurd rfl hne
    · rw [if_neg e] at hL; exact h.1 i oi di hi hL hdi ha
  have oldL : ∀ i oi di, ops[i]? = some oi → dn L n i = true → oi.dst = some di → di ≠ d → L i = true := by
    intro i oi di hi hL hdi hne
    unfold dn at hL
    by_cases e : i = n
    · subst e; rw [ho] at hi; cases hi; rw [hd] at hdi; cases hdi; exact absurd rfl hne
    · rw [if_neg e] at hL; exact hL
  constructor
  · intro i oi di hi hL hdi ha
    simp only [updo, upd]
    by_cases e : di = d
    · subst e; rw [if_pos rfl]; exact ⟨_, (hal ha).1, (hal ha).2⟩
    · rw [if_neg e]
      obtain ⟨T, h1, h2⟩ := old i oi di hi hL hdi ha e
      exact ⟨T, h1, by omega⟩
  · intro i j oi oj di dj hi hj hLi hLj hdi hdj hai haj hne
    simp only [updo, upd]
    by_cases e : di = d
    · subst e
      rw [if_pos rfl, if_neg (fun h => hne h.symm), (hal hai).1]
      obtain ⟨T, h1, h2⟩ := old j oj dj hj hLj hdj haj (fun h => hne h.symm)
      rw [h1]; intro e; simp at e <;> omega
    · rw [if_neg e]
      by_cases e2 : dj = d
      · subst e2
        rw [if_pos rfl, (hal haj).1]
        obtain ⟨T, h1, h2⟩ := old i oi di hi hLi hdi hai e
        rw [h1]; intro e; simp at e <;> omega
      · rw [if_neg e2]
        exact h.2 i j oi oj di dj hi hj (oldL i oi di hi hLi hdi e) (oldL j oj dj hj hLj hdj e2) hdi hdj hai haj hne
theorem Als.tail {al : Nat → Bool} {ops : Array Oper} {L : Nat → Bool} {f : Nat → Value} {w w' : World} {n : Nat} {o : Oper} (h : Als al ops L f w) (ho : ops[n]? = some o) (hd : o.dst = none) (hs : w.heap.size ≤ w'.heap.size) : Als al ops (dn L n) f w' := by
  have old : ∀ i oi di, ops[i]? = some oi → dn L n i = true → oi.dst = some di → L i = true := by
    intro i oi di hi hL hdi
    unfold dn at hL
    by_cases e : i = n
    · subst e; rw [ho] at hi; cases hi; rw [hd] at hdi; cases hdi
    · rw [if_neg e] at hL; exact hL
  constructor
  · intro i oi di hi hL hdi ha
    obtain ⟨T, h1, h2⟩ := h.1 i oi di hi (old i oi di hi hL hdi) hdi ha
    exact ⟨T, h1, by omega⟩
  · intro i j oi oj di dj hi hj hLi hLj hdi hdj
    exact h.2 i j oi oj di dj hi hj (old i oi di hi hLi hdi) (old j oj dj hj hLj hdj) hdi hdj
section
variable {P : Program} {ops : Array Oper} {Q : Exit → Act → World → Prop}
end
end Go.Proofs.YtjjomjjgoceklaaGreat
namespace Go.Proofs.YtjjomjjgoceklaaGreat
set_option maxRecDepth 100000
open Go.RowKit

section
variable {P : Program} {ops : Array Oper} {Q : Exit → Act → World → Prop}
end
end Go.Proofs.YtjjomjjgoceklaaGreat
