import Derived.Test.YtjjomjjgoceklaaGreatWg
import Derived.Test.YtjjomjjgoceklaaGreatWh
namespace Go.Proofs.YtjjomjjgoceklaaGreat
set_option maxRecDepth 100000
open Go.RowKit

/-! Ratio in both ways, Both -/
theorem ofzR (vn vd : Value) (n d : Int) (w : World) (hn : Zr w vn n) (hd : Zr w vd d) (h0 : d ≠ 0) (sn : Sz n.natAbs) (sd : Sz d.natAbs) : Calls Tryz.prog 28 #[vn, vd] w (PRe (Rat.divInt n d).num (Rat.divInt n d).den 0 w) := by
  have gsz : ∀ a b : Nat, 0 < b → Sz b → Sz (Nat.gcd a b) := fun a b h0 ⟨k, h1, h2⟩ => ⟨k, h1, Nat.lt_of_le_of_lt (Nat.gcd_le_right a h0) h2⟩
  have key : ∀ (m : Int) (e : Nat), 0 < e → Int.tdiv m (Nat.gcd m.natAbs e : Nat) = (Rat.divInt m e).num ∧ e / Nat.gcd m.natAbs e = (Rat.divInt m e).den := by
    intro m e h0
    refine rat_of_div (by omega) (Nat.div_pos (Nat.gcd_le_right _ h0) (Nat.gcd_pos_of_pos_right _ h0)) ?_ ?_
    · rw [Int.natAbs_tdiv, Int.natAbs_natCast]
      exact Nat.coprime_div_gcd_div_gcd (Nat.gcd_pos_of_pos_right _ h0)
    · have e1 : (Nat.gcd m.natAbs e : Int) * Int.tdiv m (Nat.gcd m.natAbs e : Nat) = m := Int.mul_tdiv_cancel' (Int.ofNat_dvd_left.2 (Nat.gcd_dvd_left _ _))
      have e2 : (e : Int) = (Nat.gcd m.natAbs e : Nat) * (e / Nat.gcd m.natAbs e : Nat) := by rw [← Int.natCast_mul, Nat.mul_div_cancel' (Nat.gcd_dvd_right m.natAbs e)]
      generalize Int.tdiv m (Nat.gcd m.natAbs e : Nat) = N at *
      generalize ((e / Nat.gcd m.natAbs e : Nat) : Int) = E at *
      generalize ((Nat.gcd m.natAbs e : Nat) : Int) = g at *
      rw [e2, ← e1]
      ac_rfl
  rcases Int.lt_or_lt_of_ne h0 with h | h
  · have hd' : Zr w vd (-(d.natAbs : Int)) := hd.cast (by omega)
    have p := ofZ_neg vn vd n d.natAbs w hn hd' (by omega) (common_all _ _ (by rw [Int.natAbs_neg]; exact sn) sd) (fun _ => over_all _ _ (by rw [Int.natAbs_neg]; exact sn) (by have := Nat.gcd_pos_of_pos_right (-n).natAbs (show 0 < d.natAbs by omega); omega)) (fun _ => over_all _ _ sd (by have := Nat.gcd_pos_of_pos_right (-n).natAbs (show 0 < d.natAbs by omega); omega))
    obtain ⟨k1, k2⟩ := key (-n) d.natAbs (by omega)
    rw [k1, k2] at p
    have e : Rat.divInt (-n) (d.natAbs : Int) = Rat.divInt n d := by rw [show (d.natAbs : Int) = -d by omega, Rat.divInt_neg', Int.neg_neg]
    rw [e] at p
    exact p
  · have hd' : Zr w vd (d.natAbs : Int) := hd.cast (by omega)
    have p := ofZ_pos vn vd n d.natAbs w hn hd' (by omega) (common_all _ _ sn sd) (fun _ => over_all _ _ sn (by have := Nat.gcd_pos_of_pos_right n.natAbs (show 0 < d.natAbs by omega); omega)) (fun _ => over_all _ _ sd (by have := Nat.gcd_pos_of_pos_right n.natAbs (show 0 < d.natAbs by omega); omega))
    obtain ⟨k1, k2⟩ := key n d.natAbs (by omega)
    rw [k1, k2] at p
    have e : Rat.divInt n (d.natAbs : Int) = Rat.divInt n d := by rw [show (d.natAbs : Int) = d by omega]
    rw [e] at p
    exact p
def krr (n d : Int) : Kd := .c (fun v w => RRv w v n d) fun _ _ _ h hb => h.keep hb (Nat.le_refl _)
theorem PRR.kd {n d : Int} {w : World} {g : FuncId} {args : Array Value} (h : Calls Tryz.prog g args w (PRR n d w)) : Calls Tryz.prog g args w fun e w' => ∃ v, e = .returned v ∧ (Below w.heap.size w w' ∧ Go.Proofs.YtjjomjjgoceklaaGreat.kd (krr n d) v w') := h.mono fun _ _ ⟨hb, v, he, hv⟩ => ⟨v, he, hb, hv⟩
/-- the boxes of Both -/
structure NB (w0 : World) (N D : Int) (w : World) : Prop where
  k : Below w0.heap.size w0 w
  x : w.heap[w0.heap.size]? = some (.cells #[.int .i64 N, .int .i64 D] 65 (0, 0))
  q : Rq (w0.heap.size + 1) w
  t : R4 (w0.heap.size + 1 + 1) w
theorem NB.keep {w0 w w' : World} {N D : Int} (h : NB w0 N D w) (hb : Below w.heap.size w w') : NB w0 N D w' := ⟨Below.thru h.k h.k.size hb, blk_keep h.x hb, h.q.keep hb h.q.lt, h.t.keep hb⟩
theorem NB.cells {w0 w : World} {N D : Int} (h : NB w0 N D w) : w.cell? ⟨w0.heap.size, 0, none⟩ = some (.int .i64 N) ∧ w.cell? ⟨w0.heap.size, 1, none⟩ = some (.int .i64 D) ∧ w.frozen? ⟨w0.heap.size, 1, none⟩ = false := by
  have h := h.x
  refine ⟨?_, ?_, ?_⟩ <;> simp [World.cell?, World.frozen?, h]
theorem NB.new (w : World) (N D : Int) : NB w N D (((w.alloc (.cells #[.int .i64 N, .int .i64 D] 65)).alloc (.cells #[.bool false, .int .u64 0, .pointer none, .int .u64 0, .pointer none] 33)).alloc (.cells #[.int .i64 0, .slice none 0 0, .int .i64 0, .slice none 0 0] 44)) :=
  ⟨bl3 _ _ _ _, blk_keep (blk_keep (Go.Deep.blk_alloc_new _ _) (bl1 _ _)) (bl1 _ _), (rq_new _ (by simp)).alloc _, r4_new _ (by simp)⟩
section
variable {ρ : Operand → Value} {o : Oper} {w : World} {t : Operand}
end
structure NC (w0 : World) (N D : Int) (a : Rat) (T : Nat) (w : World) : Prop where
  b : NB w0 N D w
  h : Hq T a.num a.den w
theorem NC.keep {w0 w w' : World} {N D : Int} {a : Rat} {T : Nat} (h : NC w0 N D a T w) (hb : Below w.heap.size w w') : NC w0 N D a T w' := ⟨h.b.keep hb, h.h.keep hb⟩
theorem Rq.noI {T : Nat} {w : World} (h : Rq T w) : NoI w T := by obtain ⟨_, _, _, _, _, h⟩ := h; exact ⟨_, _, _, h, by decide⟩
theorem Hq.st {T U : Nat} {n : Int} {d : Nat} {w w' : World} (h : Hq T n d w) (hU : Odd U w) (hg : w.grownBy w' (some U)) (hne : T ≠ U) : Hq T n d w' := by
  obtain ⟨s, x, y, p, q, h1, h2⟩ := h
  exact ⟨s, x, y, p, q, blk_other h1 hg hne, h2.store hU hg⟩
theorem Hq.new {w : World} {n : Int} {d : Nat} {s : Bool} {x y : Int} {p q : Option Addr} (h : Rr w (.agg #[.bool s, .int .u64 x, .pointer p, .int .u64 y, .pointer q]) n d) : Hq w.heap.size n d (w.alloc (.cells #[.bool s, .int .u64 x, .pointer p, .int .u64 y, .pointer q] 33)) :=
  ⟨s, x, y, p, q, Go.Deep.blk_alloc_new _ _, h.keep (bl1 _ _) (Nat.le_refl _)⟩
theorem NB.set {w0 w : World} {N D : Int} (h : NB w0 N D w) (D' : Int) : NB w0 N D' (w.setCell ⟨w0.heap.size, 1, none⟩ (.int .i64 D')) := by
  have hg := only_setCell (p := ⟨w0.heap.size, 1, none⟩) (World.grownBy.refl w (some w0.heap.size)) rfl (.int .i64 D')
  have hx := h.x
  exact ⟨h.k.setCell (Nat.le_refl _) _, by simp [World.setCell, Array.getElem?_modify, hx], h.q.other hg (by omega), h.t.other hg (by omega)⟩
end Go.Proofs.YtjjomjjgoceklaaGreat
