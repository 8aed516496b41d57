import Derived.Test.YtjjomjjgoceklaaGreatWc
namespace Go.Proofs.YtjjomjjgoceklaaGreat
set_option maxRecDepth 100000
open Go.RowKit

/-! R.Floor -/
section
variable {ρ : Operand → Value} {o : Oper} {w : World} {t : Operand}
theorem rn_load61 {T : Nat} {s : Bool} {x y : Int} {p q : Option Addr} (ho : o.op = .load 33 t) (he : ρ t = .pointer (some ⟨T, 0, none⟩)) (h : w.heap[T]? = some (.cells #[.bool s, .int .u64 x, .pointer p, .int .u64 y, .pointer q] 33 (0, 0))) : (execOp ρ o).run Tryz.prog w = .ok (.value (.agg #[.bool s, .int .u64 x, .pointer p, .int .u64 y, .pointer q])) w := by
  have i1 := cell_blk (i := 0) h
  have i2 := cell_blk (i := 1) h
  have i3 := cell_blk (i := 2) h
  have i4 := cell_blk (i := 3) h
  have i5 := cell_blk (i := 4) h
  unfold execOp; rw [ho]; simp [go_sem, he, i1, i2, i3, i4, i5]
end
structure F5 (w0 : World) (s : Bool) (x y : Int) (p q : Option Addr) (n : Int) (d : Nat) (w : World) : Prop where
  g : w0.heap.size + 1 + 1 ≤ w.heap.size
  k : Below w0.heap.size w0 w
  a : w.heap[w0.heap.size]? = some (.cells #[.bool s, .int .u64 x, .pointer p, .int .u64 y, .pointer q] 33 (0, 0))
  r : Rr w (.agg #[.bool s, .int .u64 x, .pointer p, .int .u64 y, .pointer q]) n d
  t : Rz (w0.heap.size + 1) w
section
variable {w0 w w' : World} {s : Bool} {x y : Int} {p q : Option Addr} {n : Int} {d : Nat}
theorem F5.keep (h : F5 w0 s x y p q n d w) (hb : Below w.heap.size w w') : F5 w0 s x y p q n d w' := ⟨Nat.le_trans h.g hb.size, Below.thru h.k h.k.size hb, blk_keep h.a hb, h.r.keep hb (Nat.le_refl _), h.t.keep hb h.t.lt⟩
theorem F5.b3 (h : F5 w0 s x y p q n d w) : B3 w0.heap.size s x p w := by refine ⟨?_, ?_, ?_⟩ <;> simp [World.cell?, h.a]
theorem F5.z (h : F5 w0 s x y p q n d w) : Zr w (.agg #[.bool s, .int .u64 x, .pointer p]) n := h.r.zr'
theorem F5.put (h : F5 w0 s x y p q n d w) {T : Nat} (hT : w0.heap.size + 1 + 1 ≤ T) (hz : Rz T w) (s' : Bool) (x' : Int) (p' : Option Addr) : F5 w0 s x y p q n d (st3 w T (.bool s') (.int .u64 x') (.pointer p')) := by
  have hg : w.grownBy (st3 w T (.bool s') (.int .u64 x') (.pointer p')) (some T) := grown3 _ _ _ _ _ _ _ _
  exact ⟨Nat.le_trans h.g hg.size, below3 h.k (by omega) _ _ _, blk_other h.a hg (by omega), h.r.store hz.odd hg, h.t.other hg (by omega)⟩
end
end Go.Proofs.YtjjomjjgoceklaaGreat
namespace Go.Proofs.YtjjomjjgoceklaaGreat
set_option maxRecDepth 100000
open Go.RowKit

/-! R.Ceil -/
end Go.Proofs.YtjjomjjgoceklaaGreat
namespace Go.Proofs.YtjjomjjgoceklaaGreat
set_option maxRecDepth 100000
open Go.RowKit

/-! R.Sub -/
theorem PR.kd {n : Int} {d : Nat} {w : World} {g : FuncId} {args : Array Value} (h : Calls Tryz.prog g args w (PR n d w)) : Calls Tryz.prog g args w fun e w' => ∃ v, e = .returned v ∧ (Below w.heap.size w w' ∧ Go.Proofs.YtjjomjjgoceklaaGreat.kd (.q n d) v w') := h.mono fun _ _ ⟨hb, v, he, hv⟩ => ⟨v, he, hb, hv⟩
/-- a box with a ratio -/
def Hq (T : Nat) (n : Int) (d : Nat) (w : World) : Prop := ∃ (s : Bool) (x y : Int) (p q : Option Addr), w.heap[T]? = some (.cells #[.bool s, .int .u64 x, .pointer p, .int .u64 y, .pointer q] 33 (0, 0)) ∧ Rr w (.agg #[.bool s, .int .u64 x, .pointer p, .int .u64 y, .pointer q]) n d
theorem Hq.keep {T : Nat} {n : Int} {d : Nat} {w w' : World} (h : Hq T n d w) (hb : Below w.heap.size w w') : Hq T n d w' := by
  obtain ⟨s, x, y, p, q, h1, h2⟩ := h
  exact ⟨s, x, y, p, q, blk_keep h1 hb, h2.keep hb (Nat.le_refl _)⟩
theorem Hq.rq {T : Nat} {n : Int} {d : Nat} {w : World} (h : Hq T n d w) : Rq T w := by obtain ⟨s, x, y, p, q, h1, _⟩ := h; exact ⟨s, x, p, y, q, h1⟩
theorem Hq.stored {T : Nat} {n : Int} {d : Nat} {w : World} {s : Bool} {x y : Int} {p q : Option Addr} (h : Rq T w) (hz : Rr w (.agg #[.bool s, .int .u64 x, .pointer p, .int .u64 y, .pointer q]) n d) : Hq T n d (st5 w T (.bool s) (.int .u64 x) (.pointer p) (.int .u64 y) (.pointer q)) := by
  refine ⟨s, x, y, p, q, ?_, hz.store h.odd (grown5 _ _ _ _ _ _ _)⟩
  obtain ⟨_, _, _, _, _, hT⟩ := h
  simp [World.setCell, Array.getElem?_modify, hT]
structure S76 (w0 : World) (an bn : Int) (p q : Nat) (w : World) : Prop where
  k : Below w0.heap.size w0 w
  a : Hq w0.heap.size an p w
  b : Hq (w0.heap.size + 1) bn q w
  t : Rq (w0.heap.size + 1 + 1) w
theorem S76.keep {w0 w w' : World} {an bn : Int} {p q : Nat} (h : S76 w0 an bn p q w) (hb : Below w.heap.size w w') : S76 w0 an bn p q w' := ⟨Below.thru h.k h.k.size hb, h.a.keep hb, h.b.keep hb, h.t.keep hb h.t.lt⟩
end Go.Proofs.YtjjomjjgoceklaaGreat
namespace Go.Proofs.YtjjomjjgoceklaaGreat
set_option maxRecDepth 100000
open Go.RowKit

/-! V.Cross, V.Dot -/
/-- from cell o on block T holds a ratio's five cells -/
def At5 (T o : Nat) (s : Bool) (x : Int) (p : Option Addr) (y : Int) (q : Option Addr) (w : World) : Prop := ∃ (c : Array Value) (t : TypeId), w.heap[T]? = some (.cells c t (0, 0)) ∧ ∀ i, i < 5 → c[o + i]? = (#[Value.bool s, .int .u64 x, .pointer p, .int .u64 y, .pointer q] : Array Value)[i]?
def Vq (T o : Nat) (n : Int) (d : Nat) (w : World) : Prop := ∃ (s : Bool) (x : Int) (p : Option Addr) (y : Int) (q : Option Addr), At5 T o s x p y q w ∧ Rr w (.agg #[.bool s, .int .u64 x, .pointer p, .int .u64 y, .pointer q]) n d
theorem Vq.keep {T o : Nat} {n : Int} {d : Nat} {w w' : World} (h : Vq T o n d w) (hb : Below w.heap.size w w') : Vq T o n d w' := by
  obtain ⟨s, x, p, y, q, ⟨c, t, h1, h3⟩, h2⟩ := h
  exact ⟨s, x, p, y, q, ⟨c, t, blk_keep h1 hb, h3⟩, h2.keep hb (Nat.le_refl _)⟩
section
variable {ρ : Operand → Value} {o : Oper} {w : World} {t : Operand}
end
structure SV (w0 : World) (ax bx az bz : Int) (cx ex cz ez : Nat) (w : World) : Prop where
  k : Below w0.heap.size w0 w
  ax : Vq w0.heap.size 0 ax cx w
  az : Vq w0.heap.size 5 az cz w
  bx : Vq (w0.heap.size + 1) 0 bx ex w
  bz : Vq (w0.heap.size + 1) 5 bz ez w
  t : Rq (w0.heap.size + 1 + 1) w
theorem SV.keep {w0 w w' : World} {ax bx az bz : Int} {cx ex cz ez : Nat} (h : SV w0 ax bx az bz cx ex cz ez w) (hb : Below w.heap.size w w') : SV w0 ax bx az bz cx ex cz ez w' :=
  ⟨Below.thru h.k h.k.size hb, Vq.keep h.ax hb, Vq.keep h.az hb, Vq.keep h.bx hb, Vq.keep h.bz hb, h.t.keep hb h.t.lt⟩
end Go.Proofs.YtjjomjjgoceklaaGreat
