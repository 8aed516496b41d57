import Derived.Test.YtjjomjjgoceklaaGreatKbh
import Derived.Deep.CutBlock
namespace Go.Proofs.YtjjomjjgoceklaaGreat
set_option maxRecDepth 100000
open Go.RowKit

def kp (b i : Nat) : Kd := .v (.pointer (some ⟨b, i, none⟩))
def ki (n : Int) : Kd := .v (.int .i64 n)
/-- the box of a Big -/
def Xb (T : Nat) (A B C P : Int) (w : World) : Prop := w.heap[T]? = some (.cells #[.int .i64 A, .int .i64 B, .int .i64 C, .int .u8 P] 50 (0, 0))
theorem Xb.cells {T : Nat} {A B C P : Int} {w : World} (h' : Xb T A B C P w) : w.cell? ⟨T, 0, none⟩ = some (.int .i64 A) ∧ w.cell? ⟨T, 1, none⟩ = some (.int .i64 B) ∧ w.cell? ⟨T, 2, none⟩ = some (.int .i64 C) ∧ w.cell? ⟨T, 3, none⟩ = some (.int .u8 P) := by
  have h' : w.heap[T]? = _ := h'
  refine ⟨?_, ?_, ?_, ?_⟩ <;> simp [World.cell?, h']
theorem Xb.keep {T : Nat} {A B C P : Int} {w w' : World} (h : Xb T A B C P w) (hb : Below w.heap.size w w') : Xb T A B C P w' := blk_keep h hb
theorem Xb.c {T : Nat} {A B C P : Int} {w w' : World} (h : Xb T A B C P w) (hb : Below w.heap.size w w') : w'.cell? ⟨T, 0, none⟩ = some (.int .i64 A) ∧ w'.cell? ⟨T, 1, none⟩ = some (.int .i64 B) ∧ w'.cell? ⟨T, 2, none⟩ = some (.int .i64 C) ∧ w'.cell? ⟨T, 3, none⟩ = some (.int .u8 P) := (h.keep hb).cells
theorem blk_al {w : World} {T : Nat} {x : Obj} (h : w.heap[T]? = some x) (o : Obj) : (w.alloc o).heap[T]? = some x := blk_keep h (bl1 w o)
def D1 (t : Nat) : Bool := Nat.beq t 4 || (Nat.ble 9 t && Nat.ble t 19)
def D2 (t : Nat) : Bool := Nat.beq t 5 || (Nat.ble 20 t && Nat.ble t 30)
/-- the boxes of BothZ -/
structure PS (w0 : World) (A B C P z zp zq : Int) (TA TB Tp Tq : Nat) (w : World) : Prop where
  k : Below w0.heap.size w0 w
  x : Xb w0.heap.size A B C P w
  r : Rz (w0.heap.size + 1) w
  b : Bz (w0.heap.size + 1 + 1) 0 none 0 0 w
  ha : Hz TA z w
  hb : Hr TB z w
  hp : Hz Tp zp w
  hq : Hr Tq zq w
theorem PS.keep {w0 : World} {A B C P z zp zq : Int} {TA TB Tp Tq : Nat} {w w' : World} (h : PS w0 A B C P z zp zq TA TB Tp Tq w) (hb : Below w.heap.size w w') : PS w0 A B C P z zp zq TA TB Tp Tq w' :=
  ⟨Below.thru h.k h.k.size hb, h.x.keep hb, h.r.keep hb h.r.lt, blk_keep h.b hb, h.ha.keep hb, h.hb.keep hb, h.hp.keep hb, h.hq.keep hb⟩
theorem PS.setQ {w0 : World} {A B C P z zp zq : Int} {TA TB Tp Tq : Nat} {w : World} (h : PS w0 A B C P z zp zq TA TB Tp Tq w) (h1 : w0.heap.size + 3 ≤ Tq) (h2 : TA ≠ Tq) (h3 : TB ≠ Tq) (h4 : Tp ≠ Tq) {n : Int} {s : Int} {p : Option Addr} {l c : Nat} (hn : RZ w (.agg #[.int .i64 s, .slice p l c]) n) :
    PS w0 A B C P z zp n TA TB Tp Tq (st2 w Tq (.int .i64 s) (.slice p l c)) := by
  have hg : w.grownBy (st2 w Tq (.int .i64 s) (.slice p l c)) (some Tq) := grown2 _ _ _ _ _ _
  obtain ⟨s0, p0, l0, c0, hz⟩ := h.hq.bz
  exact ⟨below2 h.k (by omega) _ _, blk_other h.x hg (by omega), h.r.other hg (by omega), blk_other h.b hg (by omega), h.ha.st hz.odd hg h2, h.hb.st hz.noI hg h3, h.hp.st hz.odd hg h4, Hr.stored hz hn⟩
/-- the result's boxes -/
structure E8 (w0 : World) (z : Int) (Tp Tq : Nat) (w : World) : Prop where
  k : Below w0.heap.size w0 w
  hp : Hz Tp z w
  hq : Hr Tq z w
  r : Rz (w0.heap.size + 1) w
  b : ∃ s p l c, Bz (w0.heap.size + 1 + 1) s p l c w
theorem E8.keep {w0 : World} {z : Int} {Tp Tq : Nat} {w w' : World} (h : E8 w0 z Tp Tq w) (hb : Below w.heap.size w w') : E8 w0 z Tp Tq w' := by
  obtain ⟨s, p, l, c, h5⟩ := h.b
  exact ⟨Below.thru h.k h.k.size hb, h.hp.keep hb, h.hq.keep hb, h.r.keep hb h.r.lt, s, p, l, c, blk_keep h5 hb⟩
end Go.Proofs.YtjjomjjgoceklaaGreat
namespace Go.Proofs.YtjjomjjgoceklaaGreat
set_option maxRecDepth 100000
open Go.RowKit

theorem PSg.kd {a b : Int} {w : World} {n : FuncId} {args : Array Value} (h : Calls Tryz.prog n args w (PSg a b w)) (h0 : sgnZ a b = 0) : Calls Tryz.prog n args w fun e w' => ∃ v, e = .returned v ∧ (Below w.heap.size w w' ∧ Go.Proofs.YtjjomjjgoceklaaGreat.kd (ki 0) v w') :=
  h.mono fun _ _ ⟨hb, he⟩ => ⟨_, he, hb, by show _ = _; rw [h0]⟩
theorem PSi.kd {a : Int} {w : World} {n : FuncId} {args : Array Value} (h : Calls Tryz.prog n args w fun e w' => Below w.heap.size w w' ∧ e = .returned (.int .i64 a.sign)) (h0 : a.sign = 0) : Calls Tryz.prog n args w fun e w' => ∃ v, e = .returned v ∧ (Below w.heap.size w w' ∧ Go.Proofs.YtjjomjjgoceklaaGreat.kd (ki 0) v w') :=
  h.mono fun _ _ ⟨hb, he⟩ => ⟨_, he, hb, by show _ = _; rw [h0]⟩
theorem PB.kd {b : Bool} {w : World} {n : FuncId} {args : Array Value} (h : Calls Tryz.prog n args w (PB b w)) : Calls Tryz.prog n args w fun e w' => ∃ v, e = .returned v ∧ (Below w.heap.size w w' ∧ Go.Proofs.YtjjomjjgoceklaaGreat.kd (.v (.bool b)) v w') :=
  h.mono fun _ _ ⟨hb, he⟩ => ⟨_, he, hb, rfl⟩
theorem rn_pick_t {ρ : Operand → Value} {o : Oper} {w : World} {c x y : Operand} (ho : o.op = .pick c x y) (hc : ρ c = .bool true) : (execOp ρ o).run Tryz.prog w = .ok (.value (ρ x)) w := rn_pick ho hc
theorem rn_pick_f {ρ : Operand → Value} {o : Oper} {w : World} {c x y : Operand} (ho : o.op = .pick c x y) (hc : ρ c = .bool false) : (execOp ρ o).run Tryz.prog w = .ok (.value (ρ y)) w := rn_pick ho hc
/-- three integers in boxes -/
structure R3 (w0 : World) (y z t : Int) (Ta Tb Tc : Nat) (w : World) : Prop where
  k : Below w0.heap.size w0 w
  a : Hz Ta y w
  b : Hz Tb z w
  c : Hz Tc t w
theorem R3.keep {w0 : World} {y z t : Int} {Ta Tb Tc : Nat} {w w' : World} (h : R3 w0 y z t Ta Tb Tc w) (hb : Below w.heap.size w w') : R3 w0 y z t Ta Tb Tc w' :=
  ⟨Below.thru h.k h.k.size hb, h.a.keep hb, h.b.keep hb, h.c.keep hb⟩
end Go.Proofs.YtjjomjjgoceklaaGreat
