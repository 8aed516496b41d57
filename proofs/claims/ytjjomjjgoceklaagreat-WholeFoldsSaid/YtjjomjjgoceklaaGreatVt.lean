import Derived.Test.YtjjomjjgoceklaaGreatVs
namespace Go.Proofs.YtjjomjjgoceklaaGreat
set_option maxRecDepth 100000
open Go.RowKit

/-! the law WholeFolds: the region with both appends -/
structure IF9 (w0 : World) (va vb : Value) (k : Nat) (l : Nat → Rat) (Tx Ty B0 : Nat) (L : Nat → Bool) (f : Nat → Value) (w : World) : Prop where
  kb : Below w0.heap.size w0 w
  sz : B0 ≤ w.heap.size
  lt : Tx < Ty ∧ Ty < B0 ∧ w0.heap.size ≤ Tx
  ga : ∀ g, va.ownBlock = some g → g < Tx
  gb : ∀ g, vb.ownBlock = some g → g < Tx
  x : Hq Tx (l k).num (l k).den w
  y : HA Ty (l k) w
  a0 : L 3 = false → RowA w0.heap.size w va k l
  a1 : L 3 = true → RowA w0.heap.size w (f 29) (k + 1) l
  b0 : L 7 = false → RowB w0.heap.size w vb k l
  b1 : L 7 = true → RowB w0.heap.size w (f 33) (k + 1) l
  c3 : L 8 = true → L 3 = true ∧ f 3 = f 29
  c4 : L 9 = true → L 7 = true ∧ f 4 = f 33
  p3 : L 3 = true → L 0 = true
  p7 : L 7 = true → L 4 = true
  m3 : L 8 = false → f 3 = va
  m4 : L 9 = false → f 4 = vb
theorem RowA.appOp {R : Value → World → Prop} {a0 : Act} {o : Oper} {w : World} {x y : Operand} {base k T : Nat} {v : Value} {l : Nat → Rat} {s1 : Bool} {x1 : Int} {p1 : Option Addr} {y1 : Int} {q1 : Option Addr} (h : RowA base w v k l) (ho : o.op = .call { callee := .builtin .append, args := #[x, y], argTypes := #[78, 78] }) (h1 : a0.eval x = v) (h2 : a0.eval y = .slice (some ⟨T, 0, none⟩) 1 1) (hT : w.heap[T]? = some (.cells #[.bool s1, .int .u64 x1, .pointer p1, .int .u64 y1, .pointer q1] 33 (0, 0)))
    (hr : Rr w (.agg #[.bool s1, .int .u64 x1, .pointer p1, .int .u64 y1, .pointer q1]) (l k).num (l k).den) (hk : k ≤ 100) (hbase : base ≤ w.heap.size) (hR : ∀ v' w', RowA base w' v' (k + 1) l → w.grownBy w' v.ownBlock → R v' w') : OpR Tryz.prog o a0 w R := by
  obtain ⟨v', w', h3, h4, h5⟩ := h.app (ρ := a0.eval) ho h1 h2 hT hr hk hbase
  exact .val h3 (hR v' w' h4 h5)
theorem RowB.appOp {R : Value → World → Prop} {a0 : Act} {o : Oper} {w : World} {x y : Operand} {base k T : Nat} {v : Value} {l : Nat → Rat} {t1 : Int} {f1 : Option Addr} {l1 c1 : Nat} {u1 : Int} {hh1 : Option Addr} {m1 cc1 : Nat} (h : RowB base w v k l) (ho : o.op = .call { callee := .builtin .append, args := #[x, y], argTypes := #[79, 79] }) (h1 : a0.eval x = v) (h2 : a0.eval y = .slice (some ⟨T, 0, none⟩) 1 1) (hT : w.heap[T]? = some (.cells #[.int .i64 t1, .slice f1 l1 c1, .int .i64 u1, .slice hh1 m1 cc1] 44 (0, 0)))
    (hr : RA w (.agg #[.int .i64 t1, .slice f1 l1 c1, .int .i64 u1, .slice hh1 m1 cc1]) (l k)) (hk : k ≤ 100) (hbase : base ≤ w.heap.size) (hR : ∀ v' w', RowB base w' v' (k + 1) l → w.grownBy w' v.ownBlock → R v' w') : OpR Tryz.prog o a0 w R := by
  obtain ⟨v', w', h3, h4, h5⟩ := h.app (ρ := a0.eval) ho h1 h2 hT hr hk hbase
  exact .val h3 (hR v' w' h4 h5)
theorem ownge {base k : Nat} {w : World} {v : Value} {l : Nat → Rat} (h : RowA base w v k l) : ∀ g, v.ownBlock = some g → base ≤ g := fun g hg => by obtain ⟨xs, ho⟩ := h.own; exact (ho.lt g hg).1
theorem ownge' {base k : Nat} {w : World} {v : Value} {l : Nat → Rat} (h : RowB base w v k l) : ∀ g, v.ownBlock = some g → base ≤ g := fun g hg => by obtain ⟨xs, ho⟩ := h.own; exact (ho.lt g hg).1
theorem apart_ab {base k m : Nat} {w : World} {v u : Value} {l : Nat → Rat} (h : RowA base w v k l) (h2 : RowB base w u m l) : ∀ g, u.ownBlock = some g → v.ownBlock ≠ some g := fun g hu hv => by
  obtain ⟨xs, ho⟩ := h.own
  obtain ⟨ys, hp⟩ := h2.own
  obtain ⟨c, e1⟩ := own_block ho hv
  obtain ⟨c', e2⟩ := own_block hp hu
  rw [e1] at e2
  simp at e2
theorem hq_mv {w w' : World} {n : Int} {d T : Nat} {g : Option Nat} (h : Hq T n d w) (hs : Safe w g) (hg : w.grownBy w' g) (hne : g ≠ some T) : Hq T n d w' := by
  obtain ⟨s, x, y, p, q, h1, h2⟩ := h
  exact ⟨s, x, y, p, q, (hg.block T (blk_lt h1) (fun e => hne e.symm)).trans h1, rr_mv h2 hs hg⟩
theorem ha_mv {w w' : World} {a : Rat} {T : Nat} {g : Option Nat} (h : HA T a w) (hs : Safe w g) (hg : w.grownBy w' g) (hne : g ≠ some T) : HA T a w' := by
  obtain ⟨s1, p1, l1, c1, s2, p2, l2, c2, h1, h2, h3⟩ := h
  exact ⟨s1, p1, l1, c1, s2, p2, l2, c2, (hg.block T (blk_lt h1) (fun e => hne e.symm)).trans h1, ra_mv h2 hs hg, rz_mv h3 hs hg⟩
theorem dn_ne {L : Nat → Bool} {i j : Nat} (h : j ≠ i) : dn L i j = L j := by unfold dn; rw [if_neg h]
theorem dn_eq {L : Nat → Bool} {i : Nat} : dn L i i = true := by unfold dn; rw [if_pos rfl]
theorem dn_mono {L : Nat → Bool} {i j : Nat} (h : L j = true) : dn L i j = true := by unfold dn; split; exact rfl; exact h
theorem updo_ne {f : Nat → Value} {d j : Nat} {v : Value} (h : j ≠ d) : updo f (some d) v j = f j := by simp [updo, upd, h]
theorem updo_eq {f : Nat → Value} {d : Nat} {v : Value} : updo f (some d) v d = v := by simp [updo, upd]
section
variable {w0 w w' : World} {va vb : Value} {k Tx Ty B0 : Nat} {l : Nat → Rat} {L : Nat → Bool} {f : Nat → Value}
theorem IF9.pure (h : IF9 w0 va vb k l Tx Ty B0 L f w) (hb : Below w.heap.size w w') (i d : Nat) (v : Value) (hi : i ≠ 3 ∧ i ≠ 7 ∧ i ≠ 8 ∧ i ≠ 9) (hd : d ≠ 29 ∧ d ≠ 33 ∧ d ≠ 3 ∧ d ≠ 4) : IF9 w0 va vb k l Tx Ty B0 (dn L i) (updo f (some d) v) w' := by
  have hg := grown_belowN hb
  have hs := safe_none w
  have hn : ∀ (u : Value) g, (none : Option Nat) = some g → u.ownBlock ≠ some g := fun _ _ e => by cases e
  refine ⟨Below.thru h.kb h.kb.size hb, Nat.le_trans h.sz hb.size, h.lt, h.ga, h.gb, h.x.keep hb, h.y.keep hb, ?_, ?_, ?_, ?_, ?_, ?_, ?_, ?_, ?_, ?_⟩
  · rw [dn_ne (by omega)]; exact fun e => (h.a0 e).mv hs hg (hn _)
  · rw [dn_ne (by omega), updo_ne (by omega)]; exact fun e => (h.a1 e).mv hs hg (hn _)
  · rw [dn_ne (by omega)]; exact fun e => (h.b0 e).mv hs hg (hn _)
  · rw [dn_ne (by omega), updo_ne (by omega)]; exact fun e => (h.b1 e).mv hs hg (hn _)
  · rw [dn_ne (by omega), dn_ne (by omega), updo_ne (by omega), updo_ne (by omega)]; exact h.c3
  · rw [dn_ne (by omega), dn_ne (by omega), updo_ne (by omega), updo_ne (by omega)]; exact h.c4
  · rw [dn_ne (by omega)]; exact fun e => dn_mono (h.p3 e)
  · rw [dn_ne (by omega)]; exact fun e => dn_mono (h.p7 e)
  · rw [dn_ne (by omega), updo_ne (by omega)]; exact h.m3
  · rw [dn_ne (by omega), updo_ne (by omega)]; exact h.m4
theorem IF9.ass3 (h : IF9 w0 va vb k l Tx Ty B0 L f w) (hL : L 3 = true) : IF9 w0 va vb k l Tx Ty B0 (dn L 8) (updo f (some 3) (f 29)) w := by
  refine ⟨h.kb, h.sz, h.lt, h.ga, h.gb, h.x, h.y, ?_, ?_, ?_, ?_, ?_, ?_, ?_, ?_, ?_, ?_⟩
  · rw [dn_ne (by omega)]; exact h.a0
  · rw [dn_ne (by omega), updo_ne (by omega)]; exact h.a1
  · rw [dn_ne (by omega)]; exact h.b0
  · rw [dn_ne (by omega), updo_ne (by omega)]; exact h.b1
  · rw [updo_eq, updo_ne (by omega)]; exact fun _ => ⟨by rw [dn_ne (by omega)]; exact hL, rfl⟩
  · rw [dn_ne (by omega), dn_ne (by omega), updo_ne (by omega), updo_ne (by omega)]; exact h.c4
  · rw [dn_ne (by omega)]; exact fun e => dn_mono (h.p3 e)
  · rw [dn_ne (by omega)]; exact fun e => dn_mono (h.p7 e)
  · rw [dn_eq]; exact fun e => by cases e
  · rw [dn_ne (by omega), updo_ne (by omega)]; exact h.m4
theorem IF9.ass4 (h : IF9 w0 va vb k l Tx Ty B0 L f w) (hL : L 7 = true) : IF9 w0 va vb k l Tx Ty B0 (dn L 9) (updo f (some 4) (f 33)) w := by
  refine ⟨h.kb, h.sz, h.lt, h.ga, h.gb, h.x, h.y, ?_, ?_, ?_, ?_, ?_, ?_, ?_, ?_, ?_, ?_⟩
  · rw [dn_ne (by omega)]; exact h.a0
  · rw [dn_ne (by omega), updo_ne (by omega)]; exact h.a1
  · rw [dn_ne (by omega)]; exact h.b0
  · rw [dn_ne (by omega), updo_ne (by omega)]; exact h.b1
  · rw [dn_ne (by omega), dn_ne (by omega), updo_ne (by omega), updo_ne (by omega)]; exact h.c3
  · rw [updo_eq, updo_ne (by omega)]; exact fun _ => ⟨by rw [dn_ne (by omega)]; exact hL, rfl⟩
  · rw [dn_ne (by omega)]; exact fun e => dn_mono (h.p3 e)
  · rw [dn_ne (by omega)]; exact fun e => dn_mono (h.p7 e)
  · rw [dn_ne (by omega), updo_ne (by omega)]; exact h.m3
  · rw [dn_eq]; exact fun e => by cases e
theorem IF9.app3 (h : IF9 w0 va vb k l Tx Ty B0 L f w) (hL : L 3 = false) (hL0 : L 0 = true) {v : Value} (hv : RowA w0.heap.size w' v (k + 1) l) (hg : w.grownBy w' va.ownBlock) : IF9 w0 va vb k l Tx Ty B0 (dn L 3) (updo f (some 29) v) w' := by
  have ha := h.a0 hL
  have hs := ha.safe
  have hlt := h.lt
  refine ⟨h.kb.grown hg h.kb.size (ownge ha), Nat.le_trans h.sz hg.size, h.lt, h.ga, h.gb, hq_mv h.x hs hg (fun e => by have := h.ga _ e; omega), ha_mv h.y hs hg (fun e => by have := h.ga _ e; omega), ?_, ?_, ?_, ?_, ?_, ?_, ?_, ?_, ?_, ?_⟩
  · rw [dn_eq]; exact fun e => by cases e
  · rw [updo_eq]; exact fun _ => hv
  · rw [dn_ne (by omega)]; exact fun e => (h.b0 e).mv hs hg (fun g e1 e2 => apart_ab ha (h.b0 e) g e2 e1)
  · rw [dn_ne (by omega), updo_ne (by omega)]; exact fun e => (h.b1 e).mv hs hg (fun g e1 e2 => apart_ab ha (h.b1 e) g e2 e1)
  · rw [dn_ne (by omega)]; exact fun e => by have := (h.c3 e).1; rw [hL] at this; cases this
  · rw [dn_ne (by omega), dn_ne (by omega), updo_ne (by omega), updo_ne (by omega)]; exact h.c4
  · exact fun _ => dn_mono hL0
  · rw [dn_ne (by omega)]; exact fun e => dn_mono (h.p7 e)
  · rw [dn_ne (by omega), updo_ne (by omega)]; exact h.m3
  · rw [dn_ne (by omega), updo_ne (by omega)]; exact h.m4
theorem IF9.app7 (h : IF9 w0 va vb k l Tx Ty B0 L f w) (hL : L 7 = false) (hL0 : L 4 = true) {v : Value} (hv : RowB w0.heap.size w' v (k + 1) l) (hg : w.grownBy w' vb.ownBlock) : IF9 w0 va vb k l Tx Ty B0 (dn L 7) (updo f (some 33) v) w' := by
  have ha := h.b0 hL
  have hs := ha.safe
  have hlt := h.lt
  refine ⟨h.kb.grown hg h.kb.size (ownge' ha), Nat.le_trans h.sz hg.size, h.lt, h.ga, h.gb, hq_mv h.x hs hg (fun e => by have := h.gb _ e; omega), ha_mv h.y hs hg (fun e => by have := h.gb _ e; omega), ?_, ?_, ?_, ?_, ?_, ?_, ?_, ?_, ?_, ?_⟩
  · rw [dn_ne (by omega)]; exact fun e => (h.a0 e).mv hs hg (fun g e1 e2 => apart_ab (h.a0 e) ha g e1 e2)
  · rw [dn_ne (by omega), updo_ne (by omega)]; exact fun e => (h.a1 e).mv hs hg (fun g e1 e2 => apart_ab (h.a1 e) ha g e1 e2)
  · rw [dn_eq]; exact fun e => by cases e
  · rw [updo_eq]; exact fun _ => hv
  · rw [dn_ne (by omega), dn_ne (by omega), updo_ne (by omega), updo_ne (by omega)]; exact h.c3
  · rw [dn_ne (by omega)]; exact fun e => by have := (h.c4 e).1; rw [hL] at this; cases this
  · rw [dn_ne (by omega)]; exact fun e => dn_mono (h.p3 e)
  · exact fun _ => dn_mono hL0
  · rw [dn_ne (by omega), updo_ne (by omega)]; exact h.m3
  · rw [dn_ne (by omega), updo_ne (by omega)]; exact h.m4
end
theorem IF9.f3 {w0 w : World} {va vb : Value} {k Tx Ty B0 : Nat} {l : Nat → Rat} {L : Nat → Bool} {f : Nat → Value} (h : IF9 w0 va vb k l Tx Ty B0 L f w) (h0 : L 0 = false) : f 3 = va := by
  refine h.m3 ?_
  cases e : L 8 with
  | false => rfl
  | true => have := h.p3 (h.c3 e).1; rw [h0] at this; cases this
theorem IF9.f4 {w0 w : World} {va vb : Value} {k Tx Ty B0 : Nat} {l : Nat → Rat} {L : Nat → Bool} {f : Nat → Value} (h : IF9 w0 va vb k l Tx Ty B0 L f w) (h0 : L 4 = false) : f 4 = vb := by
  refine h.m4 ?_
  cases e : L 9 with
  | false => rfl
  | true => have := h.p7 (h.c4 e).1; rw [h0] at this; cases this
/-- a new block with one ratio -/
def kb33 (B : Nat) (a : Rat) : Kd := .c (fun v w => ∃ T, v = .slice (some ⟨T, 0, none⟩) 1 1 ∧ B ≤ T ∧ Hq T a.num a.den w) fun _ _ _ ⟨T, h1, h2, h3⟩ hb => ⟨T, h1, h2, h3.keep hb⟩
def kb44 (B : Nat) (a : Rat) : Kd := .c (fun v w => ∃ T, v = .slice (some ⟨T, 0, none⟩) 1 1 ∧ B ≤ T ∧ HA T a w) fun _ _ _ ⟨T, h1, h2, h3⟩ hb => ⟨T, h1, h2, h3.keep hb⟩
def D9f (t : Nat) : Bool := match t with | 3 => true | 4 => true | 26 => true | 27 => true | 28 => true | 29 => true | 30 => true | 31 => true | 32 => true | 33 => true | _ => false
def tab9f (va vb : Value) (B : Nat) (a : Rat) (t : Nat) : Kd := if t < 26 then .any else [.v va, .q a.num a.den, kb33 B a, .any, .v vb, kra a, kb44 B a, .any].getD (t - 26) .any
def Ksg (K : Kd) (B : Nat) : Prop := ∀ {v : Value} {w w' : World} {T : Option Nat}, Safe w T → w.grownBy w' T → (∀ g, T = some g → g < B) → kd K v w → kd K v w'
theorem tab9_st {va vb : Value} {B : Nat} {a : Rat} (t : Nat) : Ksg (tab9f va vb B a t) B := by
  intro v w w' T hs hg hB h
  unfold tab9f at h ⊢
  by_cases ht : t < 26
  · rw [if_pos ht] at h ⊢; exact h
  rw [if_neg ht] at h ⊢
  match t - 26, h with
  | 0, h => exact h
  | 1, h => exact rr_mv h hs hg
  | 2, ⟨U, h1, h2, h3⟩ => exact ⟨U, h1, h2, hq_mv h3 hs hg (fun e => by have := hB _ e; omega)⟩
  | 3, h => exact h
  | 4, h => exact h
  | 5, h => exact ra_mv h hs hg
  | 6, ⟨U, h1, h2, h3⟩ => exact ⟨U, h1, h2, ha_mv h3 hs hg (fun e => by have := hB _ e; omega)⟩
  | 7, h => exact h
  | n + 8, h => exact h
end Go.Proofs.YtjjomjjgoceklaaGreat
namespace Go.Proofs.YtjjomjjgoceklaaGreat
set_option maxRecDepth 100000
open Go.RowKit

/-! the law WholeFolds -/
theorem cf54 : CF 54 := fun W args => by go_simp
theorem cf55 : CF 55 := fun W args => by go_simp
theorem cf56 : CF 56 := fun W args => by go_simp
theorem cf57 : CF 57 := fun W args => by go_simp
theorem cf58 : CF 58 := fun W args => by go_simp
theorem cf59 : CF 59 := fun W args => by go_simp
theorem sum_sq' {v va : Value} {n : Nat} {l : Nat → Rat} {w : World} (e : v = va) (h : SQ w va n l) (bd : ∀ i, i < n → Bd9 1 (l i)) (hn : n ≤ 30) : Calls Tryz.prog 54 #[v] w (PRq (sumq l n) w) := by
  subst e
  exact sum_sq v n l w h bd hn
theorem min_sq' {v va : Value} {n : Nat} {l : Nat → Rat} {w : World} (e : v = va) (h : SQ w va n l) (bd : ∀ i, i < n → Bd9 1 (l i)) (hn : n ≤ 30) : Calls Tryz.prog 56 #[v] w (PRq (bst (-1) l n) w) := by
  subst e
  exact min_any v n l w h bd hn
theorem max_sq' {v va : Value} {n : Nat} {l : Nat → Rat} {w : World} (e : v = va) (h : SQ w va n l) (bd : ∀ i, i < n → Bd9 1 (l i)) (hn : n ≤ 30) : Calls Tryz.prog 58 #[v] w (PRq (bst 1 l n) w) := by
  subst e
  exact max_any v n l w h bd hn
theorem sumr_sa' {v va : Value} {n : Nat} {l : Nat → Rat} {w : World} (e : v = va) (h : SA w va n l) (bd : ∀ i, i < n → Bd9 1 (l i)) (hn : n ≤ 30) : Calls Tryz.prog 55 #[v] w (PRA (sumq l n) w) := by
  subst e
  exact sumr_sa v n l w h bd hn
theorem minr_sa' {v va : Value} {n : Nat} {l : Nat → Rat} {w : World} (e : v = va) (h : SA w va n l) (bd : ∀ i, i < n → Bd9 1 (l i)) (hn : n ≤ 30) : Calls Tryz.prog 57 #[v] w (PRA (bst (-1) l n) w) := by
  subst e
  exact minr_sa v n l w h bd hn
theorem maxr_sa' {v va : Value} {n : Nat} {l : Nat → Rat} {w : World} (e : v = va) (h : SA w va n l) (bd : ∀ i, i < n → Bd9 1 (l i)) (hn : n ≤ 30) : Calls Tryz.prog 59 #[v] w (PRA (bst 1 l n) w) := by
  subst e
  exact maxr_sa v n l w h bd hn
structure G10 (w0 : World) (va vb : Value) (n : Nat) (l : Nat → Rat) (w : World) : Prop where
  kb : Below w0.heap.size w0 w
  a : RowA w0.heap.size w va n l
  b : RowB w0.heap.size w vb n l
theorem G10.keep {w0 w w' : World} {va vb : Value} {n : Nat} {l : Nat → Rat} (h : G10 w0 va vb n l w) (hb : Below w.heap.size w w') : G10 w0 va vb n l w' :=
  ⟨Below.thru h.kb h.kb.size hb, h.a.mv (safe_none _) (grown_belowN hb) (fun _ e => by cases e), h.b.mv (safe_none _) (grown_belowN hb) (fun _ e => by cases e)⟩
/-- a row of Nums that is handed in -/
def NumS (w : World) (p : Option Addr) (n : Nat) (Nn Dn : Nat → Int) : Prop := ∀ i, i < n → ∃ b off, p = some ⟨b, off, none⟩ ∧ b < w.heap.size ∧ w.cell? ⟨b, off + i * 2, none⟩ = some (.int .i64 (Nn i)) ∧ w.cell? ⟨b, off + i * 2 + 1, none⟩ = some (.int .i64 (Dn i))
def tabI10 (va vb : Value) (n : Nat) (l : Nat → Rat) (tt : Nat) : Kd := if tt = 2 then (.v (.bool true)) else [(.v va), .q (sumq l n).num (sumq l n).den, (.v vb), (kra (sumq l n)), (.v (.bool true)), (.v (.bool true)), (.v va), .q (bst (-1) l n).num (bst (-1) l n).den, (.v vb), (kra (bst (-1) l n)), (.v (.bool true)), (.v (.bool true)), (.v (.bool true)), (.v va), .q (bst 1 l n).num (bst 1 l n).den, (.v vb), (kra (bst 1 l n)), (.v (.bool true)), (.v (.bool true)), (.v (.bool true)), (.v (.bool true)), (.v (.bool true))].getD (tt - 34) .any
def DI10 (t : Nat) : Bool := Nat.beq t 2 || (Nat.ble 34 t && Nat.ble t 55)
theorem IF9.drewn {w0 : World} {va vb : Value} {k Tx Ty B0 : Nat} {l : Nat → Rat} {L : Nat → Bool} {f : Nat → Value} {w : World} (h : IF9 w0 va vb k l Tx Ty B0 L f w) : IF9 w0 va vb k l Tx Ty B0 L f { w with drawn := w.drawn + 1 } := by
  have hb : Below w.heap.size w { w with drawn := w.drawn + 1 } := (Below.refl _ _).drew
  have hg := grown_belowN hb
  have hs := safe_none w
  have hn : ∀ (u : Value) g, (none : Option Nat) = some g → u.ownBlock ≠ some g := fun _ _ e => by cases e
  exact ⟨Below.thru h.kb h.kb.size hb, h.sz, h.lt, h.ga, h.gb, h.x.keep hb, h.y.keep hb, fun e => (h.a0 e).mv hs hg (hn _), fun e => (h.a1 e).mv hs hg (hn _), fun e => (h.b0 e).mv hs hg (hn _), fun e => (h.b1 e).mv hs hg (hn _), h.c3, h.c4, h.p3, h.p7, h.m3, h.m4⟩
theorem folds_big (p : Option Addr) (n cp : Nat) (w : World) (hn : 30 < n) : Calls Tryz.prog 6 #[.slice p n cp] w (PB true w) := by
  have hn2 : (30 : Int) < (n : Int) := by omega
  clear hn
  go_enter Tryz.func6, Tryz.ntmps6
  go_wp2_with fail
  refine (awake_any _).mono ?_
  rintro e w1 ⟨hb, rfl⟩
  go_wp2
  go_ret
  exact ⟨hb, rfl⟩
set_option maxHeartbeats 1600000 in
theorem folds_small (p : Option Addr) (n cp : Nat) (Nn Dn : Nat → Int) (l : Nat → Rat) (w : World) (hN : NumS w p n Nn Dn) (hl : ∀ i, i < n → Bd9 1 (l i) ∧ ∀ W, Calls Tryz.prog 38 #[.agg #[.int .i64 (Nn i), .int .i64 (Dn i)]] W (PBq (l i) W)) (hn : n ≤ 30) : Calls Tryz.prog 6 #[.slice p n cp] w (PB true w) := by
  have hn2 : ¬ (30 : Int) < (n : Int) := by omega
  have HN := Lib.hid hN
  have CQ := Lib.hid (fun i h => (hl i h).2)
  have BD := Lib.hid (fun i h => (hl i h).1)
  clear hN hl
  go_enter Tryz.func6, Tryz.ntmps6
  go_wp2_with fail
  go_loopw [3, 4, 5] (fun va vb i wr => ∃ k : Nat, k ≤ n ∧ i = .int .i64 k ∧ Hid (G10 w va vb k l wr)) (fun _ _ i _ => n - (intOf i).toNat)
  case atStart => exact ⟨0, Nat.zero_le _, rfl, Lib.hid ⟨Below.refl _ _, RowA.nil _ _ _, RowB.nil _ _ _⟩⟩
  case round =>
    obtain ⟨k, hk, rfl, S⟩ := hrel
    by_cases hlt : k < n
    · have LT := Lib.hid hlt
      obtain ⟨b, off, rfl, hb, d1, d2⟩ := HN.out k hlt
      have e1 := (S.out.kb.cell (p := ⟨b, off + k * 2, none⟩) hb).trans d1
      have e2 := (S.out.kb.cell (p := ⟨b, off + k * 2 + 1, none⟩) hb).trans d2
      have HB := Lib.hid hb
      clear d1 d2 hb
      go_wp2_with fail
      refine (CQ.out k LT.out _).mono ?_
      rintro e w1 ⟨hb1, u, v, rfl, hu, hv⟩
      obtain ⟨s1, x1, p1, y1, q1, rfl⟩ := hu.agg
      obtain ⟨t1, f1, l1, c1, u1, hh1, m1, cc1, rfl⟩ := hv.agg
      have S1 := S.out.keep hb1
      have kk := bl2 w1 (.cells #[.bool s1, .int .u64 x1, .pointer p1, .int .u64 y1, .pointer q1] 33) (.cells #[.int .i64 t1, .slice f1 l1 c1, .int .i64 u1, .slice hh1 m1 cc1] 44)
      have S2 := S1.keep kk
      have HR := HA.new (RA.of (hv.keep (bl1 w1 (.cells #[.bool s1, .int .u64 x1, .pointer p1, .int .u64 y1, .pointer q1] 33)) (Nat.le_refl _)))
      rw [World.size_alloc] at HR
      have F0 : ∀ f : Nat → Value, f 3 = u3 → f 4 = u4 → IF9 w u3 u4 k l w1.heap.size (w1.heap.size + 1) (w1.heap.size + 2) (fun _ => false) f ((w1.alloc (.cells #[.bool s1, .int .u64 x1, .pointer p1, .int .u64 y1, .pointer q1] 33)).alloc (.cells #[.int .i64 t1, .slice f1 l1 c1, .int .i64 u1, .slice hh1 m1 cc1] 44)) := fun f g3 g4 =>
        ⟨S2.kb, by simp, ⟨by omega, by omega, S1.kb.size⟩, fun g hg => (S1.a.safe g hg).1, fun g hg => (S1.b.safe g hg).1, (Hq.new hu).keep (bl1 _ _), HR, fun _ => S2.a, (fun e => by cases e), fun _ => S2.b, (fun e => by cases e), (fun e => by cases e), (fun e => by cases e), (fun e => by cases e), (fun e => by cases e), fun _ => g3, fun _ => g4⟩
      have F0 := Lib.hid F0
      have KN : Hid (k ≤ 100) := by show _ ≤ _; omega
      clear hb1 hu hv S S1 S2 kk HR e1 e2
      go_upto_region 9 with fail
      refine wp_region_st D9f (tab9f u3 u4 (w1.heap.size + 2) (l k)) (IF9 w u3 u4 k l w1.heap.size (w1.heap.size + 1) (w1.heap.size + 2)) (by kernel_rfl) (by kernel_rfl) (by kernel_rfl) (by kernel_rfl) ((F0.out _ rfl rfl).drewn) ?_ ?_
      · refine .cons (fun L f w' hL hI hs he => ⟨_, rfl, wanted_none rfl, .val (rn_move rfl) ⟨hI.pure (Below.refl _ _) 0 26 _ (by omega) (by omega), (fr_own rfl rfl).trans (hI.f3 hL), fun _ _ h => h⟩⟩) ?_
        refine .cons (fun L f w' hL hI hs he => ?_) ?_
        · obtain ⟨s, x, y, p, q, h1, h2⟩ := hI.x
          exact ⟨_, rfl, wanted_none rfl, .val (rn_load61 rfl (fr_old rfl rfl) h1) ⟨hI.pure (Below.refl _ _) 1 27 _ (by omega) (by omega), h2, fun _ _ h => h⟩⟩
        refine .cons (fun L f w' hL hI hs he => ?_) ?_
        · have h27 : Rr w' (f 27) (l k).num (l k).den := hs 27 (by kernel_rfl)
          obtain ⟨s1, x1, p1, y1, q1, e1⟩ := h27.agg
          rw [e1] at h27
          have kb := bl1 w' (.cells #[.bool s1, .int .u64 x1, .pointer p1, .int .u64 y1, .pointer q1] 33)
          exact ⟨_, rfl, wanted_none rfl, .val (rn_build78 rfl ((fr_own rfl rfl).trans e1)) ⟨hI.pure kb 2 28 _ (by omega) (by omega), ⟨_, rfl, hI.sz, Hq.new h27⟩, fun _ _ h => h.keep kb⟩⟩
        refine .cons (fun L f w' hL hI hs he => ?_) ?_
        · obtain ⟨T, e1, hT, s, x, y, p, q, h1, h2⟩ : ∃ T, f 28 = .slice (some ⟨T, 0, none⟩) 1 1 ∧ w1.heap.size + 2 ≤ T ∧ Hq T (l k).num (l k).den w' := hs 28 (by kernel_rfl)
          have h26 : f 26 = u3 := hs 26 (by kernel_rfl)
          exact ⟨_, rfl, wanted_none rfl, (hI.a0 hL).appOp rfl ((fr_own rfl rfl).trans h26) ((fr_own rfl rfl).trans e1) h1 h2 KN.out hI.kb.size fun v' w2 hv hg => ⟨hI.app3 hL (he 0 (List.contains_iff_mem.1 (by kernel_rfl))) hv hg, trivial, fun d' _ h => tab9_st d' (hI.a0 hL).safe hg (fun g e => by have := hI.ga g e; have := hI.lt; omega) h⟩⟩
        refine .cons (fun L f w' hL hI hs he => ⟨_, rfl, wanted_none rfl, .val (rn_move rfl) ⟨hI.pure (Below.refl _ _) 4 30 _ (by omega) (by omega), (fr_own rfl rfl).trans (hI.f4 hL), fun _ _ h => h⟩⟩) ?_
        refine .cons (fun L f w' hL hI hs he => ?_) ?_
        · obtain ⟨t1, f1, l1, c1, u1, hh1, m1, cc1, h1, h2, h3⟩ := hI.y
          exact ⟨_, rfl, wanted_none rfl, .val (rn_load44 rfl (fr_old rfl rfl) h1) ⟨hI.pure (Below.refl _ _) 5 31 _ (by omega) (by omega), h2, fun _ _ h => h⟩⟩
        refine .cons (fun L f w' hL hI hs he => ?_) ?_
        · have h31 : RA w' (f 31) (l k) := hs 31 (by kernel_rfl)
          obtain ⟨t1, f1, l1, c1, u1, hh1, m1, cc1, e1⟩ := h31.agg
          rw [e1] at h31
          have kb := bl1 w' (.cells #[.int .i64 t1, .slice f1 l1 c1, .int .i64 u1, .slice hh1 m1 cc1] 44)
          exact ⟨_, rfl, wanted_none rfl, .val (rn_build79 rfl ((fr_own rfl rfl).trans e1)) ⟨hI.pure kb 6 32 _ (by omega) (by omega), ⟨_, rfl, hI.sz, HA.new h31⟩, fun _ _ h => h.keep kb⟩⟩
        refine .cons (fun L f w' hL hI hs he => ?_) ?_
        · obtain ⟨T, e1, hT, t1, f1, l1, c1, u1, hh1, m1, cc1, h1, h2, h3⟩ : ∃ T, f 32 = .slice (some ⟨T, 0, none⟩) 1 1 ∧ w1.heap.size + 2 ≤ T ∧ HA T (l k) w' := hs 32 (by kernel_rfl)
          have h30 : f 30 = u4 := hs 30 (by kernel_rfl)
          exact ⟨_, rfl, wanted_none rfl, (hI.b0 hL).appOp rfl ((fr_own rfl rfl).trans h30) ((fr_own rfl rfl).trans e1) h1 h2 KN.out hI.kb.size fun v' w2 hv hg => ⟨hI.app7 hL (he 4 (List.contains_iff_mem.1 (by kernel_rfl))) hv hg, trivial, fun d' _ h => tab9_st d' (hI.b0 hL).safe hg (fun g e => by have := hI.gb g e; have := hI.lt; omega) h⟩⟩
        refine .cons (fun L f w' hL hI hs he => ⟨_, rfl, wanted_none rfl, .val (v := f 29) ((rn_assign rfl).trans (by rw [fr_own rfl rfl])) ⟨hI.ass3 (he 3 (List.contains_iff_mem.1 (by kernel_rfl))), trivial, fun _ _ h => h⟩⟩) ?_
        exact .cons (fun L f w' hL hI hs he => ⟨_, rfl, wanted_none rfl, .val (v := f 33) ((rn_assign rfl).trans (by rw [fr_own rfl rfl])) ⟨hI.ass4 (he 7 (List.contains_iff_mem.1 (by kernel_rfl))), trivial, fun _ _ h => h⟩⟩) .nil
      · intro L f w' h hall
        have hall3 := hall 3 (by decide); have hall7 := hall 7 (by decide); have hall8 := hall 8 (by decide); have hall9 := hall 9 (by decide)
        have QE : Hid (G10 w (f 3) (f 4) (k + 1) l w') := ⟨h.kb, (h.c3 hall8).2 ▸ h.a1 hall3, (h.c4 hall9).2 ▸ h.b1 hall7⟩
        clear h hall hall3 hall7 hall8 hall9 F0
        go_step
        go_step
        simp only [fr, over, D9f, Nat.reduceAdd]
        go_wp2
        go_roundw
        case rel => exact ⟨k + 1, by have := LT.out; omega, by go_num, QE⟩
        case measure => have := LT.out; simp [intOf]; omega
    · obtain rfl : k = n := by omega
      go_upto_region 10 with fail
      go_cut [2] (fun v wc => v = .bool true ∧ Below w.heap.size w wc)
      case first =>
        rename_i J K' hJ hK
        refine wp_region_ks DI10 (tabI10 u3 u4 k l) (G10 w u3 u4 k l) (by kernel_rfl) (by kernel_rfl) (by kernel_rfl) (fun _ _ h hb => h.keep hb) S.out ?_ ?_
        ·
          refine .cons (fun f w' hI hs => ⟨_, rfl, .inl ⟨wanted_none rfl, .val (rn_move rfl) ⟨Below.refl _ _, fr_old rfl rfl⟩⟩⟩) ?_
          refine .cons (fun f w' hI hs => ⟨_, rfl, .inl ⟨wanted_none rfl, .call1 rfl cf54 rfl rfl (PRq.kd (sum_sq' (hs 34 (by kernel_rfl)) hI.a.row BD.out (by omega)))⟩⟩) ?_
          refine .cons (fun f w' hI hs => ⟨_, rfl, .inl ⟨wanted_none rfl, .val (rn_move rfl) ⟨Below.refl _ _, fr_old rfl rfl⟩⟩⟩) ?_
          refine .cons (fun f w' hI hs => ⟨_, rfl, .inl ⟨wanted_none rfl, .call1 rfl cf55 rfl rfl (PRA.kd (sumr_sa' (hs 36 (by kernel_rfl)) hI.b.row BD.out (by omega)))⟩⟩) ?_
          refine .cons (fun f w' hI hs => ⟨_, rfl, .inl ⟨wanted_none rfl, .call2 rfl cf20 rfl rfl rfl rfl (PB.kd (same_any _ _ (sumq l k) _ _ (hs 35 (by kernel_rfl)) (hs 37 (by kernel_rfl)) (sumq_bd BD.out k (Nat.le_refl _)) (by omega)))⟩⟩) ?_
          refine .cons (fun f w' hI hs => ⟨_, rfl, .inl ⟨wanted_none rfl, .val (rn_move rfl) ⟨Below.refl _ _, ((fr_own rfl rfl).trans (hs 38 (by kernel_rfl)))⟩⟩⟩) ?_
          refine .cons (fun f w' hI hs => ⟨_, rfl, .inl ⟨wanted_some rfl (by kernel_rfl) rfl rfl (hs 39 (by kernel_rfl)), .val (rn_move rfl) ⟨Below.refl _ _, fr_old rfl rfl⟩⟩⟩) ?_
          refine .cons (fun f w' hI hs => ⟨_, rfl, .inl ⟨wanted_some rfl (by kernel_rfl) rfl rfl (hs 39 (by kernel_rfl)), .call1 rfl cf56 rfl rfl (PRq.kd (min_sq' (hs 40 (by kernel_rfl)) hI.a.row BD.out (by omega)))⟩⟩) ?_
          refine .cons (fun f w' hI hs => ⟨_, rfl, .inl ⟨wanted_some rfl (by kernel_rfl) rfl rfl (hs 39 (by kernel_rfl)), .val (rn_move rfl) ⟨Below.refl _ _, fr_old rfl rfl⟩⟩⟩) ?_
          refine .cons (fun f w' hI hs => ⟨_, rfl, .inl ⟨wanted_some rfl (by kernel_rfl) rfl rfl (hs 39 (by kernel_rfl)), .call1 rfl cf57 rfl rfl (PRA.kd (minr_sa' (hs 42 (by kernel_rfl)) hI.b.row BD.out (by omega)))⟩⟩) ?_
          refine .cons (fun f w' hI hs => ⟨_, rfl, .inl ⟨wanted_some rfl (by kernel_rfl) rfl rfl (hs 39 (by kernel_rfl)), .call2 rfl cf20 rfl rfl rfl rfl (PB.kd (same_any _ _ (bst (-1) l k) _ _ (hs 41 (by kernel_rfl)) (hs 43 (by kernel_rfl)) (bst_bd BD.out k (Nat.le_refl _)) (by omega)))⟩⟩) ?_
          refine .cons (fun f w' hI hs => ⟨_, rfl, .inl ⟨wanted_none rfl, .val (rn_pick_t rfl ((fr_own rfl rfl).trans (hs 39 (by kernel_rfl)))) ⟨Below.refl _ _, ((fr_own rfl rfl).trans (hs 44 (by kernel_rfl)))⟩⟩⟩) ?_
          refine .cons (fun f w' hI hs => ⟨_, rfl, .inl ⟨wanted_none rfl, .val (rn_move rfl) ⟨Below.refl _ _, ((fr_own rfl rfl).trans (hs 45 (by kernel_rfl)))⟩⟩⟩) ?_
          refine .cons (fun f w' hI hs => ⟨_, rfl, .inl ⟨wanted_some rfl (by kernel_rfl) rfl rfl (hs 46 (by kernel_rfl)), .val (rn_move rfl) ⟨Below.refl _ _, fr_old rfl rfl⟩⟩⟩) ?_
          refine .cons (fun f w' hI hs => ⟨_, rfl, .inl ⟨wanted_some rfl (by kernel_rfl) rfl rfl (hs 46 (by kernel_rfl)), .call1 rfl cf58 rfl rfl (PRq.kd (max_sq' (hs 47 (by kernel_rfl)) hI.a.row BD.out (by omega)))⟩⟩) ?_
          refine .cons (fun f w' hI hs => ⟨_, rfl, .inl ⟨wanted_some rfl (by kernel_rfl) rfl rfl (hs 46 (by kernel_rfl)), .val (rn_move rfl) ⟨Below.refl _ _, fr_old rfl rfl⟩⟩⟩) ?_
          refine .cons (fun f w' hI hs => ⟨_, rfl, .inl ⟨wanted_some rfl (by kernel_rfl) rfl rfl (hs 46 (by kernel_rfl)), .call1 rfl cf59 rfl rfl (PRA.kd (maxr_sa' (hs 49 (by kernel_rfl)) hI.b.row BD.out (by omega)))⟩⟩) ?_
          refine .cons (fun f w' hI hs => ⟨_, rfl, .inl ⟨wanted_some rfl (by kernel_rfl) rfl rfl (hs 46 (by kernel_rfl)), .call2 rfl cf20 rfl rfl rfl rfl (PB.kd (same_any _ _ (bst 1 l k) _ _ (hs 48 (by kernel_rfl)) (hs 50 (by kernel_rfl)) (bst_bd BD.out k (Nat.le_refl _)) (by omega)))⟩⟩) ?_
          refine .cons (fun f w' hI hs => ⟨_, rfl, .inl ⟨wanted_none rfl, .val (rn_pick_t rfl ((fr_own rfl rfl).trans (hs 46 (by kernel_rfl)))) ⟨Below.refl _ _, ((fr_own rfl rfl).trans (hs 51 (by kernel_rfl)))⟩⟩⟩) ?_
          refine .cons (fun f w' hI hs => ⟨_, rfl, .inl ⟨wanted_none rfl, .val (rn_move rfl) ⟨Below.refl _ _, ((fr_own rfl rfl).trans (hs 52 (by kernel_rfl)))⟩⟩⟩) ?_
          refine .cons (fun f w' hI hs => ⟨_, rfl, .inl ⟨wanted_some rfl (by kernel_rfl) rfl rfl (hs 53 (by kernel_rfl)), .call0 rfl cf11 (PB.kd (awake_any _))⟩⟩) ?_
          refine .cons (fun f w' hI hs => ⟨_, rfl, .inl ⟨wanted_none rfl, .val (rn_pick_t rfl ((fr_own rfl rfl).trans (hs 53 (by kernel_rfl)))) ⟨Below.refl _ _, ((fr_own rfl rfl).trans (hs 54 (by kernel_rfl)))⟩⟩⟩) ?_
          refine .cons (fun f w' hI hs => ⟨_, rfl, .inl ⟨wanted_none rfl, .val (rn_assign rfl) ⟨Below.refl _ _, ((fr_own rfl rfl).trans (hs 55 (by kernel_rfl)))⟩⟩⟩) ?_
          exact .nil
        · intro f w' hI hk
          have h2 : f 2 = .bool true := hk 2 (by kernel_rfl)
          refine hK _ _ (Met.intro (hJ _ _ ?_))
          (repeat apply Exists.intro)
          refine ⟨?_, rfl⟩
          exact ⟨h2, hI.kb⟩
      case rest =>
        obtain ⟨rfl, kf⟩ := hcut
        clear S
        go_wp2
        go_ret
        exact ⟨kf, rfl⟩
end Go.Proofs.YtjjomjjgoceklaaGreat
