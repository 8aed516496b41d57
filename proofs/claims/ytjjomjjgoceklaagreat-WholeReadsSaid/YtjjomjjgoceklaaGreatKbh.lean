import Derived.Test.YtjjomjjgoceklaaGreatKbg
import Derived.Test.YtjjomjjgoceklaaGreatKbe
import Derived.Deep.DeepCutAuto
namespace Go.Proofs.YtjjomjjgoceklaaGreat
set_option maxRecDepth 100000
open Go.RowKit Go.Shelf

def wl : Nat → Int × Nat
  | 0 => (1, 2)
  | 1 => (1, 3)
  | _ => (1, 6)
def wa : Nat → Int × Nat
  | 0 => (0, 1)
  | 1 => (1, 2)
  | 2 => (5, 6)
  | _ => (1, 1)
theorem wa_ok : ∀ k, k < 3 → AddOK (wa k) (wl k) (wa (k + 1))
  | 0, _ => add_a
  | 1, _ => add_b
  | 2, _ => add_c
theorem slR3 {w : World} {sa : Bool} {xa : Int} {pa : Option Addr} {ya : Int} {qa : Option Addr} {sb : Bool} {xb : Int} {pb : Option Addr} {yb : Int} {qb : Option Addr} {sc : Bool} {xc : Int} {pc : Option Addr} {yc : Int} {qc : Option Addr}
    (h0 : Rr w (.agg #[.bool sa, .int .u64 xa, .pointer pa, .int .u64 ya, .pointer qa]) 1 2) (h1 : Rr w (.agg #[.bool sb, .int .u64 xb, .pointer pb, .int .u64 yb, .pointer qb]) 1 3) (h2 : Rr w (.agg #[.bool sc, .int .u64 xc, .pointer pc, .int .u64 yc, .pointer qc]) 1 6) :
    SlR (w.alloc (.cells #[.bool sa, .int .u64 xa, .pointer pa, .int .u64 ya, .pointer qa, .bool sb, .int .u64 xb, .pointer pb, .int .u64 yb, .pointer qb, .bool sc, .int .u64 xc, .pointer pc, .int .u64 yc, .pointer qc] 33)) w.heap.size 3 wl := by
  refine ⟨by simp, fun i hi => ?_⟩
  match i, hi with
  | 0, _ => exact ⟨sa, xa, pa, ya, qa, by simp [go_sem], by simp [go_sem], by simp [go_sem], by simp [go_sem], by simp [go_sem], h0.keep (bl1 _ _) (Nat.le_refl _)⟩
  | 1, _ => exact ⟨sb, xb, pb, yb, qb, by simp [go_sem], by simp [go_sem], by simp [go_sem], by simp [go_sem], by simp [go_sem], h1.keep (bl1 _ _) (Nat.le_refl _)⟩
  | 2, _ => exact ⟨sc, xc, pc, yc, qc, by simp [go_sem], by simp [go_sem], by simp [go_sem], by simp [go_sem], by simp [go_sem], h2.keep (bl1 _ _) (Nat.le_refl _)⟩
set_option maxRecDepth 100000 in
set_option maxHeartbeats 1600000 in
theorem awake_any (w : World) : Calls Tryz.prog 11 #[] w (PB true w) := by
  go_enter Tryz.func11, Tryz.ntmps11
  go_wp2_with fail
  refine (int_any (-7) _ (by unfold I64; omega)).mono ?_
  rintro e w1 ⟨hb1, v1, rfl, h1⟩
  go_wp2_with fail
  refine (int_any 2 _ (by unfold I64; omega)).mono ?_
  rintro e w2 ⟨hb2, v2, rfl, h2⟩
  go_wp2_with fail
  refine (quo72 _ _ _ (h1.keep hb2 (Nat.le_refl _)) h2).mono ?_
  rintro e w3 ⟨hb3, v3, v4, rfl, h3, h4⟩
  have k3 := (hb1.trans (hb2.mono hb1.size)).trans (hb3.mono (Nat.le_trans hb1.size hb2.size))
  clear hb1 hb2 hb3 h1 h2
  obtain ⟨s3, x3, p3, rfl, _⟩ := h3.dg
  obtain ⟨s4, x4, p4, rfl, _⟩ := h4.dg
  have H3 := Lib.hid h3
  have H4 := Lib.hid h4
  clear h3 h4
  go_wp2_with fail
  refine (p64 _).mono ?_
  rintro e w5 ⟨hb5, v5, rfl, h5⟩
  obtain ⟨s5, x5, p5, y5, q5, rfl⟩ := h5.agg
  have H5 := Lib.hid h5
  clear h5
  have z5 : w3.heap.size + 1 < w5.heap.size := Nat.lt_of_lt_of_le (by simp) hb5.size
  have a0 : w5.cell? ⟨w3.heap.size, 0, none⟩ = some (.bool s3) := (hb5.cell (p := ⟨w3.heap.size, 0, none⟩) (by simp; omega)).trans (by simp [go_sem, World.cell?_alloc_past])
  have a1 : w5.cell? ⟨w3.heap.size, 1, none⟩ = some (.int .u64 x3) := (hb5.cell (p := ⟨w3.heap.size, 1, none⟩) (by simp; omega)).trans (by simp [go_sem, World.cell?_alloc_past])
  have a2 : w5.cell? ⟨w3.heap.size, 2, none⟩ = some (.pointer p3) := (hb5.cell (p := ⟨w3.heap.size, 2, none⟩) (by simp; omega)).trans (by simp [go_sem, World.cell?_alloc_past])
  have b0 : w5.cell? ⟨w3.heap.size + 1, 0, none⟩ = some (.bool s4) := (hb5.cell (p := ⟨w3.heap.size + 1, 0, none⟩) (by simp)).trans (by simp [go_sem])
  have b1 : w5.cell? ⟨w3.heap.size + 1, 1, none⟩ = some (.int .u64 x4) := (hb5.cell (p := ⟨w3.heap.size + 1, 1, none⟩) (by simp)).trans (by simp [go_sem])
  have b2 : w5.cell? ⟨w3.heap.size + 1, 2, none⟩ = some (.pointer p4) := (hb5.cell (p := ⟨w3.heap.size + 1, 2, none⟩) (by simp)).trans (by simp [go_sem])
  have g5 := (bl2 w3 (Obj.cells #[Value.bool s3, Value.int IntKind.u64 x3, Value.pointer p3] 28) (Obj.cells #[Value.bool s4, Value.int IntKind.u64 x4, Value.pointer p4] 28)).trans (hb5.mono (by simp; omega))
  have H3' := Lib.hid (H3.out.keep (g5.trans ((bl1 w5 (Obj.cells #[Value.bool s5, Value.int IntKind.u64 x5, Value.pointer p5, Value.int IntKind.u64 y5, Value.pointer q5] 33)).mono g5.size)) (Nat.le_refl _))
  have H4' := Lib.hid (H4.out.keep (g5.trans ((bl1 w5 (Obj.cells #[Value.bool s5, Value.int IntKind.u64 x5, Value.pointer p5, Value.int IntKind.u64 y5, Value.pointer q5] 33)).mono g5.size)) (Nat.le_refl _))
  have H5' := Lib.hid (H5.out.keep (bl1 w5 (Obj.cells #[Value.bool s5, Value.int IntKind.u64 x5, Value.pointer p5, Value.int IntKind.u64 y5, Value.pointer q5] 33)) (Nat.le_refl _))
  have k5 := k3.trans ((g5.trans ((bl1 w5 (Obj.cells #[Value.bool s5, Value.int IntKind.u64 x5, Value.pointer p5, Value.int IntKind.u64 y5, Value.pointer q5] 33)).mono g5.size)).mono k3.size)
  have zA : w3.heap.size < w5.heap.size := by omega
  clear hb5 g5 k3 H3 H4 H5
  go_wp2_with fail
  generalize hW : w5.alloc (Obj.cells #[Value.bool s5, Value.int IntKind.u64 x5, Value.pointer p5, Value.int IntKind.u64 y5, Value.pointer q5] 33) = W5 at *
  have b0 : W5.cell? ⟨w3.heap.size + 1, 0, none⟩ = some (.bool s4) := by rw [← hW]; rw [World.cell?_alloc_old _ _ _ (by simp; omega)]; exact b0
  have b1 : W5.cell? ⟨w3.heap.size + 1, 1, none⟩ = some (.int .u64 x4) := by rw [← hW]; rw [World.cell?_alloc_old _ _ _ (by simp; omega)]; exact b1
  have b2 : W5.cell? ⟨w3.heap.size + 1, 2, none⟩ = some (.pointer p4) := by rw [← hW]; rw [World.cell?_alloc_old _ _ _ (by simp; omega)]; exact b2
  have d0 : W5.cell? ⟨w5.heap.size, 0, none⟩ = some (.bool s5) := by rw [← hW]; simp [go_sem]
  have d1 : W5.cell? ⟨w5.heap.size, 1, none⟩ = some (.int .u64 x5) := by rw [← hW]; simp [go_sem]
  have d2 : W5.cell? ⟨w5.heap.size, 2, none⟩ = some (.pointer p5) := by rw [← hW]; simp [go_sem]
  have d3 : W5.cell? ⟨w5.heap.size, 3, none⟩ = some (.int .u64 y5) := by rw [← hW]; simp [go_sem]
  have d4 : W5.cell? ⟨w5.heap.size, 4, none⟩ = some (.pointer q5) := by rw [← hW]; simp [go_sem]
  have zz : w5.heap.size < W5.heap.size := by rw [← hW]; simp
  have zy : w3.heap.size + 1 < W5.heap.size := by omega
  clear hW
  refine (text4 _ _ H3'.out).mono ?_
  rintro e w6 ⟨hb6, rfl⟩
  replace b0 := (hb6.cell (p := ⟨w3.heap.size + 1, 0, none⟩) zy).trans b0
  replace b1 := (hb6.cell (p := ⟨w3.heap.size + 1, 1, none⟩) zy).trans b1
  replace b2 := (hb6.cell (p := ⟨w3.heap.size + 1, 2, none⟩) zy).trans b2
  have H4 := Lib.hid (H4'.out.keep hb6 (Nat.le_refl _))
  have H5 := Lib.hid (H5'.out.keep hb6 (Nat.le_refl _))
  clear a0 a1 a2 H3' H4' H5'
  go_wp2_with fail
  refine (text1 _ _ H4.out).mono ?_
  rintro e w7 ⟨hb7, rfl⟩
  have k7 := hb6.trans (hb7.mono hb6.size)
  replace d0 := (k7.cell (p := ⟨w5.heap.size, 0, none⟩) zz).trans d0
  replace d1 := (k7.cell (p := ⟨w5.heap.size, 1, none⟩) zz).trans d1
  replace d2 := (k7.cell (p := ⟨w5.heap.size, 2, none⟩) zz).trans d2
  replace d3 := (k7.cell (p := ⟨w5.heap.size, 3, none⟩) zz).trans d3
  replace d4 := (k7.cell (p := ⟨w5.heap.size, 4, none⟩) zz).trans d4
  have H5b := Lib.hid (H5.out.keep hb7 (Nat.le_refl _))
  replace k7 := k5.trans (k7.mono k5.size)
  clear b0 b1 b2 H4 H5 hb6 hb7 k5
  go_wp2_with fail
  refine (rtext32 _ _ H5b.out).mono ?_
  rintro e w8 ⟨hb8, rfl⟩
  replace k7 := k7.trans (hb8.mono k7.size)
  clear d0 d1 d2 d3 d4 H5b hb8
  go_wp2_with fail
  refine (int_any (-12) _ (by unfold I64; omega)).mono ?_
  rintro e w9 ⟨hb9, v9, rfl, h9⟩
  have H9 := Lib.hid h9
  clear h9
  go_wp2_with fail
  refine (int_any 18 _ (by unfold I64; omega)).mono ?_
  rintro e w10 ⟨hb10, v10, rfl, h10⟩
  have H10 := Lib.hid h10
  clear h10
  go_wp2_with fail
  refine (gcd1218 _ _ _ (H9.out.keep hb10 (Nat.le_refl _)) H10.out).mono ?_
  rintro e w11 ⟨hb11, v11, rfl, h11⟩
  have H11 := Lib.hid h11
  clear h11 H9 H10
  go_wp2_with fail
  refine (text6 _ _ H11.out).mono ?_
  rintro e w12 ⟨hb12, rfl⟩
  have j9 := k7.trans (hb9.mono k7.size)
  have j10 := j9.trans (hb10.mono j9.size)
  have j11 := j10.trans (hb11.mono j10.size)
  have j12 := j11.trans (hb12.mono j11.size)
  clear hb9 hb10 hb11 hb12 j9 j10 j11 H11 k7
  go_wp2_with fail
  refine (p12 _).mono ?_
  rintro e w13 ⟨hb13, v13, rfl, h13⟩
  obtain ⟨sa, xa, pa, ya, qa, rfl⟩ := h13.agg
  have H13 := Lib.hid h13
  clear h13
  go_wp2_with fail
  refine (p13 _).mono ?_
  rintro e w14 ⟨hb14, v14, rfl, h14⟩
  obtain ⟨sb, xb, pb, yb, qb, rfl⟩ := h14.agg
  have H14 := Lib.hid h14
  have H13b := Lib.hid (H13.out.keep hb14 (Nat.le_refl _))
  clear h14 H13
  go_wp2_with fail
  refine (p16 _).mono ?_
  rintro e w15 ⟨hb15, v15, rfl, h15⟩
  obtain ⟨sc, xc, pc, yc, qc, rfl⟩ := h15.agg
  have R0 : Hid (Rr w15 (.agg #[.bool sa, .int .u64 xa, .pointer pa, .int .u64 ya, .pointer qa]) 1 2) := H13b.out.keep hb15 (Nat.le_refl _)
  have R1 : Hid (Rr w15 (.agg #[.bool sb, .int .u64 xb, .pointer pb, .int .u64 yb, .pointer qb]) 1 3) := H14.out.keep hb15 (Nat.le_refl _)
  have R2 : Hid (Rr w15 (.agg #[.bool sc, .int .u64 xc, .pointer pc, .int .u64 yc, .pointer qc]) 1 6) := h15
  have j13 := j12.trans (hb13.mono j12.size)
  have j14 := j13.trans (hb14.mono j13.size)
  have j15 := j14.trans (hb15.mono j14.size)
  clear hb13 hb14 hb15 j12 j13 j14 h15 H13b H14
  go_wp2_with fail
  refine (sum_any _ 3 _ wl wa _ (slR3 R0.out R1.out R2.out) (by decide) rfl wa_ok).mono ?_
  rintro e w16 ⟨hb16, v16, rfl, h16⟩
  have H16 : Hid (Rr w16 v16 1 1) := h16
  have j16 := j15.trans (((bl1 _ _).trans (hb16.mono (by simp))).mono j15.size)
  clear hb16 h16 R0 R1 R2 j15
  go_wp2_with fail
  refine (rtext1 _ _ H16.out).mono ?_
  rintro e w17 ⟨hb17, rfl⟩
  replace j16 := j16.trans (hb17.mono j16.size)
  clear hb17 H16
  go_wp2
  go_ret
  exact ⟨j16, rfl⟩
end Go.Proofs.YtjjomjjgoceklaaGreat
namespace Go.Proofs.YtjjomjjgoceklaaGreat
set_option maxRecDepth 100000
open Go.RowKit

/-- box T holds the integer z, the reference's z -/
def Hz (T : Nat) (z : Int) (w : World) : Prop := ∃ (s : Bool) (x : Int) (p : Option Addr), w.heap[T]? = some (.cells #[.bool s, .int .u64 x, .pointer p] 28 (0, 0)) ∧ Zr w (.agg #[.bool s, .int .u64 x, .pointer p]) z
def Hr (T : Nat) (z : Int) (w : World) : Prop := ∃ (s : Int) (p : Option Addr) (l c : Nat), Bz T s p l c w ∧ RZ w (.agg #[.int .i64 s, .slice p l c]) z
theorem blk_lt {w : World} {T : Nat} {o : Obj} (h : w.heap[T]? = some o) : T < w.heap.size := (Array.getElem?_eq_some_iff.1 h).1
theorem blk_keep {w w' : World} {T : Nat} {o : Obj} (h : w.heap[T]? = some o) (hb : Below w.heap.size w w') : w'.heap[T]? = some o := (hb.block T (blk_lt h)).trans h
theorem blk_other {w w' : World} {T U : Nat} {o : Obj} (h : w.heap[T]? = some o) (hg : w.grownBy w' (some U)) (hne : T ≠ U) : w'.heap[T]? = some o := (hg.block T (blk_lt h) (by intro e; cases e; exact hne rfl)).trans h
theorem Hz.rz {T : Nat} {z : Int} {w : World} (h : Hz T z w) : Rz T w := by obtain ⟨s, x, p, h, _⟩ := h; exact ⟨s, x, p, h⟩
theorem Hz.keep {T : Nat} {z : Int} {w w' : World} (h : Hz T z w) (hb : Below w.heap.size w w') : Hz T z w' := by
  obtain ⟨s, x, p, h1, h2⟩ := h
  exact ⟨s, x, p, blk_keep h1 hb, h2.keep hb (Nat.le_refl _)⟩
theorem Hr.keep {T : Nat} {z : Int} {w w' : World} (h : Hr T z w) (hb : Below w.heap.size w w') : Hr T z w' := by
  obtain ⟨s, p, l, c, h1, h2⟩ := h
  exact ⟨s, p, l, c, blk_keep h1 hb, h2.keep hb (Nat.le_refl _)⟩
theorem Rz.noI {T : Nat} {w : World} (h : Rz T w) : NoI w T := by obtain ⟨s, x, p, h⟩ := h; exact ⟨_, _, _, h, by decide⟩
theorem Bz.odd {T : Nat} {s : Int} {p : Option Addr} {l c : Nat} {w : World} (h : Bz T s p l c w) : Odd T w := by
  have hc : ∀ o, w.cell? ⟨T, o, none⟩ = (#[Value.int .i64 s, .slice p l c] : Array Value)[o]? := fun o => by simp [World.cell?, show w.heap[T]? = _ from h]
  refine ⟨fun o x' y' h1 h2 => ?_, fun p l c h1 => ?_⟩
  · rw [hc] at h1 h2
    match o with
    | 0 => simp at h1
    | 1 => simp at h1
    | o + 2 => simp at h1
  · rw [hc] at h1; simp at h1
/-- a store into another box keeps it -/
theorem Hz.st {T U : Nat} {z : Int} {w w' : World} (h : Hz T z w) (hU : Odd U w) (hg : w.grownBy w' (some U)) (hne : T ≠ U) : Hz T z w' := by
  obtain ⟨s, x, p, h1, h2⟩ := h
  exact ⟨s, x, p, blk_other h1 hg hne, h2.store hU hg⟩
theorem Hr.st {T U : Nat} {z : Int} {w w' : World} (h : Hr T z w) (hU : NoI w U) (hg : w.grownBy w' (some U)) (hne : T ≠ U) : Hr T z w' := by
  obtain ⟨s, p, l, c, h1, h2⟩ := h
  exact ⟨s, p, l, c, blk_other h1 hg hne, h2.store hU hg⟩
theorem Rz.stored {T : Nat} {w : World} (h : Rz T w) (s : Bool) (x : Int) (p : Option Addr) : (st3 w T (.bool s) (.int .u64 x) (.pointer p)).heap[T]? = some (.cells #[.bool s, .int .u64 x, .pointer p] 28 (0, 0)) := by
  obtain ⟨s0, x0, p0, h⟩ := h
  unfold st3
  simp [World.setCell, Array.getElem?_modify, h]
/-- a new box, a box written -/
theorem Hz.stored {T : Nat} {z : Int} {w : World} {s : Bool} {x : Int} {p : Option Addr} (h : Rz T w) (hz : Zr w (.agg #[.bool s, .int .u64 x, .pointer p]) z) : Hz T z (st3 w T (.bool s) (.int .u64 x) (.pointer p)) :=
  ⟨s, x, p, h.stored s x p, hz.store h.odd (grown3 _ _ _ _ _ _ _ _)⟩
theorem Hr.stored {T : Nat} {z : Int} {w : World} {s0 : Int} {p0 : Option Addr} {l0 c0 : Nat} {s : Int} {p : Option Addr} {l c : Nat} (h : Bz T s0 p0 l0 c0 w) (hz : RZ w (.agg #[.int .i64 s, .slice p l c]) z) : Hr T z (st2 w T (.int .i64 s) (.slice p l c)) :=
  ⟨s, p, l, c, h.set _ _ _ _, hz.store h.noI (grown2 _ _ _ _ _ _)⟩
theorem Hz.new {w : World} {z : Int} {s : Bool} {x : Int} {p : Option Addr} (hz : Zr w (.agg #[.bool s, .int .u64 x, .pointer p]) z) : Hz w.heap.size z (w.alloc (.cells #[.bool s, .int .u64 x, .pointer p] 28)) :=
  ⟨s, x, p, Go.Deep.blk_alloc_new _ _, hz.al _⟩
theorem Hr.new {w : World} {z : Int} {s : Int} {p : Option Addr} {l c : Nat} (hz : RZ w (.agg #[.int .i64 s, .slice p l c]) z) : Hr w.heap.size z (w.alloc (.cells #[.int .i64 s, .slice p l c] 41)) :=
  ⟨s, p, l, c, Go.Deep.blk_alloc_new _ _, hz.keep (bl1 _ _) (Nat.le_refl _)⟩
theorem Hr.bz {T : Nat} {z : Int} {w : World} (h : Hr T z w) : ∃ s p l c, Bz T s p l c w := by obtain ⟨s, p, l, c, h, _⟩ := h; exact ⟨s, p, l, c, h⟩
/-- pointers to a box of zero or whatever from B on -/
def kbz (B : Nat) : Kd := .c (fun v w => ∃ T, v = .pointer (some ⟨T, 0, none⟩) ∧ B ≤ T ∧ Rz T w) fun _ _ _ ⟨T, h1, h2, h3⟩ hb => ⟨T, h1, h2, h3.keep hb h3.lt⟩
def kbr (B : Nat) : Kd := .c (fun v w => ∃ T s p l c, v = .pointer (some ⟨T, 0, none⟩) ∧ B ≤ T ∧ Bz T s p l c w) fun _ _ _ ⟨T, s, p, l, c, h1, h2, h3⟩ hb => ⟨T, s, p, l, c, h1, h2, blk_keep h3 hb⟩

section
variable {ρ : Operand → Value} {o : Oper} {w : World}
theorem rn_field23_0 {t : Operand} {b : Nat} (ho : o.op = .fieldAddr 50 t 0) (he : ρ t = .pointer (some ⟨b, 0, none⟩)) : (execOp ρ o).run Tryz.prog w = .ok (.value (.pointer (some ⟨b, 0, none⟩))) w := by
  unfold execOp; rw [ho]; simp [go_sem, he]
theorem rn_field23_1 {t : Operand} {b : Nat} (ho : o.op = .fieldAddr 50 t 1) (he : ρ t = .pointer (some ⟨b, 0, none⟩)) : (execOp ρ o).run Tryz.prog w = .ok (.value (.pointer (some ⟨b, 1, none⟩))) w := by
  unfold execOp; rw [ho]; simp [go_sem, he]
theorem rn_field23_2 {t : Operand} {b : Nat} (ho : o.op = .fieldAddr 50 t 2) (he : ρ t = .pointer (some ⟨b, 0, none⟩)) : (execOp ρ o).run Tryz.prog w = .ok (.value (.pointer (some ⟨b, 2, none⟩))) w := by
  unfold execOp; rw [ho]; simp [go_sem, he]
theorem rn_field23_3 {t : Operand} {b : Nat} (ho : o.op = .fieldAddr 50 t 3) (he : ρ t = .pointer (some ⟨b, 0, none⟩)) : (execOp ρ o).run Tryz.prog w = .ok (.value (.pointer (some ⟨b, 3, none⟩))) w := by
  unfold execOp; rw [ho]; simp [go_sem, he]
theorem rn_loadI {t : Operand} {b i : Nat} {n : Int} (ho : o.op = .load 2 t) (he : ρ t = .pointer (some ⟨b, i, none⟩)) (h : w.cell? ⟨b, i, none⟩ = some (.int .i64 n)) : (execOp ρ o).run Tryz.prog w = .ok (.value (.int .i64 n)) w := by
  unfold execOp; rw [ho]; simp [go_sem, he, h]
theorem rn_alloc29 (ho : o.op = .alloc 28) : (execOp ρ o).run Tryz.prog w = .ok (.value (.pointer (some ⟨w.heap.size, 0, none⟩))) (w.alloc (.cells #[.bool false, .int .u64 0, .pointer none] 28)) := by
  unfold execOp; rw [ho]; simp [go_sem]
theorem rn_alloc32 (ho : o.op = .alloc 41) : (execOp ρ o).run Tryz.prog w = .ok (.value (.pointer (some ⟨w.heap.size, 0, none⟩))) (w.alloc (.cells #[.int .i64 0, .slice none 0 0] 41)) := by
  unfold execOp; rw [ho]; simp [go_sem]
theorem rn_store29 {t x : Operand} {T : Nat} {s : Bool} {y : Int} {p : Option Addr} (ho : o.op = .store 28 t x) (he : ρ t = .pointer (some ⟨T, 0, none⟩)) (hx : ρ x = .agg #[.bool s, .int .u64 y, .pointer p]) (h : Rz T w) : (execOp ρ o).run Tryz.prog w = .ok .skip (st3 w T (.bool s) (.int .u64 y) (.pointer p)) := by
  obtain ⟨_, _, _, h1, h2, h3, h4, h5, h6⟩ := h.cells
  unfold execOp; rw [ho]; simp [go_sem, he, hx, h1, h2, h3, h4, h5, h6]
theorem rn_store32 {t x : Operand} {T : Nat} {s0 : Int} {p0 : Option Addr} {l0 c0 : Nat} {s : Int} {p : Option Addr} {l c : Nat} (ho : o.op = .store 41 t x) (he : ρ t = .pointer (some ⟨T, 0, none⟩)) (hx : ρ x = .agg #[.int .i64 s, .slice p l c]) (h : Bz T s0 p0 l0 c0 w) : (execOp ρ o).run Tryz.prog w = .ok .skip (st2 w T (.int .i64 s) (.slice p l c)) := by
  obtain ⟨h1, h2, h3, h4⟩ := h.cells
  unfold execOp; rw [ho]; simp [go_sem, he, hx, h1, h2, h3, h4]
theorem rn_load32 {t : Operand} {T : Nat} {s : Int} {p : Option Addr} {l c : Nat} (ho : o.op = .load 41 t) (he : ρ t = .pointer (some ⟨T, 0, none⟩)) (h : Bz T s p l c w) : (execOp ρ o).run Tryz.prog w = .ok (.value (.agg #[.int .i64 s, .slice p l c])) w := by
  obtain ⟨h1, h2, h3, h4⟩ := h.cells
  unfold execOp; rw [ho]; simp [go_sem, he, h1, h2]
end
section
variable {o : Oper} {a0 : Act} {D : Nat → Bool} {f : Nat → Value} {w : World} {R : Value → World → Prop}
theorem OpR.call2 {n : FuncId} {tx ty : Nat} {ts : Array TypeId} (ho : o.op = .call { callee := .value (.func n), args := #[.tmp tx, .tmp ty], argTypes := ts }) (hcf : CF n) (hx : D tx = true) (hx' : (a0.tmps[tx]?).isSome = true) (hy : D ty = true) (hy' : (a0.tmps[ty]?).isSome = true)
    (h : Calls Tryz.prog n #[f tx, f ty] w fun e w' => ∃ v, e = .returned v ∧ R v w') : OpR Tryz.prog o (fr a0 D f) w R := by
  refine .inr (.inr ⟨n, _, rn_call2 ho rfl hcf, ?_⟩)
  rw [fr_own hx hx', fr_own hy hy']
  exact h
theorem OpR.call1 {n : FuncId} {tx : Nat} {ts : Array TypeId} (ho : o.op = .call { callee := .value (.func n), args := #[.tmp tx], argTypes := ts }) (hcf : CF n) (hx : D tx = true) (hx' : (a0.tmps[tx]?).isSome = true)
    (h : Calls Tryz.prog n #[f tx] w fun e w' => ∃ v, e = .returned v ∧ R v w') : OpR Tryz.prog o (fr a0 D f) w R := by
  refine .inr (.inr ⟨n, _, rn_call1 ho rfl hcf, ?_⟩)
  rw [fr_own hx hx']
  exact h
theorem OpR.call0 {n : FuncId} {ts : Array TypeId} (ho : o.op = .call { callee := .value (.func n), args := #[], argTypes := ts }) (hcf : CF n)
    (h : Calls Tryz.prog n #[] w fun e w' => ∃ v, e = .returned v ∧ R v w') : OpR Tryz.prog o (fr a0 D f) w R :=
  .inr (.inr ⟨n, _, rn_call0 ho rfl hcf, h⟩)
/-- a contract as an operation's end -/
theorem PZ.kd {z : Int} {w : World} {n : FuncId} {args : Array Value} (h : Calls Tryz.prog n args w (PZ z w)) : Calls Tryz.prog n args w fun e w' => ∃ v, e = .returned v ∧ (Below w.heap.size w w' ∧ kd (.z z) v w') := h.mono fun _ _ ⟨hb, v, he, hv⟩ => ⟨v, he, hb, hv⟩
theorem PRZ.kd {z : Int} {w : World} {n : FuncId} {args : Array Value} (h : Calls Tryz.prog n args w (PRZ z w)) : Calls Tryz.prog n args w fun e w' => ∃ v, e = .returned v ∧ (Below w.heap.size w w' ∧ Go.Proofs.YtjjomjjgoceklaaGreat.kd (.r z) v w') := h.mono fun _ _ ⟨hb, v, he, hv⟩ => ⟨v, he, hb, hv⟩
end
/-- k words -/
def Wk (k : Nat) (z : Int) : Prop := z.natAbs < WB ^ k
theorem Wk.sz {k : Nat} {z : Int} (h : Wk k z) (hk : k ≤ 1000) : Sz z.natAbs := ⟨k, hk, h⟩
theorem Wk.mono {j k : Nat} {z : Int} (h : Wk j z) (hk : j ≤ k) : Wk k z := Nat.lt_of_lt_of_le h (Nat.pow_le_pow_right WB_pos hk)
theorem Wk.add {k : Nat} {a b : Int} (ha : Wk k a) (hb : Wk k b) : Wk (k + 1) (a + b) := by
  unfold Wk at *
  have h1 : (a + b).natAbs ≤ a.natAbs + b.natAbs := Int.natAbs_add_le _ _
  have h2 : WB ^ (k + 1) = WB ^ k * WB := Nat.pow_succ _ _
  have h3 : WB ^ k * 2 ≤ WB ^ k * WB := Nat.mul_le_mul_left _ (by unfold WB; omega)
  omega
theorem Wk.sub {k : Nat} {a b : Int} (ha : Wk k a) (hb : Wk k b) : Wk (k + 1) (a - b) := by
  rw [Int.sub_eq_add_neg]; exact ha.add (by unfold Wk at *; rw [Int.natAbs_neg]; exact hb)
theorem Wk.mul {j k : Nat} {a b : Int} (ha : Wk j a) (hb : Wk k b) : Wk (j + k) (a * b) := by
  unfold Wk at *
  rw [Int.natAbs_mul, Nat.pow_add]
  exact Nat.mul_lt_mul'' ha hb
theorem Wk.i64 {n : Int} (h : I64 n) : Wk 1 n := by unfold Wk WB; unfold I64 at h; omega
/-- j groups of four digits -/
theorem Wk.sr {k : Nat} {z : Int} (h : Wk k z) (hk : k ≤ 150) : Sr z := by
  refine ⟨5 * k, by omega, Nat.lt_of_lt_of_le h ?_⟩
  rw [Nat.pow_mul]
  exact Nat.pow_le_pow_left (by unfold WB; decide) k
end Go.Proofs.YtjjomjjgoceklaaGreat
