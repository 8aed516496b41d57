import Derived.Test.YtjjomjjgoceklaaGreatKah
import Derived.Deep.DeepCutAuto
namespace Go.Proofs.YtjjomjjgoceklaaGreat
set_option maxRecDepth 100000
open Go.RowKit

@[reducible] def st3 (w : World) (T : Nat) (a b c : Value) : World := ((w.setCell ⟨T, 0, none⟩ a).setCell ⟨T, 1, none⟩ b).setCell ⟨T, 2, none⟩ c
theorem below3 {B T : Nat} {a w : World} (h : Below B a w) (hT : B ≤ T) (u v x : Value) : Below B a (st3 w T u v x) :=
  ((h.setCell (by simp <;> omega) _).setCell (by simp <;> omega) _).setCell (by simp <;> omega) _
theorem cell_st3 (w : World) {T b : Nat} (hne : b ≠ T) (o : Nat) (u v x : Value) : (st3 w T u v x).cell? ⟨b, o, none⟩ = w.cell? ⟨b, o, none⟩ := by
  have h : ∀ i, (⟨T, i, none⟩ : Addr) ≠ ⟨b, o, none⟩ := fun i e => hne (by injection e with e1; exact e1.symm)
  rw [World.cell?_setCell_other _ _ _ _ (h _), World.cell?_setCell_other _ _ _ _ (h _), World.cell?_setCell_other _ _ _ _ (h _)]
theorem Rz.other {w w' : World} {T U : Nat} (h : Rz U w) (hg : w.grownBy w' (some T)) (hne : U ≠ T) : Rz U w' := by
  obtain ⟨s, x, p, h⟩ := h
  exact ⟨s, x, p, (hg.block U (Array.getElem?_eq_some_iff.1 h).1 (by intro e; cases e; exact hne rfl)).trans h⟩
/-- what the last region of 'divide' loads -/
@[reducible] def C6 (B G : Nat) (sa sb : Bool) (xq : Int) (pq : Option Addr) (xr : Int) (pr : Option Addr) (w' : World) : Prop :=
  w'.cell? ⟨G, 0, none⟩ = some (.int .u64 xq) ∧ w'.cell? ⟨G, 1, none⟩ = some (.pointer pq) ∧ w'.cell? ⟨B, 0, none⟩ = some (.bool sa) ∧ w'.cell? ⟨B + 1, 0, none⟩ = some (.bool sb) ∧ w'.cell? ⟨G + 1, 0, none⟩ = some (.int .u64 xr) ∧ w'.cell? ⟨G + 1, 1, none⟩ = some (.pointer pr)
theorem C6.keep {B G C : Nat} {sa sb : Bool} {xq : Int} {pq : Option Addr} {xr : Int} {pr : Option Addr} {w w' : World} (h : C6 B G sa sb xq pq xr pr w) (hb : Below C w w') (hB : B + 1 < C) (hG : G + 1 < C) : C6 B G sa sb xq pq xr pr w' :=
  ⟨(hb.cell (p := ⟨G, 0, none⟩) (show G < C by omega)).trans h.1, (hb.cell (p := ⟨G, 1, none⟩) (show G < C by omega)).trans h.2.1, (hb.cell (p := ⟨B, 0, none⟩) (show B < C by omega)).trans h.2.2.1, (hb.cell (p := ⟨B + 1, 0, none⟩) (show B + 1 < C from hB)).trans h.2.2.2.1, (hb.cell (p := ⟨G + 1, 0, none⟩) (show G + 1 < C from hG)).trans h.2.2.2.2.1, (hb.cell (p := ⟨G + 1, 1, none⟩) (show G + 1 < C from hG)).trans h.2.2.2.2.2⟩
theorem C6.st {B G T : Nat} {sa sb : Bool} {xq : Int} {pq : Option Addr} {xr : Int} {pr : Option Addr} {w : World} (h : C6 B G sa sb xq pq xr pr w) (h1 : B ≠ T) (h2 : B + 1 ≠ T) (h3 : G ≠ T) (h4 : G + 1 ≠ T) (u v x : Value) : C6 B G sa sb xq pq xr pr (st3 w T u v x) :=
  ⟨(cell_st3 w h3 _ _ _ _).trans h.1, (cell_st3 w h3 _ _ _ _).trans h.2.1, (cell_st3 w h1 _ _ _ _).trans h.2.2.1, (cell_st3 w h2 _ _ _ _).trans h.2.2.2.1, (cell_st3 w h4 _ _ _ _).trans h.2.2.2.2.1, (cell_st3 w h4 _ _ _ _).trans h.2.2.2.2.2⟩

/-- the quotient and the rest of integers, the rest not below 0 -/
def PZ2 (x y : Int) (w : World) (e : Ending) (w' : World) : Prop := Below w.heap.size w w' ∧ ∃ u v, e = .returned (.tuple #[u, v]) ∧ Zr w' u x ∧ Zr w' v y
theorem divmod_pos (a d : Int) (ha : 0 ≤ a) (sa sb : Bool) (hsa : sa = false) (hd : d ≠ 0) (h1 : sb = true → d < 0) (h2 : sb = false → 0 ≤ d) :
    (if (sa != sb) then -((a.natAbs / d.natAbs : Nat) : Int) else ((a.natAbs / d.natAbs : Nat) : Int)) = a / d ∧ ((a.natAbs % d.natAbs : Nat) : Int) = a % d := by
  obtain ⟨m, rfl⟩ := Int.eq_ofNat_of_zero_le ha
  subst hsa
  cases sb with
  | false =>
    obtain ⟨n, rfl⟩ := Int.eq_ofNat_of_zero_le (h2 rfl)
    simp
  | true =>
    obtain ⟨n, rfl⟩ : ∃ n : Nat, d = -(n : Int) := ⟨d.natAbs, by have := h1 rfl; omega⟩
    simp
theorem euc (m n _q r : Nat) (hn : 0 < n) (z : Int) (hz : z * n + r = -(m : Int)) (hr : r < n) : -(m : Int) / (n : Int) = z ∧ -(m : Int) % (n : Int) = r := by
  have h := (Int.ediv_emod_unique (a := -(m : Int)) (b := n) (r := r) (q := z) (by omega)).2 ⟨by rw [Int.mul_comm]; omega, by omega, by omega⟩
  exact h
theorem divmod_neg0 (a d : Int) (ha : a < 0) (sb : Bool) (hd : d ≠ 0) (h1 : sb = true → d < 0) (h2 : sb = false → 0 ≤ d) (hr : a.natAbs % d.natAbs = 0) :
    (if (true != sb) then -((a.natAbs / d.natAbs : Nat) : Int) else ((a.natAbs / d.natAbs : Nat) : Int)) = a / d ∧ ((a.natAbs % d.natAbs : Nat) : Int) = a % d := by
  obtain ⟨m, rfl⟩ : ∃ m : Nat, a = -(m : Int) := ⟨a.natAbs, by omega⟩
  rw [Int.natAbs_neg, Int.natAbs_natCast] at hr ⊢
  rw [hr]
  cases sb with
  | false =>
    obtain ⟨n, rfl⟩ := Int.eq_ofNat_of_zero_le (h2 rfl)
    rw [Int.natAbs_natCast] at hr ⊢
    have hn : 0 < n := by omega
    have hm := Nat.div_add_mod m n
    rw [hr] at hm
    obtain ⟨e1, e2⟩ := euc m n (m / n) 0 hn (-((m / n : Nat) : Int)) (by rw [Int.neg_mul, ← Int.natCast_mul, Nat.mul_comm]; omega) hn
    rw [e1, e2]; simp
  | true =>
    obtain ⟨n, rfl⟩ : ∃ n : Nat, d = -(n : Int) := ⟨d.natAbs, by have := h1 rfl; omega⟩
    rw [Int.natAbs_neg, Int.natAbs_natCast] at hr ⊢
    have hn : 0 < n := by omega
    have hm := Nat.div_add_mod m n
    rw [hr] at hm
    obtain ⟨e1, e2⟩ := euc m n (m / n) 0 hn (-((m / n : Nat) : Int)) (by rw [Int.neg_mul, ← Int.natCast_mul, Nat.mul_comm]; omega) hn
    rw [Int.ediv_neg, Int.emod_neg, e1, e2]; simp
theorem divmod_neg (a d : Int) (ha : a < 0) (sb : Bool) (hd : d ≠ 0) (h1 : sb = true → d < 0) (h2 : sb = false → 0 ≤ d) (hr : a.natAbs % d.natAbs ≠ 0) :
    (if (true != sb) then -((a.natAbs / d.natAbs + 1 : Nat) : Int) else ((a.natAbs / d.natAbs + 1 : Nat) : Int)) = a / d ∧ ((d.natAbs - a.natAbs % d.natAbs : Nat) : Int) = a % d := by
  obtain ⟨m, rfl⟩ : ∃ m : Nat, a = -(m : Int) := ⟨a.natAbs, by omega⟩
  rw [Int.natAbs_neg, Int.natAbs_natCast] at hr ⊢
  have key : ∀ n : Nat, 0 < n → m % n ≠ 0 → -(m : Int) / (n : Int) = -((m / n + 1 : Nat) : Int) ∧ -(m : Int) % (n : Int) = ((n - m % n : Nat) : Int) := by
    intro n hn hz
    have hm := Nat.div_add_mod m n
    have hlt := Nat.mod_lt m hn
    refine euc m n (m / n + 1) (n - m % n) hn _ ?_ (by omega)
    rw [Int.neg_mul, ← Int.natCast_mul, Nat.add_mul, Nat.one_mul, Nat.mul_comm]
    omega
  cases sb with
  | false =>
    obtain ⟨n, rfl⟩ := Int.eq_ofNat_of_zero_le (h2 rfl)
    rw [Int.natAbs_natCast] at hr ⊢
    obtain ⟨e1, e2⟩ := key n (by omega) hr
    rw [e1, e2]; simp
  | true =>
    obtain ⟨n, rfl⟩ : ∃ n : Nat, d = -(n : Int) := ⟨d.natAbs, by have := h1 rfl; omega⟩
    rw [Int.natAbs_neg, Int.natAbs_natCast] at hr ⊢
    obtain ⟨e1, e2⟩ := key n (by omega) hr
    rw [Int.ediv_neg, Int.emod_neg, e1, e2]; simp
set_option maxHeartbeats 1600000 in
set_option maxRecDepth 100000 in
theorem divide_pos (sb : Bool) (xa xb : Int) (pa pb : Option Addr) (y z : Int) (w : World) (hda : Dg w (.agg #[.int .u64 xa, .pointer pa]) y.natAbs) (hdb : Dg w (.agg #[.int .u64 xb, .pointer pb]) z.natAbs) (hov : OverC y.natAbs z.natAbs) (hfin : (if (false != sb) then -((y.natAbs / z.natAbs : Nat) : Int) else ((y.natAbs / z.natAbs : Nat) : Int)) = y / z ∧ ((y.natAbs % z.natAbs : Nat) : Int) = y % z) : Calls Tryz.prog 106 #[.agg #[.bool false, .int .u64 xa, .pointer pa], .agg #[.bool sb, .int .u64 xb, .pointer pb]] w (PZ2 (y / z) (y % z) w) := by
  have HA := Lib.hid hda; have HB := Lib.hid hdb; have HO := Lib.hid hov; have HF := Lib.hid hfin
  clear hda hdb hov hfin
  go_enter Tryz.func106, Tryz.ntmps106
  go_wp2_with fail
  refine (HO.out _ _ _ (HA.out.keep (B := w.heap.size) (Below.thru (bl3 _ _ _ _) (by simp <;> omega) (bl1 _ _)) (Nat.le_refl _)) (HB.out.keep (B := w.heap.size) (Below.thru (bl3 _ _ _ _) (by simp <;> omega) (bl1 _ _)) (Nat.le_refl _))).mono ?_
  rintro e w1 ⟨hc1, vq, vr, rfl, hq, hr⟩
  obtain ⟨xq, pq, rfl⟩ := hq.agg
  obtain ⟨xr, pr, rfl⟩ := hr.agg
  have z1 : w.heap.size + 4 ≤ w1.heap.size := Nat.le_trans (by simp) hc1.size
  have k1 : Below w.heap.size w w1 := Below.thru (Below.thru (bl3 _ _ _ _) (by simp <;> omega) (bl1 _ _)) (by simp <;> omega) hc1
  have a1 : B3 w.heap.size false xa pa w1 := B3.keep (by refine ⟨?_, ?_, ?_⟩ <;> simp [go_sem, World.cell?_alloc_past]) hc1 (by simp <;> omega)
  have b1 : B3 (w.heap.size + 1) sb xb pb w1 := B3.keep (by refine ⟨?_, ?_, ?_⟩ <;> simp [go_sem, World.cell?_alloc_past]) hc1 (by simp <;> omega)
  have t1 : Rz (w.heap.size + 1 + 1) w1 := Rz.keep ((rz_new _ (by simp)).alloc _) hc1 (by simp <;> omega)
  have u1 : Rz (w.heap.size + 1 + 1 + 1) w1 := Rz.keep (rz_new _ (by simp)) hc1 (by simp <;> omega)
  have A2 := B3.keep a1 (bl2 w1 (.cells #[.int .u64 xq, .pointer pq] 26) (.cells #[.int .u64 xr, .pointer pr] 26)) (by omega)
  have B2 := B3.keep b1 (bl2 w1 (.cells #[.int .u64 xq, .pointer pq] 26) (.cells #[.int .u64 xr, .pointer pr] 26)) (by omega)
  have A21 := A2.1; have B21 := B2.1; have B22 := B2.2.1; have B23 := B2.2.2
  have HQ := Lib.hid hq; have HR := Lib.hid hr
  clear hq hr
  go_wp2
  generalize hW : World.alloc _ (Obj.cells #[Value.int IntKind.u64 xr, Value.pointer pr] 26) = W
  have hbW : Below w1.heap.size w1 W := by rw [← hW]; exact bl2 _ _ _
  have q0 : C6 w.heap.size w1.heap.size false sb xq pq xr pr W := by
    rw [← hW]; refine ⟨?_, ?_, A21, B21, ?_, ?_⟩ <;> simp [go_sem, World.cell?_alloc_past]
  have z0 : w1.heap.size + 2 ≤ W.heap.size := by rw [← hW]; simp
  clear hW A2 B2 A21 B21 B22 B23
  have q0 : C6 w.heap.size w1.heap.size false sb xq pq xr pr W.drew := q0
  have hbW : Below w1.heap.size w1 W.drew := hbW.drew
  have z0 : w1.heap.size + 2 ≤ W.drew.heap.size := z0
  have t0 := t1.keep hbW (by omega)
  have u0 := u1.keep hbW (by omega)
  have k0 := Below.thru k1 k1.size hbW
  have hq := HQ.out.keep hbW (Nat.le_refl _)
  have hr := HR.out.keep hbW (Nat.le_refl _)
  go_region_held3 (fun w' => w'.cell? ⟨w1.heap.size, 0, none⟩ = some (.int .u64 xq) ∧ w'.cell? ⟨w1.heap.size, 1, none⟩ = some (.pointer pq) ∧ w'.cell? ⟨w.heap.size, 0, none⟩ = some (.bool false) ∧ w'.cell? ⟨w.heap.size + 1, 0, none⟩ = some (.bool sb) ∧ w'.cell? ⟨w1.heap.size + 1, 0, none⟩ = some (.int .u64 xr) ∧ w'.cell? ⟨w1.heap.size + 1, 1, none⟩ = some (.pointer pr))
    (first | (with_reducible exact q5) | (with_reducible exact q4) | (with_reducible exact q3) | (with_reducible exact q2) | (with_reducible exact q0))
    (first
      | (go_at_call 87; (with_reducible refine (signed_any (.agg #[.int .u64 xq, .pointer pq]) _ _ W.drew hq).mono ?_); rintro e w2 ⟨hb2, v2, rfl, hs2⟩
         have q2 := C6.keep q0 hb2 (by omega) (by omega); have t2 := Rz.keep t0 hb2 (by omega); have u2 := Rz.keep u0 hb2 (by omega); have k2 := Below.thru k0 k0.size hb2; have z2 : w1.heap.size + 2 ≤ w2.heap.size := Nat.le_trans z0 hb2.size; have hr2 := hr.keep hb2 (Nat.le_refl _))
      | (go_at_call 87; (with_reducible refine (signed_any (.agg #[.int .u64 xr, .pointer pr]) _ false w2 hr2).mono ?_); rintro e w3 ⟨hb3, v3, rfl, hs3⟩
         have q3 := C6.keep q2 hb3 (by omega) (by omega); have t3 := Rz.keep t2 hb3 (by omega); have u3 := Rz.keep u2 hb3 (by omega); have k3 := Below.thru k2 k2.size hb3; have z3 : w1.heap.size + 2 ≤ w3.heap.size := Nat.le_trans z2 hb3.size
         have hs2' := hs2.keep hb3 (Nat.le_refl _); obtain ⟨s4, x4, p4, n4, rfl, h4⟩ := hs2'; obtain ⟨s5, x5, p5, n5, rfl, h5⟩ := hs3
         obtain ⟨sq, xq', pq', m1, m2, m3, m4, m5, m6⟩ := t3.cells
         have gr1 : w3.grownBy (st3 w3 (w.heap.size + 1 + 1) (.bool s4) (.int .u64 x4) (.pointer p4)) (some (w.heap.size + 1 + 1)) := grown3 _ _ _ _ _ _ _ _
         have u4 := u3.other gr1 (by omega)
         obtain ⟨so, xo, po, o1, o2, o3, o4, o5, o6⟩ := u4.cells
         have q4 := C6.st q3 (T := w.heap.size + 1 + 1) (by omega) (by omega) (by omega) (by omega) (.bool s4) (.int .u64 x4) (.pointer p4)
         have q5 := C6.st q4 (T := w.heap.size + 1 + 1 + 1) (by omega) (by omega) (by omega) (by omega) (.bool s5) (.int .u64 x5) (.pointer p5)))
  obtain ⟨g1, g2, g3⟩ := three_cells m1 m2 m3 (.bool s4) (.int .u64 x4) (.pointer p4)
  obtain ⟨i1, i2, i3⟩ := three_cells o1 o2 o3 (.bool s5) (.int .u64 x5) (.pointer p5)
  have e1 := (cell_st3 (st3 w3 (w.heap.size + 1 + 1) (.bool s4) (.int .u64 x4) (.pointer p4)) (T := w.heap.size + 1 + 1 + 1) (b := w.heap.size + 1 + 1) (by omega) 0 (.bool s5) (.int .u64 x5) (.pointer p5)).trans g1
  have e2 := (cell_st3 (st3 w3 (w.heap.size + 1 + 1) (.bool s4) (.int .u64 x4) (.pointer p4)) (T := w.heap.size + 1 + 1 + 1) (b := w.heap.size + 1 + 1) (by omega) 1 (.bool s5) (.int .u64 x5) (.pointer p5)).trans g2
  have e3 := (cell_st3 (st3 w3 (w.heap.size + 1 + 1) (.bool s4) (.int .u64 x4) (.pointer p4)) (T := w.heap.size + 1 + 1 + 1) (b := w.heap.size + 1 + 1) (by omega) 2 (.bool s5) (.int .u64 x5) (.pointer p5)).trans g3
  have Z4 : Zr w3 (.agg #[.bool s4, .int .u64 x4, .pointer p4]) _ := ⟨s4, x4, p4, n4, rfl, h4⟩
  have Z5 : Zr w3 (.agg #[.bool s5, .int .u64 x5, .pointer p5]) _ := ⟨s5, x5, p5, n5, rfl, h5⟩
  have gr2 : (st3 w3 (w.heap.size + 1 + 1) (.bool s4) (.int .u64 x4) (.pointer p4)).grownBy (st3 (st3 w3 (w.heap.size + 1 + 1) (.bool s4) (.int .u64 x4) (.pointer p4)) (w.heap.size + 1 + 1 + 1) (.bool s5) (.int .u64 x5) (.pointer p5)) (some (w.heap.size + 1 + 1 + 1)) := grown3 _ _ _ _ _ _ _ _
  have Y4 := (Z4.store t3.odd gr1).store u4.odd gr2
  have Y5 := (Z5.store t3.odd gr1).store u4.odd gr2
  have kk := below3 (below3 k3 (by omega) (T := w.heap.size + 1 + 1) (.bool s4) (.int .u64 x4) (.pointer p4)) (T := w.heap.size + 1 + 1 + 1) (by omega) (.bool s5) (.int .u64 x5) (.pointer p5)
  clear q0 q2 q3 q4 q5
  go_wp2
  exact bodyPost_ret (v := .tuple #[.agg #[.bool s4, .int .u64 x4, .pointer p4], .agg #[.bool s5, .int .u64 x5, .pointer p5]]) (by simp [results, Tryz.results106, go_sem, e1, e2, e3, i1, i2, i3]) rfl ⟨kk, _, _, rfl, Zr.cast Y4 (by cases sb <;> exact HF.out.1), Zr.cast Y5 (by exact HF.out.2)⟩

set_option maxHeartbeats 1600000 in
set_option maxRecDepth 100000 in
theorem divide_neg0 (sb : Bool) (xa xb : Int) (pa pb : Option Addr) (y z : Int) (w : World) (hda : Dg w (.agg #[.int .u64 xa, .pointer pa]) y.natAbs) (hdb : Dg w (.agg #[.int .u64 xb, .pointer pb]) z.natAbs) (hov : OverC y.natAbs z.natAbs) (hz : y.natAbs % z.natAbs = 0) (hfin : (if (true != sb) then -((y.natAbs / z.natAbs : Nat) : Int) else ((y.natAbs / z.natAbs : Nat) : Int)) = y / z ∧ ((y.natAbs % z.natAbs : Nat) : Int) = y % z) : Calls Tryz.prog 106 #[.agg #[.bool true, .int .u64 xa, .pointer pa], .agg #[.bool sb, .int .u64 xb, .pointer pb]] w (PZ2 (y / z) (y % z) w) := by
  have HA := Lib.hid hda; have HB := Lib.hid hdb; have HO := Lib.hid hov; have HF := Lib.hid hfin; have HZ := Lib.hid hz
  clear hda hdb hov hfin hz
  go_enter Tryz.func106, Tryz.ntmps106
  go_wp2_with fail
  refine (HO.out _ _ _ (HA.out.keep (B := w.heap.size) (Below.thru (bl3 _ _ _ _) (by simp <;> omega) (bl1 _ _)) (Nat.le_refl _)) (HB.out.keep (B := w.heap.size) (Below.thru (bl3 _ _ _ _) (by simp <;> omega) (bl1 _ _)) (Nat.le_refl _))).mono ?_
  rintro e w1 ⟨hc1, vq, vr, rfl, hq, hr⟩
  obtain ⟨xq, pq, rfl⟩ := hq.agg
  obtain ⟨xr, pr, rfl⟩ := hr.agg
  have z1 : w.heap.size + 4 ≤ w1.heap.size := Nat.le_trans (by simp) hc1.size
  have k1 : Below w.heap.size w w1 := Below.thru (Below.thru (bl3 _ _ _ _) (by simp <;> omega) (bl1 _ _)) (by simp <;> omega) hc1
  have a1 : B3 w.heap.size true xa pa w1 := B3.keep (by refine ⟨?_, ?_, ?_⟩ <;> simp [go_sem, World.cell?_alloc_past]) hc1 (by simp <;> omega)
  have b1 : B3 (w.heap.size + 1) sb xb pb w1 := B3.keep (by refine ⟨?_, ?_, ?_⟩ <;> simp [go_sem, World.cell?_alloc_past]) hc1 (by simp <;> omega)
  have t1 : Rz (w.heap.size + 1 + 1) w1 := Rz.keep ((rz_new _ (by simp)).alloc _) hc1 (by simp <;> omega)
  have u1 : Rz (w.heap.size + 1 + 1 + 1) w1 := Rz.keep (rz_new _ (by simp)) hc1 (by simp <;> omega)
  have A2 := B3.keep a1 (bl2 w1 (.cells #[.int .u64 xq, .pointer pq] 26) (.cells #[.int .u64 xr, .pointer pr] 26)) (by omega)
  have B2 := B3.keep b1 (bl2 w1 (.cells #[.int .u64 xq, .pointer pq] 26) (.cells #[.int .u64 xr, .pointer pr] 26)) (by omega)
  have A21 := A2.1; have B21 := B2.1; have B22 := B2.2.1; have B23 := B2.2.2
  have HQ := Lib.hid hq; have HR := Lib.hid hr
  clear hq hr
  go_wp2_with (go_at_call 89; refine (isZero_yes _ (HR.out.keep (bl2 _ _ _) (Nat.le_refl _)) HZ.out).mono ?_; rintro e w1' ⟨rfl, c9, t9, rfl⟩)
  generalize hW : World.alloc _ (Obj.cells c9 t9) = W
  have hbW : Below w1.heap.size w1 W := by rw [← hW]; exact Below.thru (bl2 _ _ _) (by simp <;> omega) (bl2 _ _ _)
  have q0 : C6 w.heap.size w1.heap.size true sb xq pq xr pr W := by
    rw [← hW]; refine ⟨?_, ?_, ?_, ?_, ?_, ?_⟩ <;> first | (simp [go_sem, World.cell?_alloc_past]; done) | (rw [World.cell?_alloc_past _ _ _ (by simp; omega), World.cell?_alloc_past _ _ _ (by simp; omega)]; first | exact A21 | exact B21)
  have z0 : w1.heap.size + 2 ≤ W.heap.size := by rw [← hW]; simp
  clear hW A2 B2 A21 B21 B22 B23
  have q0 : C6 w.heap.size w1.heap.size true sb xq pq xr pr W.drew := q0
  have hbW : Below w1.heap.size w1 W.drew := hbW.drew
  have z0 : w1.heap.size + 2 ≤ W.drew.heap.size := z0
  have t0 := t1.keep hbW (by omega)
  have u0 := u1.keep hbW (by omega)
  have k0 := Below.thru k1 k1.size hbW
  have hq := HQ.out.keep hbW (Nat.le_refl _)
  have hr := HR.out.keep hbW (Nat.le_refl _)
  go_region_held3 (fun w' => w'.cell? ⟨w1.heap.size, 0, none⟩ = some (.int .u64 xq) ∧ w'.cell? ⟨w1.heap.size, 1, none⟩ = some (.pointer pq) ∧ w'.cell? ⟨w.heap.size, 0, none⟩ = some (.bool true) ∧ w'.cell? ⟨w.heap.size + 1, 0, none⟩ = some (.bool sb) ∧ w'.cell? ⟨w1.heap.size + 1, 0, none⟩ = some (.int .u64 xr) ∧ w'.cell? ⟨w1.heap.size + 1, 1, none⟩ = some (.pointer pr))
    (first | (with_reducible exact q5) | (with_reducible exact q4) | (with_reducible exact q3) | (with_reducible exact q2) | (with_reducible exact q0))
    (first
      | (go_at_call 87; (with_reducible refine (signed_any (.agg #[.int .u64 xq, .pointer pq]) _ _ W.drew hq).mono ?_); rintro e w2 ⟨hb2, v2, rfl, hs2⟩
         have q2 := C6.keep q0 hb2 (by omega) (by omega); have t2 := Rz.keep t0 hb2 (by omega); have u2 := Rz.keep u0 hb2 (by omega); have k2 := Below.thru k0 k0.size hb2; have z2 : w1.heap.size + 2 ≤ w2.heap.size := Nat.le_trans z0 hb2.size; have hr2 := hr.keep hb2 (Nat.le_refl _))
      | (go_at_call 87; (with_reducible refine (signed_any (.agg #[.int .u64 xr, .pointer pr]) _ false w2 hr2).mono ?_); rintro e w3 ⟨hb3, v3, rfl, hs3⟩
         have q3 := C6.keep q2 hb3 (by omega) (by omega); have t3 := Rz.keep t2 hb3 (by omega); have u3 := Rz.keep u2 hb3 (by omega); have k3 := Below.thru k2 k2.size hb3; have z3 : w1.heap.size + 2 ≤ w3.heap.size := Nat.le_trans z2 hb3.size
         have hs2' := hs2.keep hb3 (Nat.le_refl _); obtain ⟨s4, x4, p4, n4, rfl, h4⟩ := hs2'; obtain ⟨s5, x5, p5, n5, rfl, h5⟩ := hs3
         obtain ⟨sq, xq', pq', m1, m2, m3, m4, m5, m6⟩ := t3.cells
         have gr1 : w3.grownBy (st3 w3 (w.heap.size + 1 + 1) (.bool s4) (.int .u64 x4) (.pointer p4)) (some (w.heap.size + 1 + 1)) := grown3 _ _ _ _ _ _ _ _
         have u4 := u3.other gr1 (by omega)
         obtain ⟨so, xo, po, o1, o2, o3, o4, o5, o6⟩ := u4.cells
         have q4 := C6.st q3 (T := w.heap.size + 1 + 1) (by omega) (by omega) (by omega) (by omega) (.bool s4) (.int .u64 x4) (.pointer p4)
         have q5 := C6.st q4 (T := w.heap.size + 1 + 1 + 1) (by omega) (by omega) (by omega) (by omega) (.bool s5) (.int .u64 x5) (.pointer p5)))
  obtain ⟨g1, g2, g3⟩ := three_cells m1 m2 m3 (.bool s4) (.int .u64 x4) (.pointer p4)
  obtain ⟨i1, i2, i3⟩ := three_cells o1 o2 o3 (.bool s5) (.int .u64 x5) (.pointer p5)
  have e1 := (cell_st3 (st3 w3 (w.heap.size + 1 + 1) (.bool s4) (.int .u64 x4) (.pointer p4)) (T := w.heap.size + 1 + 1 + 1) (b := w.heap.size + 1 + 1) (by omega) 0 (.bool s5) (.int .u64 x5) (.pointer p5)).trans g1
  have e2 := (cell_st3 (st3 w3 (w.heap.size + 1 + 1) (.bool s4) (.int .u64 x4) (.pointer p4)) (T := w.heap.size + 1 + 1 + 1) (b := w.heap.size + 1 + 1) (by omega) 1 (.bool s5) (.int .u64 x5) (.pointer p5)).trans g2
  have e3 := (cell_st3 (st3 w3 (w.heap.size + 1 + 1) (.bool s4) (.int .u64 x4) (.pointer p4)) (T := w.heap.size + 1 + 1 + 1) (b := w.heap.size + 1 + 1) (by omega) 2 (.bool s5) (.int .u64 x5) (.pointer p5)).trans g3
  have Z4 : Zr w3 (.agg #[.bool s4, .int .u64 x4, .pointer p4]) _ := ⟨s4, x4, p4, n4, rfl, h4⟩
  have Z5 : Zr w3 (.agg #[.bool s5, .int .u64 x5, .pointer p5]) _ := ⟨s5, x5, p5, n5, rfl, h5⟩
  have gr2 : (st3 w3 (w.heap.size + 1 + 1) (.bool s4) (.int .u64 x4) (.pointer p4)).grownBy (st3 (st3 w3 (w.heap.size + 1 + 1) (.bool s4) (.int .u64 x4) (.pointer p4)) (w.heap.size + 1 + 1 + 1) (.bool s5) (.int .u64 x5) (.pointer p5)) (some (w.heap.size + 1 + 1 + 1)) := grown3 _ _ _ _ _ _ _ _
  have Y4 := (Z4.store t3.odd gr1).store u4.odd gr2
  have Y5 := (Z5.store t3.odd gr1).store u4.odd gr2
  have kk := below3 (below3 k3 (by omega) (T := w.heap.size + 1 + 1) (.bool s4) (.int .u64 x4) (.pointer p4)) (T := w.heap.size + 1 + 1 + 1) (by omega) (.bool s5) (.int .u64 x5) (.pointer p5)
  clear q0 q2 q3 q4 q5
  go_wp2
  exact bodyPost_ret (v := .tuple #[.agg #[.bool s4, .int .u64 x4, .pointer p4], .agg #[.bool s5, .int .u64 x5, .pointer p5]]) (by simp [results, Tryz.results106, go_sem, e1, e2, e3, i1, i2, i3]) rfl ⟨kk, _, _, rfl, Zr.cast Y4 (by cases sb <;> exact HF.out.1), Zr.cast Y5 (by exact HF.out.2)⟩

theorem rs_mk (w : World) {T : Nat} (hT : T = w.heap.size) (x : Int) (p : Option Addr) : Rs T (w.alloc (.cells #[.int .u64 x, .pointer p] 26)) := by
  subst hT; exact ⟨x, p, Go.Deep.blk_alloc_new _ _⟩
/-- what the region that goes one step farther loads -/
@[reducible] def C8 (B G : Nat) (xq : Int) (pq : Option Addr) (xb : Int) (pb : Option Addr) (xr : Int) (pr : Option Addr) (w' : World) : Prop :=
  w'.cell? ⟨G, 0, none⟩ = some (.int .u64 xq) ∧ w'.cell? ⟨G, 1, none⟩ = some (.pointer pq) ∧ w'.cell? ⟨B + 1, 1, none⟩ = some (.int .u64 xb) ∧ w'.cell? ⟨B + 1, 2, none⟩ = some (.pointer pb) ∧ w'.cell? ⟨G + 1, 0, none⟩ = some (.int .u64 xr) ∧ w'.cell? ⟨G + 1, 1, none⟩ = some (.pointer pr)
theorem C8.keep {B G C : Nat} {xq : Int} {pq : Option Addr} {xb : Int} {pb : Option Addr} {xr : Int} {pr : Option Addr} {w w' : World} (h : C8 B G xq pq xb pb xr pr w) (hb : Below C w w') (hB : B + 1 < C) (hG : G + 1 < C) : C8 B G xq pq xb pb xr pr w' :=
  ⟨(hb.cell (p := ⟨G, 0, none⟩) (show G < C by omega)).trans h.1, (hb.cell (p := ⟨G, 1, none⟩) (show G < C by omega)).trans h.2.1, (hb.cell (p := ⟨B + 1, 1, none⟩) (show B + 1 < C by omega)).trans h.2.2.1, (hb.cell (p := ⟨B + 1, 2, none⟩) (show B + 1 < C from hB)).trans h.2.2.2.1, (hb.cell (p := ⟨G + 1, 0, none⟩) (show G + 1 < C from hG)).trans h.2.2.2.2.1, (hb.cell (p := ⟨G + 1, 1, none⟩) (show G + 1 < C from hG)).trans h.2.2.2.2.2⟩
def DivR (w w1 : World) (sb : Bool) (q r : Nat) (wx : World) : Prop := ∃ (x4 : Int) (p4 : Option Addr) (x5 : Int) (p5 : Option Addr), C6 w.heap.size w1.heap.size true sb x4 p4 x5 p5 wx ∧ Rz (w.heap.size + 1 + 1) wx ∧ Rz (w.heap.size + 1 + 1 + 1) wx ∧ Below w.heap.size w wx ∧ w1.heap.size + 2 ≤ wx.heap.size ∧ Dg wx (.agg #[.int .u64 x4, .pointer p4]) q ∧ Dg wx (.agg #[.int .u64 x5, .pointer p5]) r
@[reducible] def st2 (w : World) (T : Nat) (a b : Value) : World := (w.setCell ⟨T, 0, none⟩ a).setCell ⟨T, 1, none⟩ b
theorem cell_st2 (w : World) {T b : Nat} (hne : b ≠ T) (o : Nat) (u v : Value) : (st2 w T u v).cell? ⟨b, o, none⟩ = w.cell? ⟨b, o, none⟩ := by
  have h : ∀ i, (⟨T, i, none⟩ : Addr) ≠ ⟨b, o, none⟩ := fun i e => hne (by injection e with e1; exact e1.symm)
  rw [World.cell?_setCell_other _ _ _ _ (h _), World.cell?_setCell_other _ _ _ _ (h _)]
theorem below2 {B T : Nat} {a w : World} (h : Below B a w) (hT : B ≤ T) (u v : Value) : Below B a (st2 w T u v) :=
  (h.setCell (by simp <;> omega) _).setCell (by simp <;> omega) _
theorem Rs.other {w w' : World} {T U : Nat} (h : Rs U w) (hg : w.grownBy w' (some T)) (hne : U ≠ T) : Rs U w' := by
  obtain ⟨x, p, h⟩ := h
  exact ⟨x, p, (hg.block U (Array.getElem?_eq_some_iff.1 h).1 (by intro e; cases e; exact hne rfl)).trans h⟩
theorem div_meet {w w1 w3 : World} {sb : Bool} {q r : Nat} {xq : Int} {pq : Option Addr} {xr : Int} {pr : Option Addr} (x4 : Int) (p4 : Option Addr) (x5 : Int) (p5 : Option Addr)
    (h0 : w.heap.size + 4 ≤ w1.heap.size) (c : C6 w.heap.size w1.heap.size true sb xq pq xr pr w3) (y : Rs w1.heap.size w3) (x : Rs (w1.heap.size + 1) w3) (t : Rz (w.heap.size + 1 + 1) w3) (u : Rz (w.heap.size + 1 + 1 + 1) w3) (k : Below w.heap.size w w3) (z : w1.heap.size + 2 ≤ w3.heap.size)
    (hq : Dg w3 (.agg #[.int .u64 x4, .pointer p4]) q) (hr : Dg w3 (.agg #[.int .u64 x5, .pointer p5]) r) : DivR w w1 sb q r (st2 (st2 w3 w1.heap.size (.int .u64 x4) (.pointer p4)) (w1.heap.size + 1) (.int .u64 x5) (.pointer p5)) := by
  have g1 : w3.grownBy (st2 w3 w1.heap.size (.int .u64 x4) (.pointer p4)) (some w1.heap.size) := grown2 _ _ _ _ _ _
  have g2 : (st2 w3 w1.heap.size (.int .u64 x4) (.pointer p4)).grownBy (st2 (st2 w3 w1.heap.size (.int .u64 x4) (.pointer p4)) (w1.heap.size + 1) (.int .u64 x5) (.pointer p5)) (some (w1.heap.size + 1)) := grown2 _ _ _ _ _ _
  have x2 := x.other g1 (by omega)
  obtain ⟨_, _, m1, m2, _, _⟩ := y.cells
  obtain ⟨_, _, o1, o2, _, _⟩ := x2.cells
  obtain ⟨n1, n2⟩ := two_cells m1 m2 (.int .u64 x4) (.pointer p4)
  obtain ⟨n3, n4⟩ := two_cells o1 o2 (.int .u64 x5) (.pointer p5)
  refine ⟨x4, p4, x5, p5, ⟨(cell_st2 _ (by omega) _ _ _).trans n1, (cell_st2 _ (by omega) _ _ _).trans n2, (cell_st2 _ (by omega) _ _ _).trans ((cell_st2 _ (by omega) _ _ _).trans c.2.2.1), (cell_st2 _ (by omega) _ _ _).trans ((cell_st2 _ (by omega) _ _ _).trans c.2.2.2.1), n3, n4⟩, (t.other g1 (by omega)).other g2 (by omega), (u.other g1 (by omega)).other g2 (by omega), below2 (below2 k (by omega) _ _) (by omega) _ _, ?_, (hq.store y.odd g1).store x2.odd g2, (hr.store y.odd g1).store x2.odd g2⟩
  exact Nat.le_trans z (Nat.le_trans g1.size g2.size)
set_option maxHeartbeats 3200000 in
set_option maxRecDepth 100000 in
theorem divide_neg (sb : Bool) (xa xb : Int) (pa pb : Option Addr) (y z : Int) (w : World) (hda : Dg w (.agg #[.int .u64 xa, .pointer pa]) y.natAbs) (hdb : Dg w (.agg #[.int .u64 xb, .pointer pb]) z.natAbs) (hov : OverC y.natAbs z.natAbs) (hz : y.natAbs % z.natAbs ≠ 0) (lq : Sz (y.natAbs / z.natAbs)) (lz : Sz z.natAbs) (hlt : y.natAbs % z.natAbs ≤ z.natAbs) (hfin : (if (true != sb) then -((y.natAbs / z.natAbs + 1 : Nat) : Int) else ((y.natAbs / z.natAbs + 1 : Nat) : Int)) = y / z ∧ ((z.natAbs - y.natAbs % z.natAbs : Nat) : Int) = y % z) : Calls Tryz.prog 106 #[.agg #[.bool true, .int .u64 xa, .pointer pa], .agg #[.bool sb, .int .u64 xb, .pointer pb]] w (PZ2 (y / z) (y % z) w) := by
  have HA := Lib.hid hda; have HB := Lib.hid hdb; have HO := Lib.hid hov; have HF := Lib.hid hfin; have HZ := Lib.hid hz; have HL := Lib.hid hlt
  clear hda hdb hov hfin hz hlt
  go_enter Tryz.func106, Tryz.ntmps106
  go_wp2_with fail
  refine (HO.out _ _ _ (HA.out.keep (B := w.heap.size) (Below.thru (bl3 _ _ _ _) (by simp <;> omega) (bl1 _ _)) (Nat.le_refl _)) (HB.out.keep (B := w.heap.size) (Below.thru (bl3 _ _ _ _) (by simp <;> omega) (bl1 _ _)) (Nat.le_refl _))).mono ?_
  rintro e w1 ⟨hc1, vq, vr, rfl, hq, hr⟩
  obtain ⟨xq, pq, rfl⟩ := hq.agg
  obtain ⟨xr, pr, rfl⟩ := hr.agg
  have z1 : w.heap.size + 4 ≤ w1.heap.size := Nat.le_trans (by simp) hc1.size
  have k1 : Below w.heap.size w w1 := Below.thru (Below.thru (bl3 _ _ _ _) (by simp <;> omega) (bl1 _ _)) (by simp <;> omega) hc1
  have a1 : B3 w.heap.size true xa pa w1 := B3.keep (by refine ⟨?_, ?_, ?_⟩ <;> simp [go_sem, World.cell?_alloc_past]) hc1 (by simp <;> omega)
  have b1 : B3 (w.heap.size + 1) sb xb pb w1 := B3.keep (by refine ⟨?_, ?_, ?_⟩ <;> simp [go_sem, World.cell?_alloc_past]) hc1 (by simp <;> omega)
  have t1 : Rz (w.heap.size + 1 + 1) w1 := Rz.keep ((rz_new _ (by simp)).alloc _) hc1 (by simp <;> omega)
  have u1 : Rz (w.heap.size + 1 + 1 + 1) w1 := Rz.keep (rz_new _ (by simp)) hc1 (by simp <;> omega)
  have A2 := B3.keep a1 (bl2 w1 (.cells #[.int .u64 xq, .pointer pq] 26) (.cells #[.int .u64 xr, .pointer pr] 26)) (by omega)
  have B2 := B3.keep b1 (bl2 w1 (.cells #[.int .u64 xq, .pointer pq] 26) (.cells #[.int .u64 xr, .pointer pr] 26)) (by omega)
  have A21 := A2.1; have B21 := B2.1; have B22 := B2.2.1; have B23 := B2.2.2
  have HQ := Lib.hid hq; have HR := Lib.hid hr
  clear hq hr
  go_upto_region 3 with (go_at_call 89; refine (isZero_no _ (HR.out.keep (bl2 _ _ _) (Nat.le_refl _)) HZ.out).mono ?_; rintro e w1' ⟨rfl, c9, t9, rfl⟩)
  generalize hW : World.alloc _ (Obj.cells c9 t9) = W
  have hbW : Below w1.heap.size w1 W := by rw [← hW]; exact Below.thru (bl2 _ _ _) (by simp <;> omega) (bl2 _ _ _)
  have q0 : C6 w.heap.size w1.heap.size true sb xq pq xr pr W := by
    rw [← hW]; refine ⟨?_, ?_, ?_, ?_, ?_, ?_⟩ <;> first | (simp [go_sem, World.cell?_alloc_past]; done) | (rw [World.cell?_alloc_past _ _ _ (by simp; omega), World.cell?_alloc_past _ _ _ (by simp; omega)]; first | exact A21 | exact B21)
  have z0 : w1.heap.size + 2 ≤ W.heap.size := by rw [← hW]; simp
  have p0 : C8 w.heap.size w1.heap.size xq pq xb pb xr pr W := by
    rw [← hW]; refine ⟨?_, ?_, ?_, ?_, ?_, ?_⟩ <;> first | (simp [go_sem, World.cell?_alloc_past]; done) | (rw [World.cell?_alloc_past _ _ _ (by simp; omega), World.cell?_alloc_past _ _ _ (by simp; omega)]; first | exact B22 | exact B23)
  have y0 : Rs w1.heap.size W := by rw [← hW]; exact (((rs_mk w1 rfl xq pq).alloc _).alloc _).alloc _
  have y1 : Rs (w1.heap.size + 1) W := by rw [← hW]; exact ((rs_mk _ (by simp) xr pr).alloc _).alloc _
  clear hW A2 B2 A21 B21 B22 B23
  go_cut [] (fun wx => DivR w w1 sb (y.natAbs / z.natAbs + 1) (z.natAbs - y.natAbs % z.natAbs) wx)
  case first =>
    have q0 : C6 w.heap.size w1.heap.size true sb xq pq xr pr W.drew := q0
    have p0 : C8 w.heap.size w1.heap.size xq pq xb pb xr pr W.drew := p0
    have y0 : Rs w1.heap.size W.drew := y0
    have y1 : Rs (w1.heap.size + 1) W.drew := y1
    have hbW : Below w1.heap.size w1 W.drew := hbW.drew
    have z0 : w1.heap.size + 2 ≤ W.drew.heap.size := z0
    have t0 := t1.keep hbW (by omega)
    have u0 := u1.keep hbW (by omega)
    have k0 := Below.thru k1 k1.size hbW
    have hq := HQ.out.keep hbW (Nat.le_refl _)
    have hr := HR.out.keep hbW (Nat.le_refl _)
    have hb9 := HB.out.keep (B := w.heap.size) k0 (Nat.le_refl _)
    have hone : Dg W.drew (.agg #[.int .u64 1, .pointer none]) 1 := Dg.of_small _ (n := 1) (by unfold Wd WB; omega)
    have sone : Sz 1 := ⟨1, by omega, by unfold WB; omega⟩
    obtain ⟨c1', c2', c3', c4', c5', c6'⟩ := p0
    have p0 : C8 w.heap.size w1.heap.size xq pq xb pb xr pr W.drew := ⟨c1', c2', c3', c4', c5', c6'⟩
    go_region_with (first
      | (go_at_call 124; (with_reducible refine (plus_any (.agg #[.int .u64 xq, .pointer pq]) (.agg #[.int .u64 1, .pointer none]) _ 1 W.drew hq hone lq sone).mono ?_); rintro e w2 ⟨hb2, v2, rfl, hs2⟩
         have q2 := C6.keep q0 hb2 (by omega) (by omega); have p2 := C8.keep p0 hb2 (by omega) (by omega); have t2 := Rz.keep t0 hb2 (by omega); have u2 := Rz.keep u0 hb2 (by omega); have y2 := Rs.keep y0 hb2 (by omega); have x2 := Rs.keep y1 hb2 (by omega); have k2 := Below.thru k0 k0.size hb2; have z2 : w1.heap.size + 2 ≤ w2.heap.size := Nat.le_trans z0 hb2.size; have hr2 := hr.keep hb2 (Nat.le_refl _); have hb8 := hb9.keep hb2 (Nat.le_refl _); obtain ⟨l1, l2, l3, l4, l5, l6⟩ := p2)
      | (go_at_call 125; (with_reducible refine (minus_any (.agg #[.int .u64 xb, .pointer pb]) (.agg #[.int .u64 xr, .pointer pr]) _ _ w2 hb8 hr2 lz (lz.le HL.out) HL.out).mono ?_); rintro e w3 ⟨hb3, v3, rfl, hs3⟩
         have q3 := C6.keep q2 hb3 (by omega) (by omega); have t3 := Rz.keep t2 hb3 (by omega); have u3 := Rz.keep u2 hb3 (by omega); have y3 := Rs.keep y2 hb3 (by omega); have x3 := Rs.keep x2 hb3 (by omega); have k3 := Below.thru k2 k2.size hb3; have z3 : w1.heap.size + 2 ≤ w3.heap.size := Nat.le_trans z2 hb3.size
         have hs2 := hs2.keep hb3 (Nat.le_refl _); obtain ⟨x4, p4, rfl⟩ := hs2.agg; obtain ⟨x5, p5, rfl⟩ := hs3.agg; obtain ⟨d1, d2, m1, m2, m3, m4⟩ := y3.cells; obtain ⟨d3, d4, o1, o2, o3, o4⟩ := x3.cells; have HM := Lib.hid (div_meet x4 p4 x5 p5 z1 q3 y3 x3 t3 u3 k3 z3 hs2 hs3); clear q3))
    all_goals (go_wp2_with fail; go_meet; exact HM.out)
  case rest =>
    obtain ⟨xq, pq, xr, pr, q0, t0, u0, k0, z0, hq, hr⟩ := hcut
    go_wp2
    have q0 : C6 w.heap.size w1.heap.size true sb xq pq xr pr wc.drew := q0
    have t0 : Rz (w.heap.size + 1 + 1) wc.drew := t0
    have u0 : Rz (w.heap.size + 1 + 1 + 1) wc.drew := u0
    have k0 : Below w.heap.size w wc.drew := k0.drew
    have z0 : w1.heap.size + 2 ≤ wc.drew.heap.size := z0
    have hq : Dg wc.drew (.agg #[.int .u64 xq, .pointer pq]) _ := hq.keep (B := wc.heap.size) (Below.refl _ _).drew (Nat.le_refl _)
    have hr : Dg wc.drew (.agg #[.int .u64 xr, .pointer pr]) _ := hr.keep (B := wc.heap.size) (Below.refl _ _).drew (Nat.le_refl _)
    go_region_held3 (fun w' => w'.cell? ⟨w1.heap.size, 0, none⟩ = some (.int .u64 xq) ∧ w'.cell? ⟨w1.heap.size, 1, none⟩ = some (.pointer pq) ∧ w'.cell? ⟨w.heap.size, 0, none⟩ = some (.bool true) ∧ w'.cell? ⟨w.heap.size + 1, 0, none⟩ = some (.bool sb) ∧ w'.cell? ⟨w1.heap.size + 1, 0, none⟩ = some (.int .u64 xr) ∧ w'.cell? ⟨w1.heap.size + 1, 1, none⟩ = some (.pointer pr))
      (first | (with_reducible exact q5) | (with_reducible exact q4) | (with_reducible exact q3) | (with_reducible exact q2) | (with_reducible exact q0))
      (first
        | (go_at_call 87; (with_reducible refine (signed_any (.agg #[.int .u64 xq, .pointer pq]) _ _ wc.drew hq).mono ?_); rintro e w2 ⟨hb2, v2, rfl, hs2⟩
           have q2 := C6.keep q0 hb2 (by omega) (by omega); have t2 := Rz.keep t0 hb2 (by omega); have u2 := Rz.keep u0 hb2 (by omega); have k2 := Below.thru k0 k0.size hb2; have z2 : w1.heap.size + 2 ≤ w2.heap.size := Nat.le_trans z0 hb2.size; have hr2 := hr.keep hb2 (Nat.le_refl _))
        | (go_at_call 87; (with_reducible refine (signed_any (.agg #[.int .u64 xr, .pointer pr]) _ false w2 hr2).mono ?_); rintro e w3 ⟨hb3, v3, rfl, hs3⟩
           have q3 := C6.keep q2 hb3 (by omega) (by omega); have t3 := Rz.keep t2 hb3 (by omega); have u3 := Rz.keep u2 hb3 (by omega); have k3 := Below.thru k2 k2.size hb3; have z3 : w1.heap.size + 2 ≤ w3.heap.size := Nat.le_trans z2 hb3.size
           have hs2' := hs2.keep hb3 (Nat.le_refl _); obtain ⟨s4, x4, p4, n4, rfl, h4⟩ := hs2'; obtain ⟨s5, x5, p5, n5, rfl, h5⟩ := hs3
           obtain ⟨sq, xq', pq', m1, m2, m3, m4, m5, m6⟩ := t3.cells
           have gr1 : w3.grownBy (st3 w3 (w.heap.size + 1 + 1) (.bool s4) (.int .u64 x4) (.pointer p4)) (some (w.heap.size + 1 + 1)) := grown3 _ _ _ _ _ _ _ _
           have u4 := u3.other gr1 (by omega)
           obtain ⟨so, xo, po, o1, o2, o3, o4, o5, o6⟩ := u4.cells
           have q4 := C6.st q3 (T := w.heap.size + 1 + 1) (by omega) (by omega) (by omega) (by omega) (.bool s4) (.int .u64 x4) (.pointer p4)
           have q5 := C6.st q4 (T := w.heap.size + 1 + 1 + 1) (by omega) (by omega) (by omega) (by omega) (.bool s5) (.int .u64 x5) (.pointer p5)))
    obtain ⟨g1, g2, g3⟩ := three_cells m1 m2 m3 (.bool s4) (.int .u64 x4) (.pointer p4)
    obtain ⟨i1, i2, i3⟩ := three_cells o1 o2 o3 (.bool s5) (.int .u64 x5) (.pointer p5)
    have e1 := (cell_st3 (st3 w3 (w.heap.size + 1 + 1) (.bool s4) (.int .u64 x4) (.pointer p4)) (T := w.heap.size + 1 + 1 + 1) (b := w.heap.size + 1 + 1) (by omega) 0 (.bool s5) (.int .u64 x5) (.pointer p5)).trans g1
    have e2 := (cell_st3 (st3 w3 (w.heap.size + 1 + 1) (.bool s4) (.int .u64 x4) (.pointer p4)) (T := w.heap.size + 1 + 1 + 1) (b := w.heap.size + 1 + 1) (by omega) 1 (.bool s5) (.int .u64 x5) (.pointer p5)).trans g2
    have e3 := (cell_st3 (st3 w3 (w.heap.size + 1 + 1) (.bool s4) (.int .u64 x4) (.pointer p4)) (T := w.heap.size + 1 + 1 + 1) (b := w.heap.size + 1 + 1) (by omega) 2 (.bool s5) (.int .u64 x5) (.pointer p5)).trans g3
    have Z4 : Zr w3 (.agg #[.bool s4, .int .u64 x4, .pointer p4]) _ := ⟨s4, x4, p4, n4, rfl, h4⟩
    have Z5 : Zr w3 (.agg #[.bool s5, .int .u64 x5, .pointer p5]) _ := ⟨s5, x5, p5, n5, rfl, h5⟩
    have gr2 : (st3 w3 (w.heap.size + 1 + 1) (.bool s4) (.int .u64 x4) (.pointer p4)).grownBy (st3 (st3 w3 (w.heap.size + 1 + 1) (.bool s4) (.int .u64 x4) (.pointer p4)) (w.heap.size + 1 + 1 + 1) (.bool s5) (.int .u64 x5) (.pointer p5)) (some (w.heap.size + 1 + 1 + 1)) := grown3 _ _ _ _ _ _ _ _
    have Y4 := (Z4.store t3.odd gr1).store u4.odd gr2
    have Y5 := (Z5.store t3.odd gr1).store u4.odd gr2
    have kk := below3 (below3 k3 (by omega) (T := w.heap.size + 1 + 1) (.bool s4) (.int .u64 x4) (.pointer p4)) (T := w.heap.size + 1 + 1 + 1) (by omega) (.bool s5) (.int .u64 x5) (.pointer p5)
    clear q0 q2 q3 q4 q5
    go_wp2
    exact bodyPost_ret (v := .tuple #[.agg #[.bool s4, .int .u64 x4, .pointer p4], .agg #[.bool s5, .int .u64 x5, .pointer p5]]) (by simp [results, Tryz.results106, go_sem, e1, e2, e3, i1, i2, i3]) rfl ⟨kk, _, _, rfl, Zr.cast Y4 (by cases sb <;> exact HF.out.1), Zr.cast Y5 (by exact HF.out.2)⟩

end Go.Proofs.YtjjomjjgoceklaaGreat
