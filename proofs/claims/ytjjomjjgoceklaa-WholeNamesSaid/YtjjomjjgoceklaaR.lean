import Derived.Test.YtjjomjjgoceklaaQ
namespace Go.Proofs.Ytjjomjjgoceklaa
open Go.RowKit

theorem divide_any (va vd : Value) (y z : Int) (w : World) (ha : Zr w va y) (hb : Zr w vd z) (hz : z ≠ 0) (hov : OverC y.natAbs z.natAbs) (lq : Sz y.natAbs) (lz : Sz z.natAbs) : Calls Try.prog 61 #[va, vd] w (PZ2 (y / z) (y % z) w) := by
  obtain ⟨sa, xa, pa, rfl, hda, ha1, ha2⟩ := ha.dg
  obtain ⟨sb, xb, pb, rfl, hdb, hb1, hb2⟩ := hb.dg
  cases sa with
  | false => exact divide_pos sb xa xb pa pb y z w hda hdb hov (divmod_pos y z (ha2 rfl) false sb rfl hz hb1 hb2)
  | true =>
    by_cases hr : y.natAbs % z.natAbs = 0
    · exact divide_neg0 sb xa xb pa pb y z w hda hdb hov hr (divmod_neg0 y z (ha1 rfl) sb hz hb1 hb2 hr)
    · exact divide_neg sb xa xb pa pb y z w hda hdb hov hr (lq.le (Nat.div_le_self _ _)) lz (Nat.le_of_lt (Nat.mod_lt _ (by omega))) (divmod_neg y z (ha1 rfl) sb hz hb1 hb2 hr)

theorem Rz.self {T : Nat} {w : World} (h : Rz T w) (s : Bool) (x : Int) (p : Option Addr) : Rz T (st3 w T (.bool s) (.int .u64 x) (.pointer p)) := by
  obtain ⟨s', x', p', h⟩ := h
  refine ⟨s, x, p, ?_⟩
  simp [World.setCell, Array.getElem?_modify, h]
/-- the three results of Quotient -/
def PQ (x y : Int) (er : Int) (w : World) (e : Ending) (w' : World) : Prop := Below w.heap.size w w' ∧ ∃ u v, e = .returned (.tuple #[u, v, .int .i64 er]) ∧ Zr w' u x ∧ Zr w' v y
theorem Zr.zero (w : World) : Zr w (.agg #[.bool false, .int .u64 0, .pointer none]) 0 := ⟨false, 0, none, 0, rfl, Dg.of_small _ Wd.zero, by simp, by simp⟩
theorem drew_cell (w : World) (a : Addr) : w.drew.cell? a = w.cell? a := rfl
theorem quotient_zero (va vd : Value) (y : Int) (w : World) (ha : Zr w va y) (hb : Zr w vd 0) : Calls Try.prog 30 #[va, vd] w (PQ 0 0 9 w) := by
  obtain ⟨sa, xa, pa, rfl, hda, ha1, ha2⟩ := ha.dg
  obtain ⟨sb, xb, pb, rfl, hdb, hb1, hb2⟩ := hb.dg
  have HB := Lib.hid hdb
  clear ha hb hda hdb ha1 ha2 hb1 hb2
  go_enter Try.func30, Try.ntmps30
  go_wp2_with (go_at_call 57; refine (isZero_yes _ (HB.out.keep (B := w.heap.size) (Below.thru (bl3 _ _ _ _) (by simp <;> omega) (bl1 _ _)) (Nat.le_refl _)) rfl).mono ?_; rintro e w1 ⟨rfl, c1, t1, rfl⟩)
  exact bodyPost_ret (v := .tuple #[.agg #[.bool false, .int .u64 0, .pointer none], .agg #[.bool false, .int .u64 0, .pointer none], .int .i64 9]) (by simp [results, Try.results30, go_sem]) rfl ⟨Below.thru (bl3 _ _ _ _) (by simp <;> omega) (bl3 _ _ _ _), _, _, rfl, Zr.zero _, Zr.zero _⟩
set_option maxHeartbeats 400000 in
theorem quotient_any (va vd : Value) (y z : Int) (w : World) (ha : Zr w va y) (hb : Zr w vd z) (hz : z ≠ 0) (hov : OverC y.natAbs z.natAbs) (lq : Sz y.natAbs) (lz : Sz z.natAbs) : Calls Try.prog 30 #[va, vd] w (PQ (y / z) (y % z) 0 w) := by
  have HA' := Lib.hid ha; have HB' := Lib.hid hb
  obtain ⟨sa, xa, pa, rfl, hda, ha1, ha2⟩ := ha.dg
  obtain ⟨sb, xb, pb, rfl, hdb, hb1, hb2⟩ := hb.dg
  have HB := Lib.hid hdb
  have hz' : z.natAbs ≠ 0 := by omega
  have HZ := Lib.hid hz'
  have HZ2 := Lib.hid hz
  have HO := Lib.hid hov
  clear ha hb hda hdb ha1 ha2 hb1 hb2 hz hz' hov
  go_enter Try.func30, Try.ntmps30
  go_wp2_with (go_at_call 57; refine (isZero_no _ (HB.out.keep (B := w.heap.size) (Below.thru (bl3 _ _ _ _) (by simp <;> omega) (bl1 _ _)) (Nat.le_refl _)) HZ.out).mono ?_; rintro e w1 ⟨rfl, c1, t1, rfl⟩)
  have k0 : Below w.heap.size w _ := Below.thru (bl3 w (.cells #[.bool sa, .int .u64 xa, .pointer pa] 29) (.cells #[.bool sb, .int .u64 xb, .pointer pb] 29) (.cells #[.bool false, .int .u64 0, .pointer none] 29)) (by simp <;> omega) (bl3 _ (.cells #[.bool false, .int .u64 0, .pointer none] 29) (.cells c1 t1) (.cells c1 t1))
  refine (divide_any _ _ y z _ (HA'.out.keep k0 (Nat.le_refl _)) (HB'.out.keep k0 (Nat.le_refl _)) HZ2.out HO.out lq lz).mono ?_
  rintro e w3 ⟨hb3, u, v, rfl, hu, hv⟩
  have k3 := Below.thru k0 k0.size hb3
  have z3 : w.heap.size + 6 ≤ w3.heap.size := Nat.le_trans (by simp) hb3.size
  have t3 : Rz (w.heap.size + 1 + 1) w3 := Rz.keep ((((rz_new _ (by simp)).alloc _).alloc _).alloc _) hb3 (by simp <;> omega)
  have u3 : Rz (w.heap.size + 1 + 1 + 1) w3 := Rz.keep (((rz_new _ (by simp)).alloc _).alloc _) hb3 (by simp <;> omega)
  clear hb3 k0
  obtain ⟨s4, x4, p4, n4, rfl, h4⟩ := hu
  obtain ⟨s5, x5, p5, n5, rfl, h5⟩ := hv
  obtain ⟨sq, xq', pq', m1, m2, m3, m4, m5, m6⟩ := t3.cells
  have gr1 : w3.grownBy (st3 w3 (w.heap.size + 1 + 1) (.bool s4) (.int .u64 x4) (.pointer p4)) (some (w.heap.size + 1 + 1)) := grown3 _ _ _ _ _ _ _ _
  have u4 := u3.other gr1 (by omega)
  obtain ⟨so, xo, po, o1, o2, o3, o4, o5, o6⟩ := u4.cells
  obtain ⟨g1, g2, g3⟩ := three_cells m1 m2 m3 (.bool s4) (.int .u64 x4) (.pointer p4)
  obtain ⟨i1, i2, i3⟩ := three_cells o1 o2 o3 (.bool s5) (.int .u64 x5) (.pointer p5)
  have e1 := (cell_st3 (st3 w3 (w.heap.size + 1 + 1) (.bool s4) (.int .u64 x4) (.pointer p4)) (T := w.heap.size + 1 + 1 + 1) (b := w.heap.size + 1 + 1) (by omega) 0 (.bool s5) (.int .u64 x5) (.pointer p5)).trans g1
  have e2 := (cell_st3 (st3 w3 (w.heap.size + 1 + 1) (.bool s4) (.int .u64 x4) (.pointer p4)) (T := w.heap.size + 1 + 1 + 1) (b := w.heap.size + 1 + 1) (by omega) 1 (.bool s5) (.int .u64 x5) (.pointer p5)).trans g2
  have e3 := (cell_st3 (st3 w3 (w.heap.size + 1 + 1) (.bool s4) (.int .u64 x4) (.pointer p4)) (T := w.heap.size + 1 + 1 + 1) (b := w.heap.size + 1 + 1) (by omega) 2 (.bool s5) (.int .u64 x5) (.pointer p5)).trans g3
  have Z4 : Zr w3 (.agg #[.bool s4, .int .u64 x4, .pointer p4]) _ := ⟨s4, x4, p4, n4, rfl, h4⟩
  have Z5 : Zr w3 (.agg #[.bool s5, .int .u64 x5, .pointer p5]) _ := ⟨s5, x5, p5, n5, rfl, h5⟩
  have gr2 : (st3 w3 (w.heap.size + 1 + 1) (.bool s4) (.int .u64 x4) (.pointer p4)).grownBy (st3 (st3 w3 (w.heap.size + 1 + 1) (.bool s4) (.int .u64 x4) (.pointer p4)) (w.heap.size + 1 + 1 + 1) (.bool s5) (.int .u64 x5) (.pointer p5)) (some (w.heap.size + 1 + 1 + 1)) := grown3 _ _ _ _ _ _ _ _
  have Y4 := (Z4.store t3.odd gr1).store u4.odd gr2
  have Y5 := (Z5.store t3.odd gr1).store u4.odd gr2
  have kk := below3 (below3 k3 (by omega) (T := w.heap.size + 1 + 1) (.bool s4) (.int .u64 x4) (.pointer p4)) (T := w.heap.size + 1 + 1 + 1) (by omega) (.bool s5) (.int .u64 x5) (.pointer p5)
  have tW := (t3.self s4 x4 p4).other gr2 (by omega)
  have uW := u4.self s5 x5 p5
  have zW : w.heap.size + 6 ≤ (st3 (st3 w3 (w.heap.size + 1 + 1) (.bool s4) (.int .u64 x4) (.pointer p4)) (w.heap.size + 1 + 1 + 1) (.bool s5) (.int .u64 x5) (.pointer p5)).heap.size := Nat.le_trans z3 (Nat.le_trans gr1.size gr2.size)
  have HZW := Lib.hid zW; have HTW := Lib.hid tW; have HUW := Lib.hid uW
  clear tW uW zW
  have HY4 := Lib.hid Y4; have HY5 := Lib.hid Y5; have HK := Lib.hid kk
  clear t3 u3 u4 gr1 gr2 Z4 Z5 Y4 Y5 kk
  go_wp2
  unfold st3 at e1 e2 e3 i1 i2 i3 HY4 HY5 HK HTW HUW HZW
  generalize hW : World.setCell _ ⟨w.heap.size + 1 + 1 + 1, 2, none⟩ (.pointer p5) = W at *
  clear hW g1 g2 g3 m1 m2 m3 m4 m5 m6 o1 o2 o3 o4 o5 o6
  have tW := HTW.out; have uW := HUW.out; have zW := HZW.out
  obtain ⟨_, _, _, m1, m2, m3, m4, m5, m6⟩ := tW.cells
  obtain ⟨_, _, _, o1, o2, o3, o4, o5, o6⟩ := uW.cells
  have gr1 : W.grownBy (st3 W (w.heap.size + 1 + 1) (.bool s4) (.int .u64 x4) (.pointer p4)) (some (w.heap.size + 1 + 1)) := grown3 _ _ _ _ _ _ _ _
  have gr2 : (st3 W (w.heap.size + 1 + 1) (.bool s4) (.int .u64 x4) (.pointer p4)).grownBy (st3 (st3 W (w.heap.size + 1 + 1) (.bool s4) (.int .u64 x4) (.pointer p4)) (w.heap.size + 1 + 1 + 1) (.bool s5) (.int .u64 x5) (.pointer p5)) (some (w.heap.size + 1 + 1 + 1)) := grown3 _ _ _ _ _ _ _ _
  have tD : Rz (w.heap.size + 1 + 1) W := tW
  have uD := (show Rz (w.heap.size + 1 + 1 + 1) W from uW).other gr1 (by omega)
  have Y4 := (HY4.out.store tD.odd gr1).store uD.odd gr2
  have Y5 := (HY5.out.store tD.odd gr1).store uD.odd gr2
  have kk := below3 (below3 HK.out (by omega) (T := w.heap.size + 1 + 1) (.bool s4) (.int .u64 x4) (.pointer p4)) (T := w.heap.size + 1 + 1 + 1) (by omega) (.bool s5) (.int .u64 x5) (.pointer p5)
  obtain ⟨_, _, _, o1', o2', o3', o4', o5', o6'⟩ := uD.cells
  obtain ⟨g1, g2, g3⟩ := three_cells (show W.cell? _ = _ from m1) m2 m3 (.bool s4) (.int .u64 x4) (.pointer p4)
  obtain ⟨j1, j2, j3⟩ := three_cells o1' o2' o3' (.bool s5) (.int .u64 x5) (.pointer p5)
  have n1 := (cell_st3 (st3 W (w.heap.size + 1 + 1) (.bool s4) (.int .u64 x4) (.pointer p4)) (T := w.heap.size + 1 + 1 + 1) (b := w.heap.size + 1 + 1) (by omega) 0 (.bool s5) (.int .u64 x5) (.pointer p5)).trans g1
  have n2 := (cell_st3 (st3 W (w.heap.size + 1 + 1) (.bool s4) (.int .u64 x4) (.pointer p4)) (T := w.heap.size + 1 + 1 + 1) (b := w.heap.size + 1 + 1) (by omega) 1 (.bool s5) (.int .u64 x5) (.pointer p5)).trans g2
  have n3 := (cell_st3 (st3 W (w.heap.size + 1 + 1) (.bool s4) (.int .u64 x4) (.pointer p4)) (T := w.heap.size + 1 + 1 + 1) (b := w.heap.size + 1 + 1) (by omega) 2 (.bool s5) (.int .u64 x5) (.pointer p5)).trans g3
  have Y4 := Y4.keep (Below.refl _ _).drew (Nat.le_refl _)
  have Y5 := Y5.keep (Below.refl _ _).drew (Nat.le_refl _)
  have kk := kk.drew
  have N1 := Lib.hid n1; have N2 := Lib.hid n2; have N3 := Lib.hid n3; have J1 := Lib.hid j1; have J2 := Lib.hid j2; have J3 := Lib.hid j3
  have HY4 := Lib.hid Y4; have HY5 := Lib.hid Y5; have HK := Lib.hid kk
  clear tD gr1 gr2 tW Y4 Y5 kk m1 m2 m3 o1 o2 o3 n1 n2 n3 g1 g2 g3 j1 j2 j3 uD uW HTW HUW HZW o1' o2' o3' o4' o5' o6'
  go_region
  go_wp2
  have HFIN := Lib.hid (show PQ (y / z) (y % z) 0 w (.returned (.tuple #[.agg #[.bool s4, .int .u64 x4, .pointer p4], .agg #[.bool s5, .int .u64 x5, .pointer p5], .int .i64 0])) _ from ⟨HK.out, _, _, rfl, HY4.out, HY5.out⟩)
  clear HY4 HY5 HK
  refine bodyPost_ret (v := .tuple #[.agg #[.bool s4, .int .u64 x4, .pointer p4], .agg #[.bool s5, .int .u64 x5, .pointer p5], .int .i64 0]) ?_ rfl ?_
  · trace "r"
    have N1 := (drew_cell _ _).trans N1.out; have N2 := (drew_cell _ _).trans N2.out; have N3 := (drew_cell _ _).trans N3.out; have J1 := (drew_cell _ _).trans J1.out; have J2 := (drew_cell _ _).trans J2.out; have J3 := (drew_cell _ _).trans J3.out
    simp [results, Try.results30, go_sem, N1, N2, N3, J1, J2, J3]
  · trace "s"
    exact HFIN.out

theorem gcd_any (va vb : Value) (y z : Int) (w : World) (ha : Zr w va y) (hb : Zr w vb z) (hc : CommonC y.natAbs z.natAbs) : Calls Try.prog 28 #[va, vb] w (PZ (Int.gcd y z : Int) w) := by
  obtain ⟨sa, xa, pa, rfl, hda, _, _⟩ := ha.dg
  obtain ⟨sb, xb, pb, rfl, hdb, _, _⟩ := hb.dg
  have HA := Lib.hid hda; have HB := Lib.hid hdb; have HC := Lib.hid hc
  clear ha hb hda hdb hc
  go_enter Try.func28, Try.ntmps28
  go_wp2_with fail
  refine (HC.out _ _ _ (HA.out.keep (bl3 _ _ _ _) (Nat.le_refl _)) (HB.out.keep (bl3 _ _ _ _) (Nat.le_refl _))).mono ?_
  rintro e w1 ⟨hb1, v1, rfl, h1⟩
  have t1 : Rz (w.heap.size + 1 + 1) w1 := Rz.keep (rz_new _ (by simp)) hb1 (by simp <;> omega)
  have k1 := Below.thru (bl3 w _ _ _) (by simp <;> omega) hb1
  have z1 : w.heap.size + 3 ≤ w1.heap.size := Nat.le_trans (by simp) hb1.size
  go_wp2_with fail
  refine (signed_any v1 _ false w1 h1).mono ?_
  rintro e w2 ⟨hb2, v2, rfl, h2⟩
  have t2 := t1.keep hb2 (by omega)
  have k2 := Below.thru k1 k1.size hb2
  obtain ⟨s4, x4, p4, n4, rfl, h4⟩ := h2
  have H4 := Lib.hid h4
  clear h4 hb1 t1 hb2
  obtain ⟨_, _, _, m1, m2, m3, m4, m5, m6⟩ := t2.cells
  obtain ⟨g1, g2, g3⟩ := three_cells m1 m2 m3 (.bool s4) (.int .u64 x4) (.pointer p4)
  have Z4 : Zr w2 (.agg #[.bool s4, .int .u64 x4, .pointer p4]) _ := ⟨s4, x4, p4, n4, rfl, H4.out⟩
  go_wp2
  exact bodyPost_ret (v := .agg #[.bool s4, .int .u64 x4, .pointer p4]) (by simp [results, Try.results28, go_sem, g1, g2, g3]) rfl ⟨below3 k2 (by omega) _ _ _, _, rfl, (Z4.store t2.odd (grown3 _ _ _ _ _ _ _ _)).cast (by simp [Int.gcd])⟩
theorem den_any (v : Value) (n : Int) (d : Nat) (w : World) (h : Rr w v n d) : Calls Try.prog 73 #[v] w (PZ (d : Int) w) := by
  obtain ⟨s, x, p, y, q, rfl⟩ := h.agg
  have H := Lib.hid h
  clear h
  go_enter Try.func73, Try.ntmps73
  go_wp2_with fail
  refine (under_any _ _ _ _ (H.out.keep (bl2 _ _ _) (Nat.le_refl _))).mono ?_
  rintro e w1 ⟨hb1, v1, rfl, h1⟩
  have t1 : Rz (w.heap.size + 1) w1 := Rz.keep (rz_new _ (by simp)) hb1 (by simp <;> omega)
  have k1 := Below.thru (bl2 w _ _) (by simp <;> omega) hb1
  have z1 : w.heap.size + 2 ≤ w1.heap.size := Nat.le_trans (by simp) hb1.size
  go_wp2_with fail
  refine (signed_any v1 _ false w1 h1).mono ?_
  rintro e w2 ⟨hb2, v2, rfl, h2⟩
  have t2 := t1.keep hb2 (by omega)
  have k2 := Below.thru k1 k1.size hb2
  obtain ⟨s4, x4, p4, n4, rfl, h4⟩ := h2
  have H4 := Lib.hid h4
  clear h4 hb1 t1 hb2
  obtain ⟨_, _, _, m1, m2, m3, m4, m5, m6⟩ := t2.cells
  obtain ⟨g1, g2, g3⟩ := three_cells m1 m2 m3 (.bool s4) (.int .u64 x4) (.pointer p4)
  have Z4 : Zr w2 (.agg #[.bool s4, .int .u64 x4, .pointer p4]) _ := ⟨s4, x4, p4, n4, rfl, H4.out⟩
  go_wp2
  exact bodyPost_ret (v := .agg #[.bool s4, .int .u64 x4, .pointer p4]) (by simp [results, Try.results73, go_sem, g1, g2, g3]) rfl ⟨below3 k2 (by omega) _ _ _, _, rfl, (Z4.store t2.odd (grown3 _ _ _ _ _ _ _ _)).cast (by simp)⟩
theorem whole_any (v : Value) (z : Int) (w : World) (h : Zr w v z) : Calls Try.prog 65 #[v] w (PR z 1 w) := by
  have h' := h
  obtain ⟨s, x, p, n, rfl, _⟩ := h'
  have H := Lib.hid h
  clear h
  go_enter Try.func65, Try.ntmps65
  go_wp2
  exact bodyPost_ret (v := .agg #[.bool s, .int .u64 x, .pointer p, .int .u64 0, .pointer none]) (by simp [results, Try.results65, go_sem]) rfl ⟨bl2 _ _ _, _, rfl, s, x, p, 0, none, rfl, H.out.keep (bl2 _ _ _) (Nat.le_refl _), Dg.of_small _ Wd.zero, by omega, by simp⟩
end Go.Proofs.Ytjjomjjgoceklaa
