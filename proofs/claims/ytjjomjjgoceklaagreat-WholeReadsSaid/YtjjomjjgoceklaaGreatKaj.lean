import Derived.Test.YtjjomjjgoceklaaGreatKai
import Derived.Laws.IdiomStrings
import Derived.WalkSpells
namespace Go.Proofs.YtjjomjjgoceklaaGreat
set_option maxRecDepth 100000
open Go.RowKit

theorem divide_any (va vd : Value) (y z : Int) (w : World) (ha : Zr w va y) (hb : Zr w vd z) (hz : z ≠ 0) (hov : OverC y.natAbs z.natAbs) (lq : Sz y.natAbs) (lz : Sz z.natAbs) : Calls Tryz.prog 106 #[va, vd] w (PZ2 (y / z) (y % z) w) := by
  obtain ⟨sa, xa, pa, rfl, hda, ha1, ha2⟩ := ha.dg
  obtain ⟨sb, xb, pb, rfl, hdb, hb1, hb2⟩ := hb.dg
  cases sa with
  | false => exact divide_pos sb xa xb pa pb y z w hda hdb hov (divmod_pos y z (ha2 rfl) false sb rfl hz hb1 hb2)
  | true =>
    by_cases hr : y.natAbs % z.natAbs = 0
    · exact divide_neg0 sb xa xb pa pb y z w hda hdb hov hr (divmod_neg0 y z (ha1 rfl) sb hz hb1 hb2 hr)
    · exact divide_neg sb xa xb pa pb y z w hda hdb hov hr (lq.le (Nat.div_le_self _ _)) lz (Nat.le_of_lt (Nat.mod_lt _ (by omega))) (divmod_neg y z (ha1 rfl) sb hz hb1 hb2 hr)

theorem Rz.self {T : Nat} {w : World} (h : Rz T w) (s : Bool) (x : Int) (p : Option Addr) : Rz T (st3 w T (.bool s) (.int .u64 x) (.pointer p)) := by
  obtain ⟨s', x', p', h⟩ := h
  refine ⟨s, x, p, ?_⟩
  simp [World.setCell, Array.getElem?_modify, h]
/-- the three results of Quotient -/
def PQ (x y : Int) (er : Int) (w : World) (e : Ending) (w' : World) : Prop := Below w.heap.size w w' ∧ ∃ u v, e = .returned (.tuple #[u, v, .int .i64 er]) ∧ Zr w' u x ∧ Zr w' v y
theorem Zr.zero (w : World) : Zr w (.agg #[.bool false, .int .u64 0, .pointer none]) 0 := ⟨false, 0, none, 0, rfl, Dg.of_small _ Wd.zero, by simp, by simp⟩
theorem drew_cell (w : World) (a : Addr) : w.drew.cell? a = w.cell? a := rfl
set_option maxHeartbeats 400000 in
theorem quotient_any (va vd : Value) (y z : Int) (w : World) (ha : Zr w va y) (hb : Zr w vd z) (hz : z ≠ 0) (hov : OverC y.natAbs z.natAbs) (lq : Sz y.natAbs) (lz : Sz z.natAbs) : Calls Tryz.prog 82 #[va, vd] w (PQ (y / z) (y % z) 0 w) := by
  have HA' := Lib.hid ha; have HB' := Lib.hid hb
  obtain ⟨sa, xa, pa, rfl, hda, ha1, ha2⟩ := ha.dg
  obtain ⟨sb, xb, pb, rfl, hdb, hb1, hb2⟩ := hb.dg
  have HB := Lib.hid hdb
  have hz' : z.natAbs ≠ 0 := by omega
  have HZ := Lib.hid hz'
  have HZ2 := Lib.hid hz
  have HO := Lib.hid hov
  clear ha hb hda hdb ha1 ha2 hb1 hb2 hz hz' hov
  go_enter Tryz.func82, Tryz.ntmps82
  go_wp2_with (go_at_call 89; refine (isZero_no _ (HB.out.keep (B := w.heap.size) (Below.thru (bl3 _ _ _ _) (by simp <;> omega) (bl1 _ _)) (Nat.le_refl _)) HZ.out).mono ?_; rintro e w1 ⟨rfl, c1, t1, rfl⟩)
  have k0 : Below w.heap.size w _ := Below.thru (bl3 w (.cells #[.bool sa, .int .u64 xa, .pointer pa] 28) (.cells #[.bool sb, .int .u64 xb, .pointer pb] 28) (.cells #[.bool false, .int .u64 0, .pointer none] 28)) (by simp <;> omega) (bl3 _ (.cells #[.bool false, .int .u64 0, .pointer none] 28) (.cells c1 t1) (.cells c1 t1))
  refine (divide_any _ _ y z _ (HA'.out.keep k0 (Nat.le_refl _)) (HB'.out.keep k0 (Nat.le_refl _)) HZ2.out HO.out lq lz).mono ?_
  rintro e w3 ⟨hb3, u, v, rfl, hu, hv⟩
  have k3 := Below.thru k0 k0.size hb3
  have z3 : w.heap.size + 6 ≤ w3.heap.size := Nat.le_trans (by simp) hb3.size
  have t3 : Rz (w.heap.size + 1 + 1) w3 := Rz.keep ((((rz_new _ (by simp)).alloc _).alloc _).alloc _) hb3 (by simp <;> omega)
  have u3 : Rz (w.heap.size + 1 + 1 + 1) w3 := Rz.keep (((rz_new _ (by simp)).alloc _).alloc _) hb3 (by simp <;> omega)
  clear hb3 k0
  obtain ⟨s4, x4, p4, n4, rfl, h4⟩ := hu
  obtain ⟨s5, x5, p5, n5, rfl, h5⟩ := hv
  obtain ⟨sq, xq', pq', m1, m2, m3, m4, m5, m6⟩ := t3.cells
  have gr1 : w3.grownBy (st3 w3 (w.heap.size + 1 + 1) (.bool s4) (.int .u64 x4) (.pointer p4)) (some (w.heap.size + 1 + 1)) := grown3 _ _ _ _ _ _ _ _
  have u4 := u3.other gr1 (by omega)
  obtain ⟨so, xo, po, o1, o2, o3, o4, o5, o6⟩ := u4.cells
  obtain ⟨g1, g2, g3⟩ := three_cells m1 m2 m3 (.bool s4) (.int .u64 x4) (.pointer p4)
  obtain ⟨i1, i2, i3⟩ := three_cells o1 o2 o3 (.bool s5) (.int .u64 x5) (.pointer p5)
  have e1 := (cell_st3 (st3 w3 (w.heap.size + 1 + 1) (.bool s4) (.int .u64 x4) (.pointer p4)) (T := w.heap.size + 1 + 1 + 1) (b := w.heap.size + 1 + 1) (by omega) 0 (.bool s5) (.int .u64 x5) (.pointer p5)).trans g1
  have e2 := (cell_st3 (st3 w3 (w.heap.size + 1 + 1) (.bool s4) (.int .u64 x4) (.pointer p4)) (T := w.heap.size + 1 + 1 + 1) (b := w.heap.size + 1 + 1) (by omega) 1 (.bool s5) (.int .u64 x5) (.pointer p5)).trans g2
  have e3 := (cell_st3 (st3 w3 (w.heap.size + 1 + 1) (.bool s4) (.int .u64 x4) (.pointer p4)) (T := w.heap.size + 1 + 1 + 1) (b := w.heap.size + 1 + 1) (by omega) 2 (.bool s5) (.int .u64 x5) (.pointer p5)).trans g3
  have Z4 : Zr w3 (.agg #[.bool s4, .int .u64 x4, .pointer p4]) _ := ⟨s4, x4, p4, n4, rfl, h4⟩
  have Z5 : Zr w3 (.agg #[.bool s5, .int .u64 x5, .pointer p5]) _ := ⟨s5, x5, p5, n5, rfl, h5⟩
  have gr2 : (st3 w3 (w.heap.size + 1 + 1) (.bool s4) (.int .u64 x4) (.pointer p4)).grownBy (st3 (st3 w3 (w.heap.size + 1 + 1) (.bool s4) (.int .u64 x4) (.pointer p4)) (w.heap.size + 1 + 1 + 1) (.bool s5) (.int .u64 x5) (.pointer p5)) (some (w.heap.size + 1 + 1 + 1)) := grown3 _ _ _ _ _ _ _ _
  have Y4 := (Z4.store t3.odd gr1).store u4.odd gr2
  have Y5 := (Z5.store t3.odd gr1).store u4.odd gr2
  have kk := below3 (below3 k3 (by omega) (T := w.heap.size + 1 + 1) (.bool s4) (.int .u64 x4) (.pointer p4)) (T := w.heap.size + 1 + 1 + 1) (by omega) (.bool s5) (.int .u64 x5) (.pointer p5)
  have tW := (t3.self s4 x4 p4).other gr2 (by omega)
  have uW := u4.self s5 x5 p5
  have zW : w.heap.size + 6 ≤ (st3 (st3 w3 (w.heap.size + 1 + 1) (.bool s4) (.int .u64 x4) (.pointer p4)) (w.heap.size + 1 + 1 + 1) (.bool s5) (.int .u64 x5) (.pointer p5)).heap.size := Nat.le_trans z3 (Nat.le_trans gr1.size gr2.size)
  have HZW := Lib.hid zW; have HTW := Lib.hid tW; have HUW := Lib.hid uW
  clear tW uW zW
  have HY4 := Lib.hid Y4; have HY5 := Lib.hid Y5; have HK := Lib.hid kk
  clear t3 u3 u4 gr1 gr2 Z4 Z5 Y4 Y5 kk
  go_wp2
  unfold st3 at e1 e2 e3 i1 i2 i3 HY4 HY5 HK HTW HUW HZW
  generalize hW : World.setCell _ ⟨w.heap.size + 1 + 1 + 1, 2, none⟩ (.pointer p5) = W at *
  clear hW g1 g2 g3 m1 m2 m3 m4 m5 m6 o1 o2 o3 o4 o5 o6
  have tW := HTW.out; have uW := HUW.out; have zW := HZW.out
  obtain ⟨_, _, _, m1, m2, m3, m4, m5, m6⟩ := tW.cells
  obtain ⟨_, _, _, o1, o2, o3, o4, o5, o6⟩ := uW.cells
  have gr1 : W.grownBy (st3 W (w.heap.size + 1 + 1) (.bool s4) (.int .u64 x4) (.pointer p4)) (some (w.heap.size + 1 + 1)) := grown3 _ _ _ _ _ _ _ _
  have gr2 : (st3 W (w.heap.size + 1 + 1) (.bool s4) (.int .u64 x4) (.pointer p4)).grownBy (st3 (st3 W (w.heap.size + 1 + 1) (.bool s4) (.int .u64 x4) (.pointer p4)) (w.heap.size + 1 + 1 + 1) (.bool s5) (.int .u64 x5) (.pointer p5)) (some (w.heap.size + 1 + 1 + 1)) := grown3 _ _ _ _ _ _ _ _
  have tD : Rz (w.heap.size + 1 + 1) W := tW
  have uD := (show Rz (w.heap.size + 1 + 1 + 1) W from uW).other gr1 (by omega)
  have Y4 := (HY4.out.store tD.odd gr1).store uD.odd gr2
  have Y5 := (HY5.out.store tD.odd gr1).store uD.odd gr2
  have kk := below3 (below3 HK.out (by omega) (T := w.heap.size + 1 + 1) (.bool s4) (.int .u64 x4) (.pointer p4)) (T := w.heap.size + 1 + 1 + 1) (by omega) (.bool s5) (.int .u64 x5) (.pointer p5)
  obtain ⟨_, _, _, o1', o2', o3', o4', o5', o6'⟩ := uD.cells
  obtain ⟨g1, g2, g3⟩ := three_cells (show W.cell? _ = _ from m1) m2 m3 (.bool s4) (.int .u64 x4) (.pointer p4)
  obtain ⟨j1, j2, j3⟩ := three_cells o1' o2' o3' (.bool s5) (.int .u64 x5) (.pointer p5)
  have n1 := (cell_st3 (st3 W (w.heap.size + 1 + 1) (.bool s4) (.int .u64 x4) (.pointer p4)) (T := w.heap.size + 1 + 1 + 1) (b := w.heap.size + 1 + 1) (by omega) 0 (.bool s5) (.int .u64 x5) (.pointer p5)).trans g1
  have n2 := (cell_st3 (st3 W (w.heap.size + 1 + 1) (.bool s4) (.int .u64 x4) (.pointer p4)) (T := w.heap.size + 1 + 1 + 1) (b := w.heap.size + 1 + 1) (by omega) 1 (.bool s5) (.int .u64 x5) (.pointer p5)).trans g2
  have n3 := (cell_st3 (st3 W (w.heap.size + 1 + 1) (.bool s4) (.int .u64 x4) (.pointer p4)) (T := w.heap.size + 1 + 1 + 1) (b := w.heap.size + 1 + 1) (by omega) 2 (.bool s5) (.int .u64 x5) (.pointer p5)).trans g3
  have Y4 := Y4.keep (Below.refl _ _).drew (Nat.le_refl _)
  have Y5 := Y5.keep (Below.refl _ _).drew (Nat.le_refl _)
  have kk := kk.drew
  have N1 := Lib.hid n1; have N2 := Lib.hid n2; have N3 := Lib.hid n3; have J1 := Lib.hid j1; have J2 := Lib.hid j2; have J3 := Lib.hid j3
  have HY4 := Lib.hid Y4; have HY5 := Lib.hid Y5; have HK := Lib.hid kk
  clear tD gr1 gr2 tW Y4 Y5 kk m1 m2 m3 o1 o2 o3 n1 n2 n3 g1 g2 g3 j1 j2 j3 uD uW HTW HUW HZW o1' o2' o3' o4' o5' o6'
  go_region
  go_wp2
  have HFIN := Lib.hid (show PQ (y / z) (y % z) 0 w (.returned (.tuple #[.agg #[.bool s4, .int .u64 x4, .pointer p4], .agg #[.bool s5, .int .u64 x5, .pointer p5], .int .i64 0])) _ from ⟨HK.out, _, _, rfl, HY4.out, HY5.out⟩)
  clear HY4 HY5 HK
  refine bodyPost_ret (v := .tuple #[.agg #[.bool s4, .int .u64 x4, .pointer p4], .agg #[.bool s5, .int .u64 x5, .pointer p5], .int .i64 0]) ?_ rfl ?_
  · trace "r"
    have N1 := (drew_cell _ _).trans N1.out; have N2 := (drew_cell _ _).trans N2.out; have N3 := (drew_cell _ _).trans N3.out; have J1 := (drew_cell _ _).trans J1.out; have J2 := (drew_cell _ _).trans J2.out; have J3 := (drew_cell _ _).trans J3.out
    simp [results, Tryz.results82, go_sem, N1, N2, N3, J1, J2, J3]
  · trace "s"
    exact HFIN.out

theorem gcd_any (va vb : Value) (y z : Int) (w : World) (ha : Zr w va y) (hb : Zr w vb z) (hc : CommonC y.natAbs z.natAbs) : Calls Tryz.prog 76 #[va, vb] w (PZ (Int.gcd y z : Int) w) := by
  obtain ⟨sa, xa, pa, rfl, hda, _, _⟩ := ha.dg
  obtain ⟨sb, xb, pb, rfl, hdb, _, _⟩ := hb.dg
  have HA := Lib.hid hda; have HB := Lib.hid hdb; have HC := Lib.hid hc
  clear ha hb hda hdb hc
  go_enter Tryz.func76, Tryz.ntmps76
  go_wp2_with fail
  refine (HC.out _ _ _ (HA.out.keep (bl3 _ _ _ _) (Nat.le_refl _)) (HB.out.keep (bl3 _ _ _ _) (Nat.le_refl _))).mono ?_
  rintro e w1 ⟨hb1, v1, rfl, h1⟩
  have t1 : Rz (w.heap.size + 1 + 1) w1 := Rz.keep (rz_new _ (by simp)) hb1 (by simp <;> omega)
  have k1 := Below.thru (bl3 w _ _ _) (by simp <;> omega) hb1
  have z1 : w.heap.size + 3 ≤ w1.heap.size := Nat.le_trans (by simp) hb1.size
  go_wp2_with fail
  refine (signed_any v1 _ false w1 h1).mono ?_
  rintro e w2 ⟨hb2, v2, rfl, h2⟩
  have t2 := t1.keep hb2 (by omega)
  have k2 := Below.thru k1 k1.size hb2
  obtain ⟨s4, x4, p4, n4, rfl, h4⟩ := h2
  have H4 := Lib.hid h4
  clear h4 hb1 t1 hb2
  obtain ⟨_, _, _, m1, m2, m3, m4, m5, m6⟩ := t2.cells
  obtain ⟨g1, g2, g3⟩ := three_cells m1 m2 m3 (.bool s4) (.int .u64 x4) (.pointer p4)
  have Z4 : Zr w2 (.agg #[.bool s4, .int .u64 x4, .pointer p4]) _ := ⟨s4, x4, p4, n4, rfl, H4.out⟩
  go_wp2
  exact bodyPost_ret (v := .agg #[.bool s4, .int .u64 x4, .pointer p4]) (by simp [results, Tryz.results76, go_sem, g1, g2, g3]) rfl ⟨below3 k2 (by omega) _ _ _, _, rfl, (Z4.store t2.odd (grown3 _ _ _ _ _ _ _ _)).cast (by simp [Int.gcd])⟩
theorem den_any (v : Value) (n : Int) (d : Nat) (w : World) (h : Rr w v n d) : Calls Tryz.prog 32 #[v] w (PZ (d : Int) w) := by
  obtain ⟨s, x, p, y, q, rfl⟩ := h.agg
  have H := Lib.hid h
  clear h
  go_enter Tryz.func32, Tryz.ntmps32
  go_wp2_with fail
  refine (under_any _ _ _ _ (H.out.keep (bl2 _ _ _) (Nat.le_refl _))).mono ?_
  rintro e w1 ⟨hb1, v1, rfl, h1⟩
  have t1 : Rz (w.heap.size + 1) w1 := Rz.keep (rz_new _ (by simp)) hb1 (by simp <;> omega)
  have k1 := Below.thru (bl2 w _ _) (by simp <;> omega) hb1
  have z1 : w.heap.size + 2 ≤ w1.heap.size := Nat.le_trans (by simp) hb1.size
  go_wp2_with fail
  refine (signed_any v1 _ false w1 h1).mono ?_
  rintro e w2 ⟨hb2, v2, rfl, h2⟩
  have t2 := t1.keep hb2 (by omega)
  have k2 := Below.thru k1 k1.size hb2
  obtain ⟨s4, x4, p4, n4, rfl, h4⟩ := h2
  have H4 := Lib.hid h4
  clear h4 hb1 t1 hb2
  obtain ⟨_, _, _, m1, m2, m3, m4, m5, m6⟩ := t2.cells
  obtain ⟨g1, g2, g3⟩ := three_cells m1 m2 m3 (.bool s4) (.int .u64 x4) (.pointer p4)
  have Z4 : Zr w2 (.agg #[.bool s4, .int .u64 x4, .pointer p4]) _ := ⟨s4, x4, p4, n4, rfl, H4.out⟩
  go_wp2
  exact bodyPost_ret (v := .agg #[.bool s4, .int .u64 x4, .pointer p4]) (by simp [results, Tryz.results32, go_sem, g1, g2, g3]) rfl ⟨below3 k2 (by omega) _ _ _, _, rfl, (Z4.store t2.odd (grown3 _ _ _ _ _ _ _ _)).cast (by simp)⟩
theorem whole_any (v : Value) (z : Int) (w : World) (h : Zr w v z) : Calls Tryz.prog 24 #[v] w (PR z 1 w) := by
  have h' := h
  obtain ⟨s, x, p, n, rfl, _⟩ := h'
  have H := Lib.hid h
  clear h
  go_enter Tryz.func24, Tryz.ntmps24
  go_wp2
  exact bodyPost_ret (v := .agg #[.bool s, .int .u64 x, .pointer p, .int .u64 0, .pointer none]) (by simp [results, Tryz.results24, go_sem]) rfl ⟨bl2 _ _ _, _, rfl, s, x, p, 0, none, rfl, H.out.keep (bl2 _ _ _) (Nat.le_refl _), Dg.of_small _ Wd.zero, by omega, by simp⟩
end Go.Proofs.YtjjomjjgoceklaaGreat
namespace Go.Proofs.YtjjomjjgoceklaaGreat
set_option maxRecDepth 100000
open Go.RowKit

/-- byte i of a text -/
def byteAt (s : ByteArray) (i : Nat) : Nat := (s.data.toList.getD i 0).toNat
theorem bytesRow_get (s : ByteArray) (c i : Nat) (h : i < s.size) : (bytesRow s c)[i]? = some (.int .u8 ((byteAt s i : Nat) : Int)) := by
  have h' : i < s.data.size := h
  unfold bytesRow byteAt
  rw [Array.getElem?_append_left (by simpa using h')]
  simp [List.getD_eq_getElem?_getD, Array.getElem?_eq_getElem h']
theorem bytes_conv (s : ByteArray) (w : World) : ∃ (c : Nat) (W : World), (convert 9 134 (.string s)).run Tryz.prog w = .ok (.slice (some ⟨w.heap.size, 0, none⟩) s.size c) W ∧ Below w.heap.size w W ∧ w.heap.size < W.heap.size ∧
    ∀ i, i < s.size → W.cell? ⟨w.heap.size, i, none⟩ = some (.int .u8 ((byteAt s i : Nat) : Int)) := by
  refine ⟨_, _, run_bytes_of_string w 9 134 5 s Tryz.underlying9 Tryz.underlying134 Tryz.underlying5, ?_, ?_, ?_⟩
  · exact (Below.refl _ _).drew.alloc (Nat.le_refl _) _
  · show w.heap.size < (w.drew.alloc _).heap.size
    rw [World.size_alloc]
    exact Nat.lt_succ_self _
  · intro i hi
    have h := Go.Deep.blk_alloc_new w.drew (.cells (bytesRow s (grownCap w s.size 0 5)) 5 ((bytesRow s (grownCap w s.size 0 5)).size, (bytesRow s (grownCap w s.size 0 5)).size + 1))
    have h' : (w.drew.alloc (.cells (bytesRow s (grownCap w s.size 0 5)) 5 ((bytesRow s (grownCap w s.size 0 5)).size, (bytesRow s (grownCap w s.size 0 5)).size + 1))).heap[w.heap.size]? = _ := h
    unfold World.cell?
    dsimp only
    rw [h']
    exact bytesRow_get s _ i hi

/-- a text of decimal digits, of which the first one is 0 only if it is the only one -/
def NatP (s : ByteArray) : Prop := (∀ j, j < s.size → 48 ≤ byteAt s j ∧ byteAt s j ≤ 57) ∧ (s.toList = [48] ∨ (0 < s.size ∧ byteAt s 0 ≠ 48))
theorem toList_nil {s : ByteArray} : s.toList = [] ↔ s.size = 0 := by
  rw [ByteArray.toList_eq]; show s.data.toList = [] ↔ s.data.size = 0; rw [← Array.length_toList]; exact List.length_eq_zero_iff.symm
theorem byteAt_get {s : ByteArray} {i : Nat} (h : i < s.size) : byteAt s i = (s[i]).toNat := by
  have h' : i < s.data.size := h
  unfold byteAt
  simp [List.getD_eq_getElem?_getD, Array.getElem?_eq_getElem h']
  rfl
def PB (b : Bool) (w : World) (e : Ending) (w' : World) : Prop := Below w.heap.size w w' ∧ e = .returned (.bool b)

set_option maxRecDepth 100000 in
theorem isNatural_any (s : ByteArray) (w : World) (hs : s.size ≤ 2000) (b : Bool) (hb : b = true ↔ NatP s) : Calls Tryz.prog 86 #[.string s] w (PB b w) := by
  obtain ⟨c, W, hconv, hbel, hsz, hcell⟩ := bytes_conv s w
  have HC := Lib.hid hcell
  have HB := Lib.hid hb
  clear hcell hb
  go_enter Tryz.func86, Tryz.ntmps86
  go_wp2
  clear hconv
  go_loop [8] (fun i => ∃ k : Nat, k ≤ s.size ∧ i = .int .i64 k ∧ Hid (∀ j, j < k → 48 ≤ byteAt s j ∧ byteAt s j ≤ 57)) (fun i => s.size - (intOf i).toNat)
  case atStart => exact ⟨0, Nat.zero_le _, rfl, fun j hj => absurd hj (Nat.not_lt_zero _)⟩
  case round =>
    obtain ⟨k, hk, rfl, HD⟩ := hrel
    by_cases hlt : k < s.size
    · have hc := HC.out k hlt
      generalize hx : byteAt s k = x at hc
      have HX := Lib.hid hx
      clear hx
      rcases Nat.lt_or_ge x 48 with h1 | h1
      · have g1 : decide ((x : Int) < 48) = true := by simp; omega
        go_wp2
        go_ret
        refine ⟨hbel, ?_⟩
        have : b = false := by
          rw [Bool.eq_false_iff]; intro e
          have := (HB.out.1 e).1 k hlt
          rw [HX.out] at this; omega
        rw [this]
        rfl
      · rcases Nat.lt_or_ge 57 x with h2 | h2
        · have g1 : decide ((x : Int) < 48) = false := by simp; omega
          have g2 : decide (57 < (x : Int)) = true := by simp; omega
          go_wp2
          go_ret
          refine ⟨hbel, ?_⟩
          have : b = false := by
            rw [Bool.eq_false_iff]; intro e
            have := (HB.out.1 e).1 k hlt
            rw [HX.out] at this; omega
          rw [this]
          rfl
        · have g1 : decide ((x : Int) < 48) = false := by simp; omega
          have g2 : decide (57 < (x : Int)) = false := by simp; omega
          go_wp2
          go_round
          case rel => exact ⟨k + 1, by omega, by go_num, fun j hj => by
            rcases Nat.lt_or_ge j k with h3 | h3
            · exact HD.out j h3
            · obtain rfl : j = k := by omega
              rw [HX.out]; omega⟩
          case measure => simp [intOf]; omega
    · obtain rfl : k = s.size := by omega
      by_cases e1 : s.toList = [48]
      · have g1 : (s.toList == [48]) = true := by simp [e1]
        have HE := Lib.hid e1
        clear e1
        go_wp2
        go_ret
        exact ⟨hbel, by rw [HB.out.2 ⟨HD.out, .inl HE.out⟩]; rfl⟩
      · have g1 : (s.toList == [48]) = false := by simp [e1]
        rcases Nat.eq_zero_or_pos s.size with h0 | h0
        · have e2 : s.toList = [] := toList_nil.2 h0
          have HE := Lib.hid e1; have H0 := Lib.hid h0
          clear e1 h0
          go_wp2
          go_ret
          refine ⟨hbel, ?_⟩
          have : b = false := by
            rw [Bool.eq_false_iff]; intro e
            rcases (HB.out.1 e).2 with h | ⟨h, _⟩
            · exact HE.out h
            · have := H0.out; omega
          rw [this]; rfl
        · have e2 : ¬ s.toList = [] := fun e => by have := toList_nil.1 e; omega
          have e3 : s.toList.isEmpty = false := by simp [e2]
          have hx := byteAt_get h0
          by_cases hz : byteAt s 0 = 48
          · have g2 : (((s[0]).toNat : Int) != 48) = false := by rw [← hx, hz]; rfl
            have HE := Lib.hid e1; have HX := Lib.hid hz
            clear e1 hx hz
            go_wp2
            go_ret
            refine ⟨hbel, ?_⟩
            have : b = false := by
              rw [Bool.eq_false_iff]; intro e
              rcases (HB.out.1 e).2 with h | ⟨_, h⟩
              · exact HE.out h
              · exact h HX.out
            rw [this]; rfl
          · have g2 : (((s[0]).toNat : Int) != 48) = true := by rw [← hx, bne_iff_ne]; omega
            have HE := Lib.hid e1; have HX := Lib.hid hz
            have hT := HB.out.2 ⟨HD.out, .inr ⟨h0, hz⟩⟩
            have HT := Lib.hid hT
            clear e1 hx hz hT
            go_wp2
            go_ret
            exact ⟨hbel, by rw [HT.out]; rfl⟩
end Go.Proofs.YtjjomjjgoceklaaGreat
namespace Go.Proofs.YtjjomjjgoceklaaGreat
set_option maxRecDepth 100000
open Go.RowKit

/-- the number of the first n decimal digits -/
def dec (s : ByteArray) : Nat → Nat
  | 0 => 0
  | n + 1 => 10 * dec s n + (byteAt s n - 48)
/-- t is s from k on -/
def Rest (s t : ByteArray) (k : Nat) : Prop := t.size + k = s.size ∧ ∀ j, j < t.size → byteAt t j = byteAt s (k + j)

theorem extract_size (t : ByteArray) (a b : Nat) (hb : b ≤ t.size) : (t.extract a b).size = b - a := by
  rw [ByteArray.size_extract]; omega
theorem byteAt_extract (t : ByteArray) (a b j : Nat) (hb : b ≤ t.size) (hj : a + j < b) : byteAt (t.extract a b) j = byteAt t (a + j) := by
  have h1 : j < (t.extract a b).size := by rw [extract_size t a b hb]; omega
  have h2 : a + j < t.size := by omega
  rw [byteAt_get h1, byteAt_get h2, ByteArray.getElem_extract]
theorem dec_lt (s : ByteArray) (n : Nat) (hd : ∀ j, j < n → 48 ≤ byteAt s j ∧ byteAt s j ≤ 57) : dec s n < 10 ^ n := by
  induction n with
  | zero => simp [dec]
  | succ n ih =>
    have h1 := ih (fun j hj => hd j (by omega))
    have h2 := hd n (by omega)
    simp only [dec, Nat.pow_succ]
    omega
theorem dec_add (s t : ByteArray) (k : Nat) (hR : Rest s t k) (n : Nat) (hn : n ≤ t.size) : dec s (k + n) = 10 ^ n * dec s k + dec t n := by
  induction n with
  | zero => simp [dec]
  | succ n ih =>
    have h1 := ih (by omega)
    have h2 := hR.2 n (by omega)
    rw [← Nat.add_assoc]
    simp only [dec, h1, h2, Nat.pow_succ, Nat.mul_add]
    rw [Nat.mul_comm (10 ^ n) 10, Nat.mul_assoc]
    omega
theorem pow10_wd (n : Nat) (h : n ≤ 19) : 10 ^ n ≤ 10000000000000000000 := by
  have : 10 ^ n ≤ 10 ^ 19 := Nat.pow_le_pow_right (by omega) h
  omega
theorem dig_wrap (g x : Nat) (hg : g ≤ 1000000000000000000) (h1 : 48 ≤ x) (h2 : x ≤ 57) : IntKind.u64.wrap (IntKind.u64.wrap ((g : Int) * 10) + ((x : Int) - 48)) = ((10 * g + (x - 48) : Nat) : Int) := by
  rw [IntKind.wrap_u64, IntKind.wrap_u64]; omega
theorem ten_wrap (u : Nat) (hu : u ≤ 1000000000000000000) : IntKind.u64.wrap ((u : Int) * 10) = ((10 * u : Nat) : Int) := by
  rw [IntKind.wrap_u64]; omega
theorem Rest.next {s t : ByteArray} {k n : Nat} (h : Rest s t k) (hn : n ≤ t.size) : Rest s (t.extract n t.size) (k + n) := by
  have h1 := extract_size t n t.size (Nat.le_refl _)
  refine ⟨by have := h.1; omega, fun j hj => ?_⟩
  rw [h1] at hj
  rw [byteAt_extract t n t.size j (Nat.le_refl _) (by omega), h.2 (n + j) (by omega), Nat.add_assoc]
theorem dec_len {ws : List Nat} {s : ByteArray} {k : Nat} (hn : Nrm ws) (hv : val ws = dec s k) (hd : ∀ j, j < k → 48 ≤ byteAt s j ∧ byteAt s j ≤ 57) : ws.length ≤ k := by
  refine nrm_len hn hv (Nat.lt_of_lt_of_le (dec_lt s k hd) (Nat.pow_le_pow_left ?_ k))
  unfold WB; omega
def strLen : Value → Nat | .string b => b.size | _ => 0
set_option maxHeartbeats 800000 in
set_option maxRecDepth 100000 in
theorem readDigits_any (s : ByteArray) (w : World) (hs : s.size ≤ 1000) (hd : ∀ j, j < s.size → 48 ≤ byteAt s j ∧ byteAt s j ≤ 57) : Calls Tryz.prog 88 #[.string s] w (PDg (dec s s.size) w) := by
  have HDg := Lib.hid hd
  clear hd
  go_enter Tryz.func88, Tryz.ntmps88
  go_wp2
  go_loopw [0, 3] (fun t v wr => ∃ (k : Nat) (tt : ByteArray) (ws : List Nat), k ≤ s.size ∧ t = .string tt ∧ Rest s tt k ∧ Below w.heap.size w wr ∧ w.heap.size < wr.heap.size ∧ Rs w.heap.size wr ∧ Sl wr v ws ∧ Nrm ws ∧ Hid (val ws = dec s k)) (fun t _ _ => strLen t)
  case atStart => exact ⟨0, s, [], Nat.zero_le _, rfl, ⟨rfl, fun j _ => by rw [Nat.zero_add]⟩, bl1 _ _, by simp, rs_new _ rfl, ⟨Wds.nil, by simp, .inl ⟨rfl, rfl⟩⟩, by simp [Nrm], rfl⟩
  case round =>
    obtain ⟨k, t, ws, hk, rfl, hR, hbel, hlt0, hrs, hsl, hnrm, HV⟩ := hrel
    obtain ⟨p, cap, rfl, _, _⟩ := hsl.opened
    have hts : t.size ≤ 1000 := by have := hR.1; omega
    by_cases hlt : 0 < t.size
    · obtain ⟨n, hn⟩ : ∃ n : Nat, n = (t.size - 1) % 19 + 1 := ⟨_, rfl⟩
      have hn1 : n ≤ 19 := by omega
      have hn2 : n ≤ t.size := by have := Nat.mod_le (t.size - 1) 19; omega
      have e0 : ((t.size : Int) - 1) % 19 + 1 = (n : Int) := by omega
      have HN := Lib.hid hn
      have HSL := Lib.hid hsl
      obtain ⟨c, W, hconv, hb1, hsz, hcell⟩ := bytes_conv (t.extract 0 n) wr
      have hes := extract_size t 0 n hn2
      rw [Nat.sub_zero] at hes
      rw [hes] at hconv hcell
      have hdt : ∀ j, j < t.size → 48 ≤ byteAt t j ∧ byteAt t j ≤ 57 := fun j hj => by
        rw [hR.2 j hj]; exact HDg.out _ (by have := hR.1; omega)
      have HDT := Lib.hid hdt
      have HC := Lib.hid hcell
      clear hn hsl hcell hdt hes
      go_wp2
      clear hconv
      go_loop [5, 6, 22] (fun g u i => ∃ j gg uu : Nat, j ≤ n ∧ i = .int .i64 j ∧ g = .int .u64 gg ∧ u = .int .u64 uu ∧ Hid (gg = dec t j) ∧ Hid (uu = 10 ^ j)) (fun _ _ i => n - (intOf i).toNat)
      case atStart => exact ⟨0, 0, 1, Nat.zero_le _, rfl, rfl, rfl, rfl, rfl⟩
      case round =>
        obtain ⟨j, gg, uu, hj, rfl, rfl, rfl, HG, HU⟩ := hrel
        by_cases hjn : j < n
        · have hc := HC.out j hjn
          rw [byteAt_extract t 0 n j hn2 (by omega), Nat.zero_add] at hc
          have hx := HDT.out j (by omega)
          generalize hxx : byteAt t j = x at hc hx
          have HX := Lib.hid hxx
          have hx1 : (48 : Int) ≤ (x : Int) := by omega
          have hx2 : (x : Int) ≤ 57 := by omega
          have hg1 : gg < 10 ^ j := by rw [HG.out]; exact dec_lt t j (fun i hi => HDT.out i (by omega))
          have hp := pow10_wd (j + 1) (by omega)
          rw [Nat.pow_succ] at hp
          obtain ⟨g10, hg10⟩ : ∃ g10 : Nat, g10 = 10 * gg + (x - 48) := ⟨_, rfl⟩
          obtain ⟨u10, hu10⟩ : ∃ u10 : Nat, u10 = 10 ^ (j + 1) := ⟨_, rfl⟩
          have hgb : gg ≤ 1000000000000000000 := by omega
          have hub : uu ≤ 1000000000000000000 := by rw [HU.out]; omega
          have HGB := Lib.hid hgb; have HUB := Lib.hid hub
          have HG10 := Lib.hid hg10; have HU10 := Lib.hid hu10
          clear hxx hx hg1 hp hg10 hu10 hgb hub
          go_wp2
          go_round
          case rel => exact ⟨j + 1, g10, u10, by omega, by go_num, by rw [dig_wrap gg x HGB.out (by omega) (by omega), HG10.out], by rw [ten_wrap uu HUB.out, HU10.out, HU.out, Nat.pow_succ, Nat.mul_comm], by show _ = _; rw [HG10.out, HG.out, ← HX.out]; rfl, HU10.out⟩
          case measure => simp [intOf]; omega
        · obtain rfl : j = n := by omega
          have wg : Wd gg := by
            have h1 : gg < 10 ^ j := by rw [HG.out]; exact dec_lt t j (fun i hi => HDT.out i (by omega))
            have h2 := pow10_wd j hn1
            unfold Wd WB; omega
          have wu : Wd uu := by
            have h2 := pow10_wd j hn1
            rw [← HU.out] at h2
            unfold Wd WB; omega
          have hlen : ws.length ≤ 4000 := by
            have := dec_len hnrm HV.out (fun i hi => HDg.out i (by omega))
            omega
          have hslW := HSL.out.keep hb1 (Nat.le_refl _)
          have HSW := Lib.hid hslW
          have HLEN := Lib.hid hlen
          clear hslW hlen hjn
          go_wp2_with fail
          refine (extend_any _ ws uu gg W HSW.out HLEN.out wu wg).mono ?_
          rintro e w2 ⟨l, hl1, hl2, hb2, v2, rfl, hs2⟩
          have k1 := Below.thru hbel hbel.size hb1
          have k2 := Below.thru k1 k1.size hb2
          have r2 := (hrs.keep hb1 hlt0).keep hb2 (Nat.lt_of_lt_of_le hlt0 hb1.size)
          have z2 : w.heap.size < w2.heap.size := Nat.lt_of_lt_of_le hlt0 (Nat.le_trans hb1.size hb2.size)
          have HL2 := Lib.hid hl2
          clear hl2
          have hR2 := hR.next hn2
          have hk2 : k + j ≤ s.size := by have := hR.1; omega
          go_wp2
          go_roundw
          case rel => exact ⟨k + j, t.extract j t.size, norm l, hk2, rfl, hR2, k2, z2, r2, hs2, norm_nrm _, by show _ = _; rw [val_norm, HL2.out, HU.out, HG.out, HV.out, dec_add s t k hR j hn2]⟩
          case measure =>
            simp only [strLen]
            rw [extract_size t j t.size (Nat.le_refl _)]
            have := HN.out
            omega
    · have h0 : t.size = 0 := by omega
      obtain rfl : k = s.size := by have := hR.1; omega
      have HSL := Lib.hid hsl
      have H0 := Lib.hid h0
      clear hsl h0
      go_wp2_with fail
      refine (digitsOf_any _ ws wr HSL.out hnrm).mono ?_
      rintro e w2 ⟨hb2, v2, rfl, hs2⟩
      obtain ⟨x4, p4, rfl⟩ := hs2.agg
      have r2 := hrs.keep hb2 hlt0
      obtain ⟨_, _, m1, m2, m3, m4⟩ := r2.cells
      obtain ⟨n1, n2⟩ := two_cells m1 m2 (.int .u64 x4) (.pointer p4)
      have k2 := Below.thru hbel hbel.size hb2
      go_wp2
      exact bodyPost_ret (v := .agg #[.int .u64 x4, .pointer p4]) (by simp [results, Tryz.results88, go_sem, n1, n2]) rfl ⟨(k2.setCell (by simp) _).setCell (by simp) _, _, rfl, (hs2.store r2.odd (grown2 _ _ _ _ _ _)).cast HV.out⟩
end Go.Proofs.YtjjomjjgoceklaaGreat
namespace Go.Proofs.YtjjomjjgoceklaaGreat
set_option maxRecDepth 100000
open Go.RowKit

theorem nat_yes (s : ByteArray) (w : World) (hs : s.size ≤ 2000) (h : NatP s) : Calls Tryz.prog 86 #[.string s] w (PB true w) := isNatural_any s w hs true (by simp [h])
theorem nat_no (s : ByteArray) (w : World) (hs : s.size ≤ 2000) (h : ¬ NatP s) : Calls Tryz.prog 86 #[.string s] w (PB false w) := isNatural_any s w hs false (by simp [h])
theorem NatP.dig {s : ByteArray} (h : NatP s) : ∀ j, j < s.size → 48 ≤ byteAt s j ∧ byteAt s j ≤ 57 := h.1
/-- readZ of a text without a minus sign -/
def PZe (z : Int) (er : Int) (w : World) (e : Ending) (w' : World) : Prop := Below w.heap.size w w' ∧ ∃ v, e = .returned (.tuple #[v, .int .i64 er]) ∧ Zr w' v z
set_option maxRecDepth 100000 in
theorem readZ_pos (s : ByteArray) (w : World) (hs : s.size ≤ 1000) (h0 : 0 < s.size) (h1 : byteAt s 0 ≠ 45) (hn : NatP s) : Calls Tryz.prog 84 #[.string s] w (PZe (dec s s.size : Int) 0 w) := by
  have g1 : (((s[0]).toNat : Int) == 45) = false := by rw [← byteAt_get h0, beq_eq_false_iff_ne]; omega
  have HN := Lib.hid hn
  clear h1 hn
  go_enter Tryz.func84, Tryz.ntmps84
  go_wp2_with fail
  refine (nat_yes s _ (by omega) HN.out).mono ?_
  rintro e w1 ⟨hb1, rfl⟩
  have t1 : Rz w.heap.size w1 := Rz.keep (rz_new _ rfl) hb1 (by simp)
  have k1 := Below.thru (bl1 w _) (by simp) hb1
  have z1 : w.heap.size + 1 ≤ w1.heap.size := Nat.le_trans (by simp) hb1.size
  go_wp2_with fail
  refine (readDigits_any s w1 hs HN.out.dig).mono ?_
  rintro e w2 ⟨hb2, v2, rfl, h2⟩
  have t2 := t1.keep hb2 (by omega)
  have k2 := Below.thru k1 k1.size hb2
  have z2 : w.heap.size + 1 ≤ w2.heap.size := Nat.le_trans z1 hb2.size
  go_wp2_with fail
  refine (signed_any v2 _ false w2 h2).mono ?_
  rintro e w3 ⟨hb3, v3, rfl, h3⟩
  have t3 := t2.keep hb3 (by omega)
  have k3 := Below.thru k2 k2.size hb3
  obtain ⟨s4, x4, p4, n4, rfl, h4⟩ := h3
  have H4 := Lib.hid h4
  clear h4 hb1 hb2 hb3 t1 t2
  obtain ⟨_, _, _, m1, m2, m3, m4, m5, m6⟩ := t3.cells
  obtain ⟨g1, g2, g3⟩ := three_cells m1 m2 m3 (.bool s4) (.int .u64 x4) (.pointer p4)
  have Z4 : Zr w3 (.agg #[.bool s4, .int .u64 x4, .pointer p4]) _ := ⟨s4, x4, p4, n4, rfl, H4.out⟩
  go_wp2
  exact bodyPost_ret (v := .tuple #[.agg #[.bool s4, .int .u64 x4, .pointer p4], .int .i64 0]) (by simp [results, Tryz.results84, go_sem, g1, g2, g3]) rfl ⟨below3 k3 (Nat.le_refl _) _ _ _, _, rfl, (Z4.store t3.odd (grown3 _ _ _ _ _ _ _ _)).cast (by simp)⟩

/-- strings.Cut at one byte that stands in the text -/
theorem slCut_one (s : ByteArray) (c : UInt8) (i : Nat) (w : World) (hs : s.size ≤ 2000) (hi : Lib.indexByte s.data.toList c = (i : Int)) (hlt : i < s.size) :
    Calls Tryz.prog 120 #[.string s, .string ⟨#[c]⟩] w fun e w' => Below w.heap.size w w' ∧ e = .returned (.tuple #[.string (s.extract 0 i), .string (s.extract (i + 1) s.size), .bool true]) := by
  go_enter Tryz.func120, Tryz.ntmps120
  go_wp2_with fail
  refine (Tryz.stringslite_Index_one s c _).mono ?_
  rintro e w1 ⟨rfl, rfl⟩
  rw [hi]
  have HI := Lib.hid hi
  clear hi
  go_wp2
  go_quiet (fail)
  go_wp2
  refine bodyPost_ret (v := .tuple #[.string (s.extract 0 i), .string (s.extract (i + 1) s.size), .bool true]) (by simp [results, Tryz.results120, go_sem]) rfl ⟨below_drewN (Below.refl _ _) _, rfl⟩
theorem cut_one (s : ByteArray) (c : UInt8) (i : Nat) (w : World) (hs : s.size ≤ 2000) (hi : Lib.indexByte s.data.toList c = (i : Int)) (hlt : i < s.size) :
    Calls Tryz.prog 85 #[.string s, .string ⟨#[c]⟩] w fun e w' => Below w.heap.size w w' ∧ e = .returned (.tuple #[.string (s.extract 0 i), .string (s.extract (i + 1) s.size), .bool true]) := by
  have HI := Lib.hid hi
  clear hi
  go_enter Tryz.func85, Tryz.ntmps85
  go_wp2_with fail
  refine (slCut_one s c i _ hs HI.out hlt).mono ?_
  rintro e w1 ⟨hb1, rfl⟩
  go_wp2
  exact bodyPost_ret (v := .tuple #[.string (s.extract 0 i), .string (s.extract (i + 1) s.size), .bool true]) (by simp [results, Tryz.results85, go_sem]) rfl ⟨hb1, rfl⟩

def PRe (n : Int) (d : Nat) (er : Int) (w : World) (e : Ending) (w' : World) : Prop := Below w.heap.size w w' ∧ ∃ v, e = .returned (.tuple #[v, .int .i64 er]) ∧ Rr w' v n d
set_option maxRecDepth 100000 in
set_option maxHeartbeats 800000 in
theorem ofZ_pos (vn vd : Value) (n : Int) (d : Nat) (w : World) (hn : Zr w vn n) (hd : Zr w vd (d : Int)) (hd0 : 0 < d) (hc : CommonC n.natAbs d)
    (ho1 : Nat.gcd n.natAbs d ≠ 1 → OverC n.natAbs (Nat.gcd n.natAbs d)) (ho2 : Nat.gcd n.natAbs d ≠ 1 → OverC d (Nat.gcd n.natAbs d)) :
    Calls Tryz.prog 28 #[vn, vd] w (PRe (Int.tdiv n (Nat.gcd n.natAbs d : Nat)) (d / Nat.gcd n.natAbs d) 0 w) := by
  have hn' := hn
  obtain ⟨s, xa, pa, m, rfl, _⟩ := hn'
  obtain ⟨sd, xd, pd, rfl, hdd, h1, h2⟩ := hd.dg
  have : sd = false := by
    cases sd with
    | false => rfl
    | true => have := h1 rfl; omega
  subst this
  have hdd := hdd.cast (Int.natAbs_natCast d)
  have HN := Lib.hid hn; have HD := Lib.hid hdd
  have hz : d ≠ 0 := by omega
  have HZ := Lib.hid hz
  have HRED := Lib.hid (fun (W : World) (a : Zr W _ n) (b : Dg W _ d) => reduced_any (.agg #[.bool s, .int .u64 xa, .pointer pa]) (.agg #[.int .u64 xd, .pointer pd]) n d W a b hd0 hc ho1 ho2)
  clear hn hd hdd h1 h2 hz hc ho1 ho2
  cases s with
  | false =>
    go_enter Tryz.func28, Tryz.ntmps28
    go_wp2_with (go_at_call 89; refine (isZero_no _ (HD.out.keep (bl3 _ _ _ _) (Nat.le_refl _)) HZ.out).mono ?_; rintro e w1 ⟨rfl, c1, t1, rfl⟩)
    have k0 : Below w.heap.size w _ := Below.thru (bl3 w (.cells #[.bool false, .int .u64 xa, .pointer pa] 28) (.cells #[.bool false, .int .u64 xd, .pointer pd] 28) (.cells #[.bool false, .int .u64 0, .pointer none, .int .u64 0, .pointer none] 33)) (by simp <;> omega) (bl2 _ (.cells c1 t1) (.cells c1 t1))
    refine (HRED.out _ (HN.out.keep k0 (Nat.le_refl _)) (HD.out.keep k0 (Nat.le_refl _))).mono ?_
    rintro e w3 ⟨hb3, v3, rfl, h3⟩
    have r3 : Rq (w.heap.size + 1 + 1) w3 := Rq.keep (((rq_new _ (by simp)).alloc _).alloc _) hb3 (by simp <;> omega)
    have k3 := Below.thru k0 k0.size hb3
    obtain ⟨s5, x5, p5, y5, q5, rfl⟩ := h3.agg
    obtain ⟨_, _, _, _, _, m1, m2, m3, m4, m5, m6, m7, m8, m9, m10⟩ := r3.cells
    obtain ⟨n1, n2, n3, n4, n5⟩ := five_cells m1 m2 m3 m4 m5 (.bool s5) (.int .u64 x5) (.pointer p5) (.int .u64 y5) (.pointer q5)
    have H3 := Lib.hid h3
    clear hb3 k0 h3
    unfold st5 at n1 n2 n3 n4 n5
    go_wp2
    exact bodyPost_ret (v := .tuple #[.agg #[.bool s5, .int .u64 x5, .pointer p5, .int .u64 y5, .pointer q5], .int .i64 0]) (by simp [results, Tryz.results28, go_sem, n1, n2, n3, n4, n5]) rfl ⟨below5 k3 (by omega) _ _ _ _ _, _, rfl, H3.out.store r3.odd (grown5 _ _ _ _ _ _ _)⟩
  | true =>
    go_enter Tryz.func28, Tryz.ntmps28
    go_wp2_with (go_at_call 89; refine (isZero_no _ (HD.out.keep (bl3 _ _ _ _) (Nat.le_refl _)) HZ.out).mono ?_; rintro e w1 ⟨rfl, c1, t1, rfl⟩)
    have k0 : Below w.heap.size w _ := Below.thru (bl3 w (.cells #[.bool true, .int .u64 xa, .pointer pa] 28) (.cells #[.bool false, .int .u64 xd, .pointer pd] 28) (.cells #[.bool false, .int .u64 0, .pointer none, .int .u64 0, .pointer none] 33)) (by simp <;> omega) (bl2 _ (.cells c1 t1) (.cells c1 t1))
    refine (HRED.out _ (HN.out.keep k0 (Nat.le_refl _)) (HD.out.keep k0 (Nat.le_refl _))).mono ?_
    rintro e w3 ⟨hb3, v3, rfl, h3⟩
    have r3 : Rq (w.heap.size + 1 + 1) w3 := Rq.keep (((rq_new _ (by simp)).alloc _).alloc _) hb3 (by simp <;> omega)
    have k3 := Below.thru k0 k0.size hb3
    obtain ⟨s5, x5, p5, y5, q5, rfl⟩ := h3.agg
    obtain ⟨_, _, _, _, _, m1, m2, m3, m4, m5, m6, m7, m8, m9, m10⟩ := r3.cells
    obtain ⟨n1, n2, n3, n4, n5⟩ := five_cells m1 m2 m3 m4 m5 (.bool s5) (.int .u64 x5) (.pointer p5) (.int .u64 y5) (.pointer q5)
    have H3 := Lib.hid h3
    clear hb3 k0 h3
    unfold st5 at n1 n2 n3 n4 n5
    go_wp2
    exact bodyPost_ret (v := .tuple #[.agg #[.bool s5, .int .u64 x5, .pointer p5, .int .u64 y5, .pointer q5], .int .i64 0]) (by simp [results, Tryz.results28, go_sem, n1, n2, n3, n4, n5]) rfl ⟨below5 k3 (by omega) _ _ _ _ _, _, rfl, H3.out.store r3.odd (grown5 _ _ _ _ _ _ _)⟩
end Go.Proofs.YtjjomjjgoceklaaGreat
namespace Go.Proofs.YtjjomjjgoceklaaGreat
set_option maxRecDepth 100000
open Go.RowKit

@[reducible] def Cz (G : Nat) (s : Bool) (x : Int) (p : Option Addr) (w' : World) : Prop :=
  w'.cell? ⟨G, 0, none⟩ = some (.bool s) ∧ w'.cell? ⟨G, 1, none⟩ = some (.int .u64 x) ∧ w'.cell? ⟨G, 2, none⟩ = some (.pointer p)
theorem Cz.keep {G C : Nat} {s : Bool} {x : Int} {p : Option Addr} {w w' : World} (h : Cz G s x p w) (hb : Below C w w') (hG : G < C) : Cz G s x p w' :=
  ⟨(hb.cell (p := ⟨G, 0, none⟩) hG).trans h.1, (hb.cell (p := ⟨G, 1, none⟩) hG).trans h.2.1, (hb.cell (p := ⟨G, 2, none⟩) hG).trans h.2.2⟩
theorem Cz.st {G T : Nat} {s : Bool} {x : Int} {p : Option Addr} {w : World} (h : Cz G s x p w) (hG : G ≠ T) (a b c d e : Value) : Cz G s x p (st5 w T a b c d e) :=
  ⟨(cell_st5 w hG _ _ _ _ _ _).trans h.1, (cell_st5 w hG _ _ _ _ _ _).trans h.2.1, (cell_st5 w hG _ _ _ _ _ _).trans h.2.2⟩
/-- what is asked of two numbers so that their ratio can be made -/
def RatC (n d : Nat) : Prop := CommonC n d ∧ (Nat.gcd n d ≠ 1 → OverC n (Nat.gcd n d)) ∧ (Nat.gcd n d ≠ 1 → OverC d (Nat.gcd n d))
theorem ratC_small (n d : Nat) (hn : Wd n) (hd : Wd d) (h0 : 0 < d) : RatC n d :=
  ⟨common_small n d hn hd, fun _ => over_small n _ hn (gcd_wd hn hd) (by have := Nat.gcd_pos_of_pos_right n h0; omega), fun _ => over_small d _ hd (gcd_wd hn hd) (by have := Nat.gcd_pos_of_pos_right n h0; omega)⟩

theorem ofZ_nat (vn vd : Value) (a b : Nat) (w : World) (hn : Zr w vn (a : Int)) (hd : Zr w vd (b : Int)) (hb0 : 0 < b) (hr : RatC a b) : Calls Tryz.prog 28 #[vn, vd] w (PRe (Int.tdiv a (Nat.gcd a b : Nat)) (b / Nat.gcd a b) 0 w) := by
  have h := ofZ_pos vn vd a b w hn hd hb0
  rw [Int.natAbs_natCast] at h
  exact h hr.1 hr.2.1 hr.2.2
set_option maxRecDepth 100000 in
set_option maxHeartbeats 1600000 in
theorem parse_pos (s : ByteArray) (i a b : Nat) (w : World) (hs : s.size ≤ 1000) (hi : Lib.indexByte s.data.toList 47 = (i : Int)) (hlt : i < s.size) (h0 : 0 < i) (h45 : byteAt s 0 ≠ 45)
    (hna : NatP (s.extract 0 i)) (hnb : NatP (s.extract (i + 1) s.size)) (ha : dec (s.extract 0 i) i = a) (hb : dec (s.extract (i + 1) s.size) (s.size - (i + 1)) = b) (hb0 : 0 < b) (hr : RatC a b) :
    Calls Tryz.prog 13 #[.string s] w (PRe (Int.tdiv a (Nat.gcd a b : Nat)) (b / Nat.gcd a b) 0 w) := by
  have e1 := extract_size s 0 i (by omega)
  have e2 := extract_size s (i + 1) s.size (Nat.le_refl _)
  have e3 : byteAt (s.extract 0 i) 0 = byteAt s 0 := by rw [byteAt_extract s 0 i 0 (by omega) (by omega)]
  have HZ := Lib.hid (fun W => readZ_pos (s.extract 0 i) W (by omega) (by omega) (by rw [e3]; exact h45) hna)
  rw [e1, Nat.sub_zero, ha] at HZ
  have HB := Lib.hid (fun W => nat_yes (s.extract (i + 1) s.size) W (by omega) hnb)
  have HD := Lib.hid (fun W => readDigits_any (s.extract (i + 1) s.size) W (by omega) hnb.dig)
  rw [e2, hb] at HD
  have HI := Lib.hid hi
  have HR := Lib.hid hr
  clear hi hna hnb ha hb h45 e1 e2 e3 hr
  go_enter Tryz.func13, Tryz.ntmps13
  go_wp2_with fail
  refine (cut_one s 47 i _ (by omega) HI.out hlt).mono ?_
  rintro e w1 ⟨hb1, rfl⟩
  have t1 : Rq w.heap.size w1 := Rq.keep (rq_new _ rfl) hb1 (by simp)
  have k1 := Below.thru (bl1 w _) (by simp) hb1
  have z1 : w.heap.size + 1 ≤ w1.heap.size := Nat.le_trans (by simp) hb1.size
  go_wp2_with fail
  refine (HZ.out w1).mono ?_
  rintro e w2 ⟨hb2, v2, rfl, h2⟩
  have h2' := h2
  obtain ⟨s2, x2, p2, rfl, _, hneg, _⟩ := h2'.dg
  obtain rfl : s2 = false := by
    cases s2 with
    | false => rfl
    | true => have := hneg rfl; omega
  clear hneg
  have H2 := Lib.hid h2
  have t2 := t1.keep hb2 (by omega)
  have k2 := Below.thru k1 k1.size hb2
  have z2 : w.heap.size + 1 ≤ w2.heap.size := Nat.le_trans z1 hb2.size
  clear h2 hb1 t1 hb2 k1
  go_wp2_with fail
  refine (HB.out _).mono ?_
  rintro e w3 ⟨hb3, rfl⟩
  have k2' := Below.thru k2 k2.size (bl1 w2 (.cells #[.bool false, .int .u64 x2, .pointer p2] 28))
  have k3 := Below.thru k2' k2'.size hb3
  have q3 : Cz w2.heap.size false x2 p2 w3 := Cz.keep (by refine ⟨?_, ?_, ?_⟩ <;> simp [go_sem]) hb3 (by simp)
  have t3 := (t2.alloc (.cells #[.bool false, .int .u64 x2, .pointer p2] 28)).keep hb3 (by simp; omega)
  have z3 : w2.heap.size + 1 ≤ w3.heap.size := Nat.le_trans (by simp) hb3.size
  have H3 := Lib.hid ((H2.out.keep (bl1 w2 (.cells #[.bool false, .int .u64 x2, .pointer p2] 28)) (Nat.le_refl _)).keep hb3 (Nat.le_refl _))
  clear hb3 k2' t2
  go_wp2
  have q0 : Cz w2.heap.size false x2 p2 w3.drew := q3
  have t0 : Rq w.heap.size w3.drew := t3
  have k0 : Below w.heap.size w w3.drew := k3.drew
  have z0 : w2.heap.size + 1 ≤ w3.drew.heap.size := z3
  have hz0 : Zr w3.drew (.agg #[.bool false, .int .u64 x2, .pointer p2]) a := H3.out.keep (B := w3.heap.size) (Below.refl _ _).drew (Nat.le_refl _)
  go_region_held3 (fun w' => w'.cell? ⟨w2.heap.size, 0, none⟩ = some (.bool false) ∧ w'.cell? ⟨w2.heap.size, 1, none⟩ = some (.int .u64 x2) ∧ w'.cell? ⟨w2.heap.size, 2, none⟩ = some (.pointer p2))
    (first | (with_reducible exact q7) | (with_reducible exact q6) | (with_reducible exact q5) | (with_reducible exact q4) | (with_reducible exact q0))
    (first
      | (go_at_call 88; (with_reducible refine (HD.out w3.drew).mono ?_); rintro e w4 ⟨hb4, v4, rfl, h4⟩
         have q4 := Cz.keep q0 hb4 (by omega); have t4 := Rq.keep t0 hb4 (by omega); have k4 := Below.thru k0 k0.size hb4; have z4 : w2.heap.size + 1 ≤ w4.heap.size := Nat.le_trans z0 hb4.size; have hz4 := hz0.keep hb4 (Nat.le_refl _))
      | (go_at_call 87; (with_reducible refine (signed_any v4 _ false w4 h4).mono ?_); rintro e w5 ⟨hb5, v5, rfl, h5⟩; have h5 : Zr w5 v5 (b : Int) := h5
         have q5 := Cz.keep q4 hb5 (by omega); have t5 := Rq.keep t4 hb5 (by omega); have k5 := Below.thru k4 k4.size hb5; have z5 : w2.heap.size + 1 ≤ w5.heap.size := Nat.le_trans z4 hb5.size; have hz5 := hz4.keep hb5 (Nat.le_refl _))
      | (go_at_call 28; (with_reducible refine (ofZ_nat _ v5 a b w5 hz5 h5 hb0 HR.out).mono ?_); rintro e w6 ⟨hb6, v6, rfl, h6⟩
         have q6 := Cz.keep q5 hb6 (by omega); have t6 := Rq.keep t5 hb6 (by omega); have k6 := Below.thru k5 k5.size hb6; obtain ⟨s7, x7, p7, y7, r7, rfl⟩ := h6.agg; obtain ⟨_, _, _, _, _, m1, m2, m3, m4, m5, m6, m7, m8, m9, m10⟩ := t6.cells
         have q7 := Cz.st q6 (T := w.heap.size) (by omega) (.bool s7) (.int .u64 x7) (.pointer p7) (.int .u64 y7) (.pointer r7)))
  obtain ⟨n1, n2, n3, n4, n5⟩ := five_cells m1 m2 m3 m4 m5 (.bool s7) (.int .u64 x7) (.pointer p7) (.int .u64 y7) (.pointer r7)
  unfold st5 at n1 n2 n3 n4 n5
  have H6 := Lib.hid h6
  clear h6 q0 q4 q5 q6 q7
  go_wp2
  exact bodyPost_ret (v := .tuple #[.agg #[.bool s7, .int .u64 x7, .pointer p7, .int .u64 y7, .pointer r7], .int .i64 0]) (by simp [results, Tryz.results13, go_sem, n1, n2, n3, n4, n5]) rfl ⟨below5 k6 (Nat.le_refl _) _ _ _ _ _, _, rfl, H6.out.store t6.odd (grown5 _ _ _ _ _ _ _)⟩
end Go.Proofs.YtjjomjjgoceklaaGreat
namespace Go.Proofs.YtjjomjjgoceklaaGreat
set_option maxRecDepth 100000
open Go.RowKit

/-! plain: the sum of two ratios in lowest terms -/
theorem cop_sum {an bn : Int} {p q : Nat} (hp : 0 < p) (ha : Nat.gcd an.natAbs p = 1) :
    Nat.Coprime (an * (q / Nat.gcd p q : Nat) + bn * (p / Nat.gcd p q : Nat)).natAbs (p / Nat.gcd p q) := by
  have hg : 0 < Nat.gcd p q := Nat.gcd_pos_of_pos_left _ hp
  have hpq : Nat.Coprime (q / Nat.gcd p q) (p / Nat.gcd p q) := by
    rw [Nat.coprime_comm]
    exact Nat.coprime_div_gcd_div_gcd hg
  have hap : Nat.Coprime an.natAbs (p / Nat.gcd p q) := Nat.Coprime.coprime_dvd_right (Nat.div_dvd_of_dvd (Nat.gcd_dvd_left p q)) ha
  have h1 : Nat.Coprime (an * (q / Nat.gcd p q : Nat)).natAbs (p / Nat.gcd p q) := by
    rw [Int.natAbs_mul, Int.natAbs_natCast]
    exact Nat.Coprime.mul_left hap hpq
  have h2 : Int.gcd (an * (q / Nat.gcd p q : Nat) + bn * (p / Nat.gcd p q : Nat)) (p / Nat.gcd p q : Nat) = Int.gcd (an * (q / Nat.gcd p q : Nat)) (p / Nat.gcd p q : Nat) := by
    rw [Int.gcd_add_mul_right_left]
  unfold Int.gcd at h2
  rw [Int.natAbs_natCast] at h2
  unfold Nat.Coprime at h1 ⊢
  rw [h2]; exact h1
theorem cop_all {an bn : Int} {p q : Nat} (hp : 0 < p) (hq : 0 < q) (ha : Nat.gcd an.natAbs p = 1) (hb : Nat.gcd bn.natAbs q = 1) (n : Int) (hn : n = an * (q / Nat.gcd p q : Nat) + bn * (p / Nat.gcd p q : Nat)) :
    Nat.gcd (Int.tdiv n (Nat.gcd n.natAbs (Nat.gcd p q) : Nat)).natAbs ((p / Nat.gcd p q) * (q / Nat.gcd n.natAbs (Nat.gcd p q))) = 1 := by
  have hg : 0 < Nat.gcd p q := Nat.gcd_pos_of_pos_left _ hp
  have c1 := cop_sum (bn := bn) (q := q) hp ha
  have c2 := cop_sum (an := bn) (bn := an) (p := q) (q := p) hq hb
  rw [← hn] at c1
  rw [Nat.gcd_comm q p, Int.add_comm, ← hn] at c2
  generalize hgg : Nat.gcd p q = g at *
  have hgq : g ∣ q := by rw [← hgg]; exact Nat.gcd_dvd_right _ _
  have hh : 0 < Nat.gcd n.natAbs g := Nat.gcd_pos_of_pos_right _ hg
  have c3 := Nat.coprime_div_gcd_div_gcd hh
  have hd1 : Nat.gcd n.natAbs g ∣ n.natAbs := Nat.gcd_dvd_left _ _
  have hd2 : Nat.gcd n.natAbs g ∣ g := Nat.gcd_dvd_right _ _
  rw [Int.natAbs_tdiv, Int.natAbs_natCast]
  show Nat.Coprime (n.natAbs / _) _
  generalize Nat.gcd n.natAbs g = h at *
  have hdd : n.natAbs / h ∣ n.natAbs := Nat.div_dvd_of_dvd hd1
  have eq : q / h = (q / g) * (g / h) := by
    obtain ⟨u, rfl⟩ := hd2
    obtain ⟨v, rfl⟩ := hgq
    have hu : 0 < u := by
      rcases Nat.eq_zero_or_pos u with h0 | h0
      · subst h0; simp at hg
      · exact h0
    rw [Nat.mul_div_cancel_left _ hg, Nat.mul_div_cancel_left _ hh, Nat.mul_assoc, Nat.mul_div_cancel_left _ hh, Nat.mul_comm]
  rw [eq]
  exact Nat.Coprime.mul_right (Nat.Coprime.coprime_dvd_left hdd c1) (Nat.Coprime.mul_right (Nat.Coprime.coprime_dvd_left hdd c2) c3)
end Go.Proofs.YtjjomjjgoceklaaGreat
