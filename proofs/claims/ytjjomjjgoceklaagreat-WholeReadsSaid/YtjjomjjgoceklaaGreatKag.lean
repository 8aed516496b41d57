import Derived.Test.YtjjomjjgoceklaaGreatKaf
namespace Go.Proofs.YtjjomjjgoceklaaGreat
set_option maxRecDepth 100000
open Go.RowKit

theorem Sz.le {a b : Nat} (h : Sz b) (hle : a ≤ b) : Sz a := by
  obtain ⟨k, h1, h2⟩ := h
  exact ⟨k, h1, Nat.lt_of_le_of_lt hle h2⟩
set_option maxHeartbeats 1600000 in
set_option maxRecDepth 100000 in
theorem zmul_any (va vb : Value) (y z : Int) (w : World) (ha : Zr w va y) (hb : Zr w vb z) (la : Sz y.natAbs) (lb : Sz z.natAbs) : Calls Tryz.prog 96 #[va, vb] w (PZ (y * z) w) := by
  obtain ⟨sa, xa, pa, rfl, hda, ha1, ha2⟩ := ha.dg
  obtain ⟨sb, xb, pb, rfl, hdb, hb1, hb2⟩ := hb.dg
  have HA := Lib.hid hda; have HB := Lib.hid hdb
  have hfin : (if (sa != sb) then -((y.natAbs * z.natAbs : Nat) : Int) else ((y.natAbs * z.natAbs : Nat) : Int)) = y * z := by
    rw [Int.natCast_mul]
    cases sa <;> cases sb <;> simp only [Bool.false_eq_true, false_implies, forall_const] at ha1 ha2 hb1 hb2 <;> simp
    · rw [Int.natAbs_of_nonneg ha2, Int.natAbs_of_nonneg hb2]
    · rw [Int.natAbs_of_nonneg ha2, Int.ofNat_natAbs_of_nonpos (by omega), Int.mul_neg, Int.neg_neg]
    · rw [Int.natAbs_of_nonneg hb2, Int.ofNat_natAbs_of_nonpos (by omega), Int.neg_mul, Int.neg_neg]
    · rw [Int.ofNat_natAbs_of_nonpos (by omega), Int.ofNat_natAbs_of_nonpos (by omega), Int.neg_mul_neg]
  have HF := Lib.hid hfin
  clear hda hdb ha hb ha1 ha2 hb1 hb2 hfin
  go_enter Tryz.func96, Tryz.ntmps96
  go_wp2
  generalize hW : World.alloc _ (Obj.cells #[Value.bool false, Value.int IntKind.u64 0, Value.pointer none] 28) = W
  have f1 : Below w.heap.size w W := by rw [← hW]; exact bl3 _ _ _ _
  have f2 : w.heap.size + 3 ≤ W.heap.size := by rw [← hW]; simp
  have fa : B3 w.heap.size sa xa pa W := by rw [← hW]; refine ⟨?_, ?_, ?_⟩ <;> simp [go_sem, World.cell?_alloc_past]
  have fb : B3 (w.heap.size + 1) sb xb pb W := by rw [← hW]; refine ⟨?_, ?_, ?_⟩ <;> simp [go_sem, World.cell?_alloc_past]
  have f4 : Rz (w.heap.size + 1 + 1) W := by rw [← hW]; exact rz_new _ (by simp)
  clear hW
  have fa : B3 w.heap.size sa xa pa W.drew := fa
  have fb : B3 (w.heap.size + 1) sb xb pb W.drew := fb
  have f4 : Rz (w.heap.size + 1 + 1) W.drew := f4
  have f1 : Below w.heap.size w W.drew := f1.drew
  have f2 : w.heap.size + 3 ≤ W.drew.heap.size := f2
  go_region_held3 (fun w' => w'.cell? ⟨w.heap.size, 0, none⟩ = some (.bool sa) ∧ w'.cell? ⟨w.heap.size, 1, none⟩ = some (.int .u64 xa) ∧ w'.cell? ⟨w.heap.size, 2, none⟩ = some (.pointer pa) ∧ w'.cell? ⟨w.heap.size + 1, 0, none⟩ = some (.bool sb) ∧ w'.cell? ⟨w.heap.size + 1, 1, none⟩ = some (.int .u64 xb) ∧ w'.cell? ⟨w.heap.size + 1, 2, none⟩ = some (.pointer pb))
    (first | exact ⟨(B3.stored a4 (by omega) _ _ _).1, (B3.stored a4 (by omega) _ _ _).2.1, (B3.stored a4 (by omega) _ _ _).2.2, (B3.stored b4 (by omega) _ _ _).1, (B3.stored b4 (by omega) _ _ _).2.1, (B3.stored b4 (by omega) _ _ _).2.2⟩ | exact ⟨a4.1, a4.2.1, a4.2.2, b4.1, b4.2.1, b4.2.2⟩ | exact ⟨a3.1, a3.2.1, a3.2.2, b3.1, b3.2.1, b3.2.2⟩ | exact ⟨fa.1, fa.2.1, fa.2.2, fb.1, fb.2.1, fb.2.2⟩)
    (first
      | (go_at_call 112; (with_reducible refine (times_any (.agg #[.int .u64 xa, .pointer pa]) (.agg #[.int .u64 xb, .pointer pb]) y.natAbs z.natAbs W.drew (HA.out.keep (B := w.heap.size) f1 (Nat.le_refl _)) (HB.out.keep (B := w.heap.size) f1 (Nat.le_refl _)) la lb).mono ?_); rintro e w3 ⟨hb3, v3, rfl, hs3⟩
         have a3 := B3.keep fa hb3 (by omega); have b3 := B3.keep fb hb3 (by omega); have r3 := Rz.keep f4 hb3 (by omega); have k3 := Below.thru f1 f1.size hb3; have z3 : w.heap.size + 3 ≤ w3.heap.size := Nat.le_trans f2 hb3.size)
      | (go_at_call 87; (with_reducible refine (signed_any v3 _ _ w3 hs3).mono ?_); rintro e w4 ⟨hb4, v4, rfl, hs4⟩
         have a4 := B3.keep a3 hb4 (by omega); have b4 := B3.keep b3 hb4 (by omega); have r4 := Rz.keep r3 hb4 (by omega); obtain ⟨sq, xq, pq, m1, m2, m3, m4, m5, m6⟩ := r4.cells; obtain ⟨s4, x4, p4, n4, rfl, hd4, hs4a, hs4b⟩ := hs4; have k4 := Below.thru k3 k3.size hb4; have z4 : w.heap.size + 3 ≤ w4.heap.size := Nat.le_trans z3 hb4.size; have HV := Lib.hid hs4b; clear hs4b))
  obtain ⟨g1, g2, g3⟩ := three_cells m1 m2 m3 (.bool s4) (.int .u64 x4) (.pointer p4)
  go_wp2
  exact bodyPost_ret (v := .agg #[.bool s4, .int .u64 x4, .pointer p4]) (by simp [results, Tryz.results96, go_sem, g1, g2, g3]) rfl ⟨((k4.setCell (by simp; omega) _).setCell (by simp; omega) _).setCell (by simp; omega) _, _, rfl, Zr.cast (Zr.store ⟨s4, x4, p4, n4, rfl, hd4, hs4a, HV.out⟩ r4.odd (grown3 _ _ _ _ _ _ _ _)) (by exact HF.out)⟩

theorem cmpN_ge {m n : Nat} (h : n ≤ m) : 0 ≤ cmpN m n := by
  unfold cmpN; split
  · omega
  · split <;> omega
set_option maxHeartbeats 1600000 in
set_option maxRecDepth 100000 in
theorem zadd_same_false (xa xb : Int) (pa pb : Option Addr) (y z : Int) (w : World) (hda : Dg w (.agg #[.int .u64 xa, .pointer pa]) y.natAbs) (hdb : Dg w (.agg #[.int .u64 xb, .pointer pb]) z.natAbs) (la : Sz y.natAbs) (lb : Sz z.natAbs)
    (hfin : (if false then -((y.natAbs + z.natAbs : Nat) : Int) else ((y.natAbs + z.natAbs : Nat) : Int)) = y + z) : Calls Tryz.prog 97 #[.agg #[.bool false, .int .u64 xa, .pointer pa], .agg #[.bool false, .int .u64 xb, .pointer pb]] w (PZ (y + z) w) := by
  have HA := Lib.hid hda; have HB := Lib.hid hdb; have HF := Lib.hid hfin
  clear hda hdb hfin
  go_enter Tryz.func97, Tryz.ntmps97
  go_wp2
  generalize hW : World.alloc _ (Obj.cells #[Value.bool false, Value.int IntKind.u64 0, Value.pointer none] 28) = W
  have f1 : Below w.heap.size w W := by rw [← hW]; exact bl3 _ _ _ _
  have f2 : w.heap.size + 3 ≤ W.heap.size := by rw [← hW]; simp
  have fa : B3 w.heap.size false xa pa W := by rw [← hW]; refine ⟨?_, ?_, ?_⟩ <;> simp [go_sem, World.cell?_alloc_past]
  have fb : B3 (w.heap.size + 1) false xb pb W := by rw [← hW]; refine ⟨?_, ?_, ?_⟩ <;> simp [go_sem, World.cell?_alloc_past]
  have f4 : Rz (w.heap.size + 1 + 1) W := by rw [← hW]; exact rz_new _ (by simp)
  clear hW
  have ca := fa.1; have ca2 := fa.2.1; have ca3 := fa.2.2; have cb := fb.1; have cb2 := fb.2.1; have cb3 := fb.2.2
  have fa : B3 w.heap.size false xa pa W.drew := fa
  have fb : B3 (w.heap.size + 1) false xb pb W.drew := fb
  have f4 : Rz (w.heap.size + 1 + 1) W.drew := f4
  have f1 : Below w.heap.size w W.drew := f1.drew
  have f2 : w.heap.size + 3 ≤ W.drew.heap.size := f2
  go_region_held3 (fun w' => w'.cell? ⟨w.heap.size, 0, none⟩ = some (.bool false) ∧ w'.cell? ⟨w.heap.size, 1, none⟩ = some (.int .u64 xa) ∧ w'.cell? ⟨w.heap.size, 2, none⟩ = some (.pointer pa) ∧ w'.cell? ⟨w.heap.size + 1, 0, none⟩ = some (.bool false) ∧ w'.cell? ⟨w.heap.size + 1, 1, none⟩ = some (.int .u64 xb) ∧ w'.cell? ⟨w.heap.size + 1, 2, none⟩ = some (.pointer pb))
    (first | exact ⟨(B3.stored a4 (by omega) _ _ _).1, (B3.stored a4 (by omega) _ _ _).2.1, (B3.stored a4 (by omega) _ _ _).2.2, (B3.stored b4 (by omega) _ _ _).1, (B3.stored b4 (by omega) _ _ _).2.1, (B3.stored b4 (by omega) _ _ _).2.2⟩ | exact ⟨a4.1, a4.2.1, a4.2.2, b4.1, b4.2.1, b4.2.2⟩ | exact ⟨a3.1, a3.2.1, a3.2.2, b3.1, b3.2.1, b3.2.2⟩ | exact ⟨fa.1, fa.2.1, fa.2.2, fb.1, fb.2.1, fb.2.2⟩)
    (first
      | (go_at_call 124; (with_reducible refine (plus_any (.agg #[.int .u64 xa, .pointer pa]) (.agg #[.int .u64 xb, .pointer pb]) y.natAbs z.natAbs W.drew (HA.out.keep (B := w.heap.size) f1 (Nat.le_refl _)) (HB.out.keep (B := w.heap.size) f1 (Nat.le_refl _)) la lb).mono ?_); rintro e w3 ⟨hb3, v3, rfl, hs3⟩
         have a3 := B3.keep fa hb3 (by omega); have b3 := B3.keep fb hb3 (by omega); have r3 := Rz.keep f4 hb3 (by omega); have k3 := Below.thru f1 f1.size hb3; have z3 : w.heap.size + 3 ≤ w3.heap.size := Nat.le_trans f2 hb3.size)
      | (go_at_call 87; (with_reducible refine (signed_any v3 _ false w3 hs3).mono ?_); rintro e w4 ⟨hb4, v4, rfl, hs4⟩
         have a4 := B3.keep a3 hb4 (by omega); have b4 := B3.keep b3 hb4 (by omega); have r4 := Rz.keep r3 hb4 (by omega); obtain ⟨sq, xq, pq, m1, m2, m3, m4, m5, m6⟩ := r4.cells; obtain ⟨s4, x4, p4, n4, rfl, hd4, hs4a, hs4b⟩ := hs4; have k4 := Below.thru k3 k3.size hb4; have z4 : w.heap.size + 3 ≤ w4.heap.size := Nat.le_trans z3 hb4.size; have HV := Lib.hid hs4b; clear hs4b))
  obtain ⟨g1, g2, g3⟩ := three_cells m1 m2 m3 (.bool s4) (.int .u64 x4) (.pointer p4)
  go_wp2
  exact bodyPost_ret (v := .agg #[.bool s4, .int .u64 x4, .pointer p4]) (by simp [results, Tryz.results97, go_sem, g1, g2, g3]) rfl ⟨((k4.setCell (by simp; omega) _).setCell (by simp; omega) _).setCell (by simp; omega) _, _, rfl, Zr.cast (Zr.store ⟨s4, x4, p4, n4, rfl, hd4, hs4a, HV.out⟩ r4.odd (grown3 _ _ _ _ _ _ _ _)) (by exact HF.out)⟩

set_option maxHeartbeats 1600000 in
set_option maxRecDepth 100000 in
theorem zadd_same_true (xa xb : Int) (pa pb : Option Addr) (y z : Int) (w : World) (hda : Dg w (.agg #[.int .u64 xa, .pointer pa]) y.natAbs) (hdb : Dg w (.agg #[.int .u64 xb, .pointer pb]) z.natAbs) (la : Sz y.natAbs) (lb : Sz z.natAbs)
    (hfin : (if true then -((y.natAbs + z.natAbs : Nat) : Int) else ((y.natAbs + z.natAbs : Nat) : Int)) = y + z) : Calls Tryz.prog 97 #[.agg #[.bool true, .int .u64 xa, .pointer pa], .agg #[.bool true, .int .u64 xb, .pointer pb]] w (PZ (y + z) w) := by
  have HA := Lib.hid hda; have HB := Lib.hid hdb; have HF := Lib.hid hfin
  clear hda hdb hfin
  go_enter Tryz.func97, Tryz.ntmps97
  go_wp2
  generalize hW : World.alloc _ (Obj.cells #[Value.bool false, Value.int IntKind.u64 0, Value.pointer none] 28) = W
  have f1 : Below w.heap.size w W := by rw [← hW]; exact bl3 _ _ _ _
  have f2 : w.heap.size + 3 ≤ W.heap.size := by rw [← hW]; simp
  have fa : B3 w.heap.size true xa pa W := by rw [← hW]; refine ⟨?_, ?_, ?_⟩ <;> simp [go_sem, World.cell?_alloc_past]
  have fb : B3 (w.heap.size + 1) true xb pb W := by rw [← hW]; refine ⟨?_, ?_, ?_⟩ <;> simp [go_sem, World.cell?_alloc_past]
  have f4 : Rz (w.heap.size + 1 + 1) W := by rw [← hW]; exact rz_new _ (by simp)
  clear hW
  have ca := fa.1; have ca2 := fa.2.1; have ca3 := fa.2.2; have cb := fb.1; have cb2 := fb.2.1; have cb3 := fb.2.2
  have fa : B3 w.heap.size true xa pa W.drew := fa
  have fb : B3 (w.heap.size + 1) true xb pb W.drew := fb
  have f4 : Rz (w.heap.size + 1 + 1) W.drew := f4
  have f1 : Below w.heap.size w W.drew := f1.drew
  have f2 : w.heap.size + 3 ≤ W.drew.heap.size := f2
  go_region_held3 (fun w' => w'.cell? ⟨w.heap.size, 0, none⟩ = some (.bool true) ∧ w'.cell? ⟨w.heap.size, 1, none⟩ = some (.int .u64 xa) ∧ w'.cell? ⟨w.heap.size, 2, none⟩ = some (.pointer pa) ∧ w'.cell? ⟨w.heap.size + 1, 0, none⟩ = some (.bool true) ∧ w'.cell? ⟨w.heap.size + 1, 1, none⟩ = some (.int .u64 xb) ∧ w'.cell? ⟨w.heap.size + 1, 2, none⟩ = some (.pointer pb))
    (first | exact ⟨(B3.stored a4 (by omega) _ _ _).1, (B3.stored a4 (by omega) _ _ _).2.1, (B3.stored a4 (by omega) _ _ _).2.2, (B3.stored b4 (by omega) _ _ _).1, (B3.stored b4 (by omega) _ _ _).2.1, (B3.stored b4 (by omega) _ _ _).2.2⟩ | exact ⟨a4.1, a4.2.1, a4.2.2, b4.1, b4.2.1, b4.2.2⟩ | exact ⟨a3.1, a3.2.1, a3.2.2, b3.1, b3.2.1, b3.2.2⟩ | exact ⟨fa.1, fa.2.1, fa.2.2, fb.1, fb.2.1, fb.2.2⟩)
    (first
      | (go_at_call 124; (with_reducible refine (plus_any (.agg #[.int .u64 xa, .pointer pa]) (.agg #[.int .u64 xb, .pointer pb]) y.natAbs z.natAbs W.drew (HA.out.keep (B := w.heap.size) f1 (Nat.le_refl _)) (HB.out.keep (B := w.heap.size) f1 (Nat.le_refl _)) la lb).mono ?_); rintro e w3 ⟨hb3, v3, rfl, hs3⟩
         have a3 := B3.keep fa hb3 (by omega); have b3 := B3.keep fb hb3 (by omega); have r3 := Rz.keep f4 hb3 (by omega); have k3 := Below.thru f1 f1.size hb3; have z3 : w.heap.size + 3 ≤ w3.heap.size := Nat.le_trans f2 hb3.size)
      | (go_at_call 87; (with_reducible refine (signed_any v3 _ true w3 hs3).mono ?_); rintro e w4 ⟨hb4, v4, rfl, hs4⟩
         have a4 := B3.keep a3 hb4 (by omega); have b4 := B3.keep b3 hb4 (by omega); have r4 := Rz.keep r3 hb4 (by omega); obtain ⟨sq, xq, pq, m1, m2, m3, m4, m5, m6⟩ := r4.cells; obtain ⟨s4, x4, p4, n4, rfl, hd4, hs4a, hs4b⟩ := hs4; have k4 := Below.thru k3 k3.size hb4; have z4 : w.heap.size + 3 ≤ w4.heap.size := Nat.le_trans z3 hb4.size; have HV := Lib.hid hs4b; clear hs4b))
  obtain ⟨g1, g2, g3⟩ := three_cells m1 m2 m3 (.bool s4) (.int .u64 x4) (.pointer p4)
  go_wp2
  exact bodyPost_ret (v := .agg #[.bool s4, .int .u64 x4, .pointer p4]) (by simp [results, Tryz.results97, go_sem, g1, g2, g3]) rfl ⟨((k4.setCell (by simp; omega) _).setCell (by simp; omega) _).setCell (by simp; omega) _, _, rfl, Zr.cast (Zr.store ⟨s4, x4, p4, n4, rfl, hd4, hs4a, HV.out⟩ r4.odd (grown3 _ _ _ _ _ _ _ _)) (by exact HF.out)⟩

set_option maxHeartbeats 1600000 in
set_option maxRecDepth 100000 in
theorem zadd_diff_false_ge (xa xb : Int) (pa pb : Option Addr) (y z : Int) (w : World) (hda : Dg w (.agg #[.int .u64 xa, .pointer pa]) y.natAbs) (hdb : Dg w (.agg #[.int .u64 xb, .pointer pb]) z.natAbs) (la : Sz y.natAbs) (lb : Sz z.natAbs)
    (hle : z.natAbs ≤ y.natAbs) (hfin : (if false then -((y.natAbs - z.natAbs : Nat) : Int) else ((y.natAbs - z.natAbs : Nat) : Int)) = y + z) : Calls Tryz.prog 97 #[.agg #[.bool false, .int .u64 xa, .pointer pa], .agg #[.bool true, .int .u64 xb, .pointer pb]] w (PZ (y + z) w) := by
  have HA := Lib.hid hda; have HB := Lib.hid hdb; have HF := Lib.hid hfin
  have hc := cmpN_ge hle
  generalize hcc : cmpN y.natAbs z.natAbs = c at hc
  have HC := Lib.hid hcc
  have HLE := Lib.hid hle
  clear hcc hle hda hdb hfin
  go_enter Tryz.func97, Tryz.ntmps97
  go_wp2_with fail
  generalize hW : World.alloc _ (Obj.cells #[Value.bool false, Value.int IntKind.u64 0, Value.pointer none] 28) = W
  have f1 : Below w.heap.size w W := by rw [← hW]; exact bl3 _ _ _ _
  have f2 : w.heap.size + 3 ≤ W.heap.size := by rw [← hW]; simp
  have fa : B3 w.heap.size false xa pa W := by rw [← hW]; refine ⟨?_, ?_, ?_⟩ <;> simp [go_sem, World.cell?_alloc_past]
  have fb : B3 (w.heap.size + 1) true xb pb W := by rw [← hW]; refine ⟨?_, ?_, ?_⟩ <;> simp [go_sem, World.cell?_alloc_past]
  have f4 : Rz (w.heap.size + 1 + 1) W := by rw [← hW]; exact rz_new _ (by simp)
  clear hW
  refine (compare_any (.agg #[.int .u64 xa, .pointer pa]) (.agg #[.int .u64 xb, .pointer pb]) y.natAbs z.natAbs W (HA.out.keep (B := w.heap.size) f1 (Nat.le_refl _)) (HB.out.keep (B := w.heap.size) f1 (Nat.le_refl _))).mono ?_
  rintro e w1 ⟨hb1, rfl⟩
  rw [HC.out]
  have fa : B3 w.heap.size false xa pa w1 := B3.keep fa hb1 (by omega)
  have fb : B3 (w.heap.size + 1) true xb pb w1 := B3.keep fb hb1 (by omega)
  have f4 : Rz (w.heap.size + 1 + 1) w1 := Rz.keep f4 hb1 (by omega)
  have f1 : Below w.heap.size w w1 := Below.thru f1 f1.size hb1
  have f2 : w.heap.size + 3 ≤ w1.heap.size := Nat.le_trans f2 hb1.size
  have ca := fa.1; have ca2 := fa.2.1; have ca3 := fa.2.2; have cb := fb.1; have cb2 := fb.2.1; have cb3 := fb.2.2
  go_wp2
  have fa : B3 w.heap.size false xa pa w1.drew := fa
  have fb : B3 (w.heap.size + 1) true xb pb w1.drew := fb
  have f4 : Rz (w.heap.size + 1 + 1) w1.drew := f4
  have f1 : Below w.heap.size w w1.drew := f1.drew
  have f2 : w.heap.size + 3 ≤ w1.drew.heap.size := f2
  go_region_held3 (fun w' => w'.cell? ⟨w.heap.size, 0, none⟩ = some (.bool false) ∧ w'.cell? ⟨w.heap.size, 1, none⟩ = some (.int .u64 xa) ∧ w'.cell? ⟨w.heap.size, 2, none⟩ = some (.pointer pa) ∧ w'.cell? ⟨w.heap.size + 1, 0, none⟩ = some (.bool true) ∧ w'.cell? ⟨w.heap.size + 1, 1, none⟩ = some (.int .u64 xb) ∧ w'.cell? ⟨w.heap.size + 1, 2, none⟩ = some (.pointer pb))
    (first | exact ⟨(B3.stored a4 (by omega) _ _ _).1, (B3.stored a4 (by omega) _ _ _).2.1, (B3.stored a4 (by omega) _ _ _).2.2, (B3.stored b4 (by omega) _ _ _).1, (B3.stored b4 (by omega) _ _ _).2.1, (B3.stored b4 (by omega) _ _ _).2.2⟩ | exact ⟨a4.1, a4.2.1, a4.2.2, b4.1, b4.2.1, b4.2.2⟩ | exact ⟨a3.1, a3.2.1, a3.2.2, b3.1, b3.2.1, b3.2.2⟩ | exact ⟨fa.1, fa.2.1, fa.2.2, fb.1, fb.2.1, fb.2.2⟩)
    (first
      | (go_at_call 125; (with_reducible refine (minus_any (.agg #[.int .u64 xa, .pointer pa]) (.agg #[.int .u64 xb, .pointer pb]) y.natAbs z.natAbs w1.drew (HA.out.keep (B := w.heap.size) f1 (Nat.le_refl _)) (HB.out.keep (B := w.heap.size) f1 (Nat.le_refl _)) la lb HLE.out).mono ?_); rintro e w3 ⟨hb3, v3, rfl, hs3⟩
         have a3 := B3.keep fa hb3 (by omega); have b3 := B3.keep fb hb3 (by omega); have r3 := Rz.keep f4 hb3 (by omega); have k3 := Below.thru f1 f1.size hb3; have z3 : w.heap.size + 3 ≤ w3.heap.size := Nat.le_trans f2 hb3.size)
      | (go_at_call 87; (with_reducible refine (signed_any v3 _ false w3 hs3).mono ?_); rintro e w4 ⟨hb4, v4, rfl, hs4⟩
         have a4 := B3.keep a3 hb4 (by omega); have b4 := B3.keep b3 hb4 (by omega); have r4 := Rz.keep r3 hb4 (by omega); obtain ⟨sq, xq, pq, m1, m2, m3, m4, m5, m6⟩ := r4.cells; obtain ⟨s4, x4, p4, n4, rfl, hd4, hs4a, hs4b⟩ := hs4; have k4 := Below.thru k3 k3.size hb4; have z4 : w.heap.size + 3 ≤ w4.heap.size := Nat.le_trans z3 hb4.size; have HV := Lib.hid hs4b; clear hs4b))
  obtain ⟨g1, g2, g3⟩ := three_cells m1 m2 m3 (.bool s4) (.int .u64 x4) (.pointer p4)
  go_wp2
  exact bodyPost_ret (v := .agg #[.bool s4, .int .u64 x4, .pointer p4]) (by simp [results, Tryz.results97, go_sem, g1, g2, g3]) rfl ⟨((k4.setCell (by simp; omega) _).setCell (by simp; omega) _).setCell (by simp; omega) _, _, rfl, Zr.cast (Zr.store ⟨s4, x4, p4, n4, rfl, hd4, hs4a, HV.out⟩ r4.odd (grown3 _ _ _ _ _ _ _ _)) (by exact HF.out)⟩

set_option maxHeartbeats 1600000 in
set_option maxRecDepth 100000 in
theorem zadd_diff_false_lt (xa xb : Int) (pa pb : Option Addr) (y z : Int) (w : World) (hda : Dg w (.agg #[.int .u64 xa, .pointer pa]) y.natAbs) (hdb : Dg w (.agg #[.int .u64 xb, .pointer pb]) z.natAbs) (la : Sz y.natAbs) (lb : Sz z.natAbs)
    (hle : y.natAbs < z.natAbs) (hfin : (if true then -((z.natAbs - y.natAbs : Nat) : Int) else ((z.natAbs - y.natAbs : Nat) : Int)) = y + z) : Calls Tryz.prog 97 #[.agg #[.bool false, .int .u64 xa, .pointer pa], .agg #[.bool true, .int .u64 xb, .pointer pb]] w (PZ (y + z) w) := by
  have HA := Lib.hid hda; have HB := Lib.hid hdb; have HF := Lib.hid hfin
  have hcc := cmpN_lt hle
  have HC := Lib.hid hcc
  have HLE := Lib.hid (Nat.le_of_lt hle)
  clear hcc hle hda hdb hfin
  go_enter Tryz.func97, Tryz.ntmps97
  go_wp2_with fail
  generalize hW : World.alloc _ (Obj.cells #[Value.bool false, Value.int IntKind.u64 0, Value.pointer none] 28) = W
  have f1 : Below w.heap.size w W := by rw [← hW]; exact bl3 _ _ _ _
  have f2 : w.heap.size + 3 ≤ W.heap.size := by rw [← hW]; simp
  have fa : B3 w.heap.size false xa pa W := by rw [← hW]; refine ⟨?_, ?_, ?_⟩ <;> simp [go_sem, World.cell?_alloc_past]
  have fb : B3 (w.heap.size + 1) true xb pb W := by rw [← hW]; refine ⟨?_, ?_, ?_⟩ <;> simp [go_sem, World.cell?_alloc_past]
  have f4 : Rz (w.heap.size + 1 + 1) W := by rw [← hW]; exact rz_new _ (by simp)
  clear hW
  refine (compare_any (.agg #[.int .u64 xa, .pointer pa]) (.agg #[.int .u64 xb, .pointer pb]) y.natAbs z.natAbs W (HA.out.keep (B := w.heap.size) f1 (Nat.le_refl _)) (HB.out.keep (B := w.heap.size) f1 (Nat.le_refl _))).mono ?_
  rintro e w1 ⟨hb1, rfl⟩
  rw [HC.out]
  have fa : B3 w.heap.size false xa pa w1 := B3.keep fa hb1 (by omega)
  have fb : B3 (w.heap.size + 1) true xb pb w1 := B3.keep fb hb1 (by omega)
  have f4 : Rz (w.heap.size + 1 + 1) w1 := Rz.keep f4 hb1 (by omega)
  have f1 : Below w.heap.size w w1 := Below.thru f1 f1.size hb1
  have f2 : w.heap.size + 3 ≤ w1.heap.size := Nat.le_trans f2 hb1.size
  have ca := fa.1; have ca2 := fa.2.1; have ca3 := fa.2.2; have cb := fb.1; have cb2 := fb.2.1; have cb3 := fb.2.2
  go_wp2
  have fa : B3 w.heap.size false xa pa w1.drew := fa
  have fb : B3 (w.heap.size + 1) true xb pb w1.drew := fb
  have f4 : Rz (w.heap.size + 1 + 1) w1.drew := f4
  have f1 : Below w.heap.size w w1.drew := f1.drew
  have f2 : w.heap.size + 3 ≤ w1.drew.heap.size := f2
  go_region_held3 (fun w' => w'.cell? ⟨w.heap.size, 0, none⟩ = some (.bool false) ∧ w'.cell? ⟨w.heap.size, 1, none⟩ = some (.int .u64 xa) ∧ w'.cell? ⟨w.heap.size, 2, none⟩ = some (.pointer pa) ∧ w'.cell? ⟨w.heap.size + 1, 0, none⟩ = some (.bool true) ∧ w'.cell? ⟨w.heap.size + 1, 1, none⟩ = some (.int .u64 xb) ∧ w'.cell? ⟨w.heap.size + 1, 2, none⟩ = some (.pointer pb))
    (first | exact ⟨(B3.stored a4 (by omega) _ _ _).1, (B3.stored a4 (by omega) _ _ _).2.1, (B3.stored a4 (by omega) _ _ _).2.2, (B3.stored b4 (by omega) _ _ _).1, (B3.stored b4 (by omega) _ _ _).2.1, (B3.stored b4 (by omega) _ _ _).2.2⟩ | exact ⟨a4.1, a4.2.1, a4.2.2, b4.1, b4.2.1, b4.2.2⟩ | exact ⟨a3.1, a3.2.1, a3.2.2, b3.1, b3.2.1, b3.2.2⟩ | exact ⟨fa.1, fa.2.1, fa.2.2, fb.1, fb.2.1, fb.2.2⟩)
    (first
      | (go_at_call 125; (with_reducible refine (minus_any (.agg #[.int .u64 xb, .pointer pb]) (.agg #[.int .u64 xa, .pointer pa]) z.natAbs y.natAbs w1.drew (HB.out.keep (B := w.heap.size) f1 (Nat.le_refl _)) (HA.out.keep (B := w.heap.size) f1 (Nat.le_refl _)) lb la HLE.out).mono ?_); rintro e w3 ⟨hb3, v3, rfl, hs3⟩
         have a3 := B3.keep fa hb3 (by omega); have b3 := B3.keep fb hb3 (by omega); have r3 := Rz.keep f4 hb3 (by omega); have k3 := Below.thru f1 f1.size hb3; have z3 : w.heap.size + 3 ≤ w3.heap.size := Nat.le_trans f2 hb3.size)
      | (go_at_call 87; (with_reducible refine (signed_any v3 _ true w3 hs3).mono ?_); rintro e w4 ⟨hb4, v4, rfl, hs4⟩
         have a4 := B3.keep a3 hb4 (by omega); have b4 := B3.keep b3 hb4 (by omega); have r4 := Rz.keep r3 hb4 (by omega); obtain ⟨sq, xq, pq, m1, m2, m3, m4, m5, m6⟩ := r4.cells; obtain ⟨s4, x4, p4, n4, rfl, hd4, hs4a, hs4b⟩ := hs4; have k4 := Below.thru k3 k3.size hb4; have z4 : w.heap.size + 3 ≤ w4.heap.size := Nat.le_trans z3 hb4.size; have HV := Lib.hid hs4b; clear hs4b))
  obtain ⟨g1, g2, g3⟩ := three_cells m1 m2 m3 (.bool s4) (.int .u64 x4) (.pointer p4)
  go_wp2
  exact bodyPost_ret (v := .agg #[.bool s4, .int .u64 x4, .pointer p4]) (by simp [results, Tryz.results97, go_sem, g1, g2, g3]) rfl ⟨((k4.setCell (by simp; omega) _).setCell (by simp; omega) _).setCell (by simp; omega) _, _, rfl, Zr.cast (Zr.store ⟨s4, x4, p4, n4, rfl, hd4, hs4a, HV.out⟩ r4.odd (grown3 _ _ _ _ _ _ _ _)) (by exact HF.out)⟩

set_option maxHeartbeats 1600000 in
set_option maxRecDepth 100000 in
theorem zadd_diff_true_ge (xa xb : Int) (pa pb : Option Addr) (y z : Int) (w : World) (hda : Dg w (.agg #[.int .u64 xa, .pointer pa]) y.natAbs) (hdb : Dg w (.agg #[.int .u64 xb, .pointer pb]) z.natAbs) (la : Sz y.natAbs) (lb : Sz z.natAbs)
    (hle : z.natAbs ≤ y.natAbs) (hfin : (if true then -((y.natAbs - z.natAbs : Nat) : Int) else ((y.natAbs - z.natAbs : Nat) : Int)) = y + z) : Calls Tryz.prog 97 #[.agg #[.bool true, .int .u64 xa, .pointer pa], .agg #[.bool false, .int .u64 xb, .pointer pb]] w (PZ (y + z) w) := by
  have HA := Lib.hid hda; have HB := Lib.hid hdb; have HF := Lib.hid hfin
  have hc := cmpN_ge hle
  generalize hcc : cmpN y.natAbs z.natAbs = c at hc
  have HC := Lib.hid hcc
  have HLE := Lib.hid hle
  clear hcc hle hda hdb hfin
  go_enter Tryz.func97, Tryz.ntmps97
  go_wp2_with fail
  generalize hW : World.alloc _ (Obj.cells #[Value.bool false, Value.int IntKind.u64 0, Value.pointer none] 28) = W
  have f1 : Below w.heap.size w W := by rw [← hW]; exact bl3 _ _ _ _
  have f2 : w.heap.size + 3 ≤ W.heap.size := by rw [← hW]; simp
  have fa : B3 w.heap.size true xa pa W := by rw [← hW]; refine ⟨?_, ?_, ?_⟩ <;> simp [go_sem, World.cell?_alloc_past]
  have fb : B3 (w.heap.size + 1) false xb pb W := by rw [← hW]; refine ⟨?_, ?_, ?_⟩ <;> simp [go_sem, World.cell?_alloc_past]
  have f4 : Rz (w.heap.size + 1 + 1) W := by rw [← hW]; exact rz_new _ (by simp)
  clear hW
  refine (compare_any (.agg #[.int .u64 xa, .pointer pa]) (.agg #[.int .u64 xb, .pointer pb]) y.natAbs z.natAbs W (HA.out.keep (B := w.heap.size) f1 (Nat.le_refl _)) (HB.out.keep (B := w.heap.size) f1 (Nat.le_refl _))).mono ?_
  rintro e w1 ⟨hb1, rfl⟩
  rw [HC.out]
  have fa : B3 w.heap.size true xa pa w1 := B3.keep fa hb1 (by omega)
  have fb : B3 (w.heap.size + 1) false xb pb w1 := B3.keep fb hb1 (by omega)
  have f4 : Rz (w.heap.size + 1 + 1) w1 := Rz.keep f4 hb1 (by omega)
  have f1 : Below w.heap.size w w1 := Below.thru f1 f1.size hb1
  have f2 : w.heap.size + 3 ≤ w1.heap.size := Nat.le_trans f2 hb1.size
  have ca := fa.1; have ca2 := fa.2.1; have ca3 := fa.2.2; have cb := fb.1; have cb2 := fb.2.1; have cb3 := fb.2.2
  go_wp2
  have fa : B3 w.heap.size true xa pa w1.drew := fa
  have fb : B3 (w.heap.size + 1) false xb pb w1.drew := fb
  have f4 : Rz (w.heap.size + 1 + 1) w1.drew := f4
  have f1 : Below w.heap.size w w1.drew := f1.drew
  have f2 : w.heap.size + 3 ≤ w1.drew.heap.size := f2
  go_region_held3 (fun w' => w'.cell? ⟨w.heap.size, 0, none⟩ = some (.bool true) ∧ w'.cell? ⟨w.heap.size, 1, none⟩ = some (.int .u64 xa) ∧ w'.cell? ⟨w.heap.size, 2, none⟩ = some (.pointer pa) ∧ w'.cell? ⟨w.heap.size + 1, 0, none⟩ = some (.bool false) ∧ w'.cell? ⟨w.heap.size + 1, 1, none⟩ = some (.int .u64 xb) ∧ w'.cell? ⟨w.heap.size + 1, 2, none⟩ = some (.pointer pb))
    (first | exact ⟨(B3.stored a4 (by omega) _ _ _).1, (B3.stored a4 (by omega) _ _ _).2.1, (B3.stored a4 (by omega) _ _ _).2.2, (B3.stored b4 (by omega) _ _ _).1, (B3.stored b4 (by omega) _ _ _).2.1, (B3.stored b4 (by omega) _ _ _).2.2⟩ | exact ⟨a4.1, a4.2.1, a4.2.2, b4.1, b4.2.1, b4.2.2⟩ | exact ⟨a3.1, a3.2.1, a3.2.2, b3.1, b3.2.1, b3.2.2⟩ | exact ⟨fa.1, fa.2.1, fa.2.2, fb.1, fb.2.1, fb.2.2⟩)
    (first
      | (go_at_call 125; (with_reducible refine (minus_any (.agg #[.int .u64 xa, .pointer pa]) (.agg #[.int .u64 xb, .pointer pb]) y.natAbs z.natAbs w1.drew (HA.out.keep (B := w.heap.size) f1 (Nat.le_refl _)) (HB.out.keep (B := w.heap.size) f1 (Nat.le_refl _)) la lb HLE.out).mono ?_); rintro e w3 ⟨hb3, v3, rfl, hs3⟩
         have a3 := B3.keep fa hb3 (by omega); have b3 := B3.keep fb hb3 (by omega); have r3 := Rz.keep f4 hb3 (by omega); have k3 := Below.thru f1 f1.size hb3; have z3 : w.heap.size + 3 ≤ w3.heap.size := Nat.le_trans f2 hb3.size)
      | (go_at_call 87; (with_reducible refine (signed_any v3 _ true w3 hs3).mono ?_); rintro e w4 ⟨hb4, v4, rfl, hs4⟩
         have a4 := B3.keep a3 hb4 (by omega); have b4 := B3.keep b3 hb4 (by omega); have r4 := Rz.keep r3 hb4 (by omega); obtain ⟨sq, xq, pq, m1, m2, m3, m4, m5, m6⟩ := r4.cells; obtain ⟨s4, x4, p4, n4, rfl, hd4, hs4a, hs4b⟩ := hs4; have k4 := Below.thru k3 k3.size hb4; have z4 : w.heap.size + 3 ≤ w4.heap.size := Nat.le_trans z3 hb4.size; have HV := Lib.hid hs4b; clear hs4b))
  obtain ⟨g1, g2, g3⟩ := three_cells m1 m2 m3 (.bool s4) (.int .u64 x4) (.pointer p4)
  go_wp2
  exact bodyPost_ret (v := .agg #[.bool s4, .int .u64 x4, .pointer p4]) (by simp [results, Tryz.results97, go_sem, g1, g2, g3]) rfl ⟨((k4.setCell (by simp; omega) _).setCell (by simp; omega) _).setCell (by simp; omega) _, _, rfl, Zr.cast (Zr.store ⟨s4, x4, p4, n4, rfl, hd4, hs4a, HV.out⟩ r4.odd (grown3 _ _ _ _ _ _ _ _)) (by exact HF.out)⟩

set_option maxHeartbeats 1600000 in
set_option maxRecDepth 100000 in
theorem zadd_diff_true_lt (xa xb : Int) (pa pb : Option Addr) (y z : Int) (w : World) (hda : Dg w (.agg #[.int .u64 xa, .pointer pa]) y.natAbs) (hdb : Dg w (.agg #[.int .u64 xb, .pointer pb]) z.natAbs) (la : Sz y.natAbs) (lb : Sz z.natAbs)
    (hle : y.natAbs < z.natAbs) (hfin : (if false then -((z.natAbs - y.natAbs : Nat) : Int) else ((z.natAbs - y.natAbs : Nat) : Int)) = y + z) : Calls Tryz.prog 97 #[.agg #[.bool true, .int .u64 xa, .pointer pa], .agg #[.bool false, .int .u64 xb, .pointer pb]] w (PZ (y + z) w) := by
  have HA := Lib.hid hda; have HB := Lib.hid hdb; have HF := Lib.hid hfin
  have hcc := cmpN_lt hle
  have HC := Lib.hid hcc
  have HLE := Lib.hid (Nat.le_of_lt hle)
  clear hcc hle hda hdb hfin
  go_enter Tryz.func97, Tryz.ntmps97
  go_wp2_with fail
  generalize hW : World.alloc _ (Obj.cells #[Value.bool false, Value.int IntKind.u64 0, Value.pointer none] 28) = W
  have f1 : Below w.heap.size w W := by rw [← hW]; exact bl3 _ _ _ _
  have f2 : w.heap.size + 3 ≤ W.heap.size := by rw [← hW]; simp
  have fa : B3 w.heap.size true xa pa W := by rw [← hW]; refine ⟨?_, ?_, ?_⟩ <;> simp [go_sem, World.cell?_alloc_past]
  have fb : B3 (w.heap.size + 1) false xb pb W := by rw [← hW]; refine ⟨?_, ?_, ?_⟩ <;> simp [go_sem, World.cell?_alloc_past]
  have f4 : Rz (w.heap.size + 1 + 1) W := by rw [← hW]; exact rz_new _ (by simp)
  clear hW
  refine (compare_any (.agg #[.int .u64 xa, .pointer pa]) (.agg #[.int .u64 xb, .pointer pb]) y.natAbs z.natAbs W (HA.out.keep (B := w.heap.size) f1 (Nat.le_refl _)) (HB.out.keep (B := w.heap.size) f1 (Nat.le_refl _))).mono ?_
  rintro e w1 ⟨hb1, rfl⟩
  rw [HC.out]
  have fa : B3 w.heap.size true xa pa w1 := B3.keep fa hb1 (by omega)
  have fb : B3 (w.heap.size + 1) false xb pb w1 := B3.keep fb hb1 (by omega)
  have f4 : Rz (w.heap.size + 1 + 1) w1 := Rz.keep f4 hb1 (by omega)
  have f1 : Below w.heap.size w w1 := Below.thru f1 f1.size hb1
  have f2 : w.heap.size + 3 ≤ w1.heap.size := Nat.le_trans f2 hb1.size
  have ca := fa.1; have ca2 := fa.2.1; have ca3 := fa.2.2; have cb := fb.1; have cb2 := fb.2.1; have cb3 := fb.2.2
  go_wp2
  have fa : B3 w.heap.size true xa pa w1.drew := fa
  have fb : B3 (w.heap.size + 1) false xb pb w1.drew := fb
  have f4 : Rz (w.heap.size + 1 + 1) w1.drew := f4
  have f1 : Below w.heap.size w w1.drew := f1.drew
  have f2 : w.heap.size + 3 ≤ w1.drew.heap.size := f2
  go_region_held3 (fun w' => w'.cell? ⟨w.heap.size, 0, none⟩ = some (.bool true) ∧ w'.cell? ⟨w.heap.size, 1, none⟩ = some (.int .u64 xa) ∧ w'.cell? ⟨w.heap.size, 2, none⟩ = some (.pointer pa) ∧ w'.cell? ⟨w.heap.size + 1, 0, none⟩ = some (.bool false) ∧ w'.cell? ⟨w.heap.size + 1, 1, none⟩ = some (.int .u64 xb) ∧ w'.cell? ⟨w.heap.size + 1, 2, none⟩ = some (.pointer pb))
    (first | exact ⟨(B3.stored a4 (by omega) _ _ _).1, (B3.stored a4 (by omega) _ _ _).2.1, (B3.stored a4 (by omega) _ _ _).2.2, (B3.stored b4 (by omega) _ _ _).1, (B3.stored b4 (by omega) _ _ _).2.1, (B3.stored b4 (by omega) _ _ _).2.2⟩ | exact ⟨a4.1, a4.2.1, a4.2.2, b4.1, b4.2.1, b4.2.2⟩ | exact ⟨a3.1, a3.2.1, a3.2.2, b3.1, b3.2.1, b3.2.2⟩ | exact ⟨fa.1, fa.2.1, fa.2.2, fb.1, fb.2.1, fb.2.2⟩)
    (first
      | (go_at_call 125; (with_reducible refine (minus_any (.agg #[.int .u64 xb, .pointer pb]) (.agg #[.int .u64 xa, .pointer pa]) z.natAbs y.natAbs w1.drew (HB.out.keep (B := w.heap.size) f1 (Nat.le_refl _)) (HA.out.keep (B := w.heap.size) f1 (Nat.le_refl _)) lb la HLE.out).mono ?_); rintro e w3 ⟨hb3, v3, rfl, hs3⟩
         have a3 := B3.keep fa hb3 (by omega); have b3 := B3.keep fb hb3 (by omega); have r3 := Rz.keep f4 hb3 (by omega); have k3 := Below.thru f1 f1.size hb3; have z3 : w.heap.size + 3 ≤ w3.heap.size := Nat.le_trans f2 hb3.size)
      | (go_at_call 87; (with_reducible refine (signed_any v3 _ false w3 hs3).mono ?_); rintro e w4 ⟨hb4, v4, rfl, hs4⟩
         have a4 := B3.keep a3 hb4 (by omega); have b4 := B3.keep b3 hb4 (by omega); have r4 := Rz.keep r3 hb4 (by omega); obtain ⟨sq, xq, pq, m1, m2, m3, m4, m5, m6⟩ := r4.cells; obtain ⟨s4, x4, p4, n4, rfl, hd4, hs4a, hs4b⟩ := hs4; have k4 := Below.thru k3 k3.size hb4; have z4 : w.heap.size + 3 ≤ w4.heap.size := Nat.le_trans z3 hb4.size; have HV := Lib.hid hs4b; clear hs4b))
  obtain ⟨g1, g2, g3⟩ := three_cells m1 m2 m3 (.bool s4) (.int .u64 x4) (.pointer p4)
  go_wp2
  exact bodyPost_ret (v := .agg #[.bool s4, .int .u64 x4, .pointer p4]) (by simp [results, Tryz.results97, go_sem, g1, g2, g3]) rfl ⟨((k4.setCell (by simp; omega) _).setCell (by simp; omega) _).setCell (by simp; omega) _, _, rfl, Zr.cast (Zr.store ⟨s4, x4, p4, n4, rfl, hd4, hs4a, HV.out⟩ r4.odd (grown3 _ _ _ _ _ _ _ _)) (by exact HF.out)⟩

theorem zadd_any (va vb : Value) (y z : Int) (w : World) (ha : Zr w va y) (hb : Zr w vb z) (la : Sz y.natAbs) (lb : Sz z.natAbs) : Calls Tryz.prog 97 #[va, vb] w (PZ (y + z) w) := by
  obtain ⟨sa, xa, pa, rfl, hda, ha1, ha2⟩ := ha.dg
  obtain ⟨sb, xb, pb, rfl, hdb, hb1, hb2⟩ := hb.dg
  have HA := Lib.hid hda; have HB := Lib.hid hdb
  clear HA HB ha hb
  cases sa <;> cases sb <;> simp only [Bool.false_eq_true, false_implies, forall_const] at ha1 ha2 hb1 hb2
  · exact zadd_same_false xa xb pa pb y z w hda hdb la lb (by simp; omega)
  · rcases Nat.lt_or_ge y.natAbs z.natAbs with h | h
    · exact zadd_diff_false_lt xa xb pa pb y z w hda hdb la lb h (by simp; omega)
    · exact zadd_diff_false_ge xa xb pa pb y z w hda hdb la lb h (by simp; omega)
  · rcases Nat.lt_or_ge y.natAbs z.natAbs with h | h
    · exact zadd_diff_true_lt xa xb pa pb y z w hda hdb la lb h (by simp; omega)
    · exact zadd_diff_true_ge xa xb pa pb y z w hda hdb la lb h (by simp; omega)
  · exact zadd_same_true xa xb pa pb y z w hda hdb la lb (by simp; omega)
end Go.Proofs.YtjjomjjgoceklaaGreat
