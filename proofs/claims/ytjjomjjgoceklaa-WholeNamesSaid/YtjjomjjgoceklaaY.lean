import Derived.Test.YtjjomjjgoceklaaX
namespace Go.Proofs.Ytjjomjjgoceklaa
open Go.RowKit

/-- two boxed integers at B and B + 1 -/
@[reducible] def Z6 (B : Nat) (sa : Bool) (xa : Int) (pa : Option Addr) (sb : Bool) (xb : Int) (pb : Option Addr) (w' : World) : Prop :=
  w'.cell? ⟨B, 0, none⟩ = some (.bool sa) ∧ w'.cell? ⟨B, 1, none⟩ = some (.int .u64 xa) ∧ w'.cell? ⟨B, 2, none⟩ = some (.pointer pa) ∧ w'.cell? ⟨B + 1, 0, none⟩ = some (.bool sb) ∧ w'.cell? ⟨B + 1, 1, none⟩ = some (.int .u64 xb) ∧ w'.cell? ⟨B + 1, 2, none⟩ = some (.pointer pb)
theorem Z6.mk {B : Nat} {sa : Bool} {xa : Int} {pa : Option Addr} {sb : Bool} {xb : Int} {pb : Option Addr} {w' : World} (a : B3 B sa xa pa w') (b : B3 (B + 1) sb xb pb w') : Z6 B sa xa pa sb xb pb w' := ⟨a.1, a.2.1, a.2.2, b.1, b.2.1, b.2.2⟩
set_option maxRecDepth 100000 in
set_option maxHeartbeats 800000 in
theorem zsub_any (va vb : Value) (y z : Int) (w : World) (ha : Zr w va y) (hb : Zr w vb z) (la : Sz y.natAbs) (lb : Sz z.natAbs) : Calls Try.prog 16 #[va, vb] w (PZ (y - z) w) := by
  have ha' := ha; have hb' := hb
  obtain ⟨sa, xa, pa, _, rfl, _⟩ := ha'
  obtain ⟨sb, xb, pb, _, rfl, _⟩ := hb'
  have HA := Lib.hid ha; have HB := Lib.hid hb
  clear ha hb
  have lb' : Sz (-z).natAbs := by rw [Int.natAbs_neg]; exact lb
  go_enter Try.func16, Try.ntmps16
  go_wp2
  generalize hW : World.alloc _ (Obj.cells #[Value.bool false, Value.int IntKind.u64 0, Value.pointer none] 29) = W
  have k0 : Below w.heap.size w W := by rw [← hW]; exact bl3 _ _ _ _
  have z0 : w.heap.size + 3 ≤ W.heap.size := by rw [← hW]; simp
  have a0 : B3 w.heap.size sa xa pa W := by rw [← hW]; refine ⟨?_, ?_, ?_⟩ <;> simp [go_sem, World.cell?_alloc_past]
  have b0 : B3 (w.heap.size + 1) sb xb pb W := by rw [← hW]; refine ⟨?_, ?_, ?_⟩ <;> simp [go_sem, World.cell?_alloc_past]
  have t0 : Rz (w.heap.size + 1 + 1) W := by rw [← hW]; exact rz_new _ (by simp)
  clear hW
  have k0 : Below w.heap.size w W.drew := k0.drew
  have z0 : w.heap.size + 3 ≤ W.drew.heap.size := z0
  have a0 : B3 w.heap.size sa xa pa W.drew := a0
  have b0 : B3 (w.heap.size + 1) sb xb pb W.drew := b0
  have t0 : Rz (w.heap.size + 1 + 1) W.drew := t0
  have q0 := Z6.mk a0 b0
  go_region_held3 (fun w' => w'.cell? ⟨w.heap.size, 0, none⟩ = some (.bool sa) ∧ w'.cell? ⟨w.heap.size, 1, none⟩ = some (.int .u64 xa) ∧ w'.cell? ⟨w.heap.size, 2, none⟩ = some (.pointer pa) ∧ w'.cell? ⟨w.heap.size + 1, 0, none⟩ = some (.bool sb) ∧ w'.cell? ⟨w.heap.size + 1, 1, none⟩ = some (.int .u64 xb) ∧ w'.cell? ⟨w.heap.size + 1, 2, none⟩ = some (.pointer pb))
    (first | (with_reducible exact q3) | (with_reducible exact q2) | (with_reducible exact q1) | (with_reducible exact q0))
    (first
      | (go_at_call 20; (with_reducible refine (neg_any (.agg #[.bool sb, .int .u64 xb, .pointer pb]) z W.drew (HB.out.keep (B := w.heap.size) k0 (Nat.le_refl _))).mono ?_); rintro e w1 ⟨hb1, v1, rfl, h1⟩
         have a1 := B3.keep a0 hb1 (by omega); have b1 := B3.keep b0 hb1 (by omega); have t1 := Rz.keep t0 hb1 (by omega); have k1 := Below.thru k0 k0.size hb1; have z1 : w.heap.size + 3 ≤ w1.heap.size := Nat.le_trans z0 hb1.size; have q1 := Z6.mk a1 b1)
      | (go_at_call 14; (with_reducible refine (zadd_any (.agg #[.bool sa, .int .u64 xa, .pointer pa]) v1 y (-z) w1 (HA.out.keep (B := w.heap.size) k1 (Nat.le_refl _)) h1 la lb').mono ?_); rintro e w2 ⟨hb2, v2, rfl, h2⟩
         have a2 := B3.keep a1 hb2 (by omega); have b2 := B3.keep b1 hb2 (by omega); have t2 := Rz.keep t1 hb2 (by omega); have k2 := Below.thru k1 k1.size hb2; have z2 : w.heap.size + 3 ≤ w2.heap.size := Nat.le_trans z1 hb2.size; have q2 := Z6.mk a2 b2
         obtain ⟨s4, x4, p4, n4, rfl, h4⟩ := h2; obtain ⟨_, _, _, m1, m2, m3, m4, m5, m6⟩ := t2.cells
         have q3 := Z6.mk (B3.stored a2 (T := w.heap.size + 1 + 1) (by omega) (.bool s4) (.int .u64 x4) (.pointer p4)) (B3.stored b2 (T := w.heap.size + 1 + 1) (by omega) (.bool s4) (.int .u64 x4) (.pointer p4))))
  obtain ⟨g1, g2, g3⟩ := three_cells m1 m2 m3 (.bool s4) (.int .u64 x4) (.pointer p4)
  have H4 := Lib.hid h4
  clear h4 q0 q1 q2 q3
  have Z4 : Zr w2 (.agg #[.bool s4, .int .u64 x4, .pointer p4]) _ := ⟨s4, x4, p4, n4, rfl, H4.out⟩
  have HR := Lib.hid ((Z4.store t2.odd (grown3 w2 (w.heap.size + 1 + 1) 0 1 2 (.bool s4) (.int .u64 x4) (.pointer p4))).cast (show y + -z = y - z by omega))
  clear Z4
  go_wp2
  exact bodyPost_ret (v := .agg #[.bool s4, .int .u64 x4, .pointer p4]) (by simp [results, Try.results16, go_sem, g1, g2, g3]) rfl ⟨below3 k2 (by omega) _ _ _, _, rfl, HR.out⟩

/-- the sign of a - b -/
def sgnZ (y z : Int) : Int := if y < z then -1 else if y = z then 0 else 1
def PSg (y z : Int) (w : World) (e : Ending) (w' : World) : Prop := Below w.heap.size w w' ∧ e = .returned (.int .i64 (sgnZ y z))
theorem PSg.ret {y z : Int} {w w' : World} {n : Int} (hb : Below w.heap.size w w') (h : n = sgnZ y z) : PSg y z w (.returned (.int .i64 n)) w' := ⟨hb, by rw [h]⟩
theorem zcmp_any (va vb : Value) (y z : Int) (w : World) (ha : Zr w va y) (hb : Zr w vb z) : Calls Try.prog 25 #[va, vb] w (PSg y z w) := by
  obtain ⟨sa, xa, pa, rfl, hda, ha1, ha2⟩ := ha.dg
  obtain ⟨sb, xb, pb, rfl, hdb, hb1, hb2⟩ := hb.dg
  have HA := Lib.hid hda; have HB := Lib.hid hdb
  clear ha hb hda hdb
  cases sa <;> cases sb <;> simp only [Bool.false_eq_true, false_implies, forall_const] at ha1 ha2 hb1 hb2
  · have HF := Lib.hid (show cmpN y.natAbs z.natAbs = sgnZ y z by unfold cmpN sgnZ; split <;> split <;> (try split) <;> (try split) <;> omega)
    clear ha1 ha2 hb1 hb2
    go_enter Try.func25, Try.ntmps25
    go_wp2_with fail
    refine (compare_any _ _ y.natAbs z.natAbs _ (HA.out.keep (bl2 _ _ _) (Nat.le_refl _)) (HB.out.keep (bl2 _ _ _) (Nat.le_refl _))).mono ?_
    rintro e w1 ⟨hb1, rfl⟩
    go_wp2
    go_ret
    exact PSg.ret (Below.thru (bl2 _ _ _) (by simp <;> omega) hb1) HF.out
  · have HF := Lib.hid (show (1 : Int) = sgnZ y z by unfold sgnZ; split <;> (try split) <;> omega)
    clear ha1 ha2 hb1 hb2
    go_enter Try.func25, Try.ntmps25
    go_wp2_with (go_at_call 58; refine (signOf_t _).mono ?_; rintro e w1 ⟨rfl, rfl⟩)
    go_ret
    exact PSg.ret (bl2 _ _ _) HF.out
  · have HF := Lib.hid (show (-1 : Int) = sgnZ y z by unfold sgnZ; split <;> (try split) <;> omega)
    clear ha1 ha2 hb1 hb2
    go_enter Try.func25, Try.ntmps25
    go_wp2_with (go_at_call 58; refine (signOf_f _).mono ?_; rintro e w1 ⟨rfl, rfl⟩)
    go_ret
    exact PSg.ret (bl2 _ _ _) HF.out
  · have HF := Lib.hid (show cmpN z.natAbs y.natAbs = sgnZ y z by unfold cmpN sgnZ; split <;> split <;> (try split) <;> (try split) <;> omega)
    clear ha1 ha2 hb1 hb2
    go_enter Try.func25, Try.ntmps25
    go_wp2_with fail
    refine (compare_any _ _ z.natAbs y.natAbs _ (HB.out.keep (bl2 _ _ _) (Nat.le_refl _)) (HA.out.keep (bl2 _ _ _) (Nat.le_refl _))).mono ?_
    rintro e w1 ⟨hb1, rfl⟩
    go_wp2
    go_ret
    exact PSg.ret (Below.thru (bl2 _ _ _) (by simp <;> omega) hb1) HF.out

theorem Rq.mk5 (w : World) (s : Bool) (x : Int) (p : Option Addr) (y : Int) (q : Option Addr) : Rq w.heap.size (w.alloc (.cells #[.bool s, .int .u64 x, .pointer p, .int .u64 y, .pointer q] 61)) := ⟨s, x, p, y, q, Go.Deep.blk_alloc_new _ _⟩
/-- the ratio of a text that Parse reads -/
theorem r_any (s : ByteArray) (n : Int) (d : Nat) (er : Int) (w : World) (h : ∀ W, Calls Try.prog 33 #[.string s] W (PRe n d er W)) : Calls Try.prog 40 #[.string s] w (PR n d w) := by
  have H := Lib.hid h
  clear h
  go_enter Try.func40, Try.ntmps40
  go_wp2_with fail
  refine (H.out _).mono ?_
  rintro e w1 ⟨hb1, v1, rfl, h1⟩
  have t1 : Rq w.heap.size w1 := Rq.keep (rq_new _ rfl) hb1 (by simp)
  have k1 := Below.thru (bl1 w _) (by simp) hb1
  have z1 : w.heap.size + 1 ≤ w1.heap.size := Nat.le_trans (by simp) hb1.size
  obtain ⟨s5, x5, p5, y5, q5, rfl⟩ := h1.agg
  have t2 := t1.alloc (.cells #[.bool s5, .int .u64 x5, .pointer p5, .int .u64 y5, .pointer q5] 61)
  have k2 := Below.thru k1 k1.size (bl1 w1 (.cells #[.bool s5, .int .u64 x5, .pointer p5, .int .u64 y5, .pointer q5] 61))
  have h2 := h1.keep (bl1 w1 (.cells #[.bool s5, .int .u64 x5, .pointer p5, .int .u64 y5, .pointer q5] 61)) (Nat.le_refl _)
  obtain ⟨_, _, _, _, _, m1, m2, m3, m4, m5, m6, m7, m8, m9, m10⟩ := t2.cells
  obtain ⟨i1, i2, i3, i4, i5⟩ := five_cells m1 m2 m3 m4 m5 (.bool s5) (.int .u64 x5) (.pointer p5) (.int .u64 y5) (.pointer q5)
  unfold st5 at i1 i2 i3 i4 i5
  have HR := Lib.hid (h2.store t2.odd (grown5 (w1.alloc (.cells #[.bool s5, .int .u64 x5, .pointer p5, .int .u64 y5, .pointer q5] 61)) w.heap.size (.bool s5) (.int .u64 x5) (.pointer p5) (.int .u64 y5) (.pointer q5)))
  clear hb1 h1 h2
  go_wp2
  exact bodyPost_ret (v := .agg #[.bool s5, .int .u64 x5, .pointer p5, .int .u64 y5, .pointer q5]) (by simp [results, Try.results40, go_sem, i1, i2, i3, i4, i5]) rfl ⟨below5 k2 (Nat.le_refl _) _ _ _ _ _, _, rfl, HR.out⟩
end Go.Proofs.Ytjjomjjgoceklaa
