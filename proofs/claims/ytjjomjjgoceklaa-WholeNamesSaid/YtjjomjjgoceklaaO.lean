import Derived.Test.YtjjomjjgoceklaaN
namespace Go.Proofs.Ytjjomjjgoceklaa
open Go.RowKit

set_option maxHeartbeats 1600000 in
theorem multiple_no (vz vd : Value) (z : Int) (d : Nat) (w : World) (hz : Zr w vz z) (hd : Dg w vd d) (hd1 : d ≠ 1) (la : Sz z.natAbs) (lb : Sz d) : Calls Try.prog 96 #[vz, vd] w (PZ (z * d) w) := by
  obtain ⟨s, xa, pa, rfl, hda, h1, h2⟩ := hz.dg
  obtain ⟨xd, pd, rfl⟩ := hd.agg
  have HA := Lib.hid hda; have HD := Lib.hid hd
  have hfin : (if s then -((z.natAbs * d : Nat) : Int) else ((z.natAbs * d : Nat) : Int)) = z * d := by
    cases s with
    | false => 
      obtain ⟨n, rfl⟩ := Int.eq_ofNat_of_zero_le (h2 rfl)
      simp
    | true =>
      obtain ⟨n, rfl⟩ : ∃ n : Nat, z = -(n : Int) := ⟨z.natAbs, by have := h1 rfl; omega⟩
      simp [Int.neg_mul]
  have HF := Lib.hid hfin
  have H1 := Lib.hid hd1
  clear hz hd hda h1 h2 hfin hd1
  go_enter Try.func96, Try.ntmps96
  go_wp2_with (go_at_call 74; refine (isOne_no _ (HD.out.keep (bl3 _ _ _ _) (Nat.le_refl _)) H1.out).mono ?_; rintro e w1 ⟨rfl, c1, t1, rfl⟩)
  generalize hW : World.alloc _ (Obj.cells c1 t1) = W
  have f1 : Below w.heap.size w W := by rw [← hW]; exact Below.thru (bl3 _ _ _ _) (by simp <;> omega) (bl2 _ _ _)
  have f2 : w.heap.size + 3 ≤ W.heap.size := by rw [← hW]; simp
  have fa : B3 w.heap.size s xa pa W := by rw [← hW]; refine ⟨?_, ?_, ?_⟩ <;> simp [go_sem, World.cell?_alloc_past]
  have fb : Bd (w.heap.size + 1) (.int .u64 xd) (.pointer pd) W := by rw [← hW]; refine ⟨?_, ?_⟩ <;> simp [go_sem, World.cell?_alloc_past]
  have f4 : Rz (w.heap.size + 1 + 1) W := by rw [← hW]; exact ((rz_new _ (by simp)).alloc _).alloc _
  clear hW
  have fa : B3 w.heap.size s xa pa W.drew := fa
  have fb : Bd (w.heap.size + 1) (.int .u64 xd) (.pointer pd) W.drew := fb
  have f4 : Rz (w.heap.size + 1 + 1) W.drew := f4
  have f1 : Below w.heap.size w W.drew := f1.drew
  have f2 : w.heap.size + 3 ≤ W.drew.heap.size := f2
  go_region_held3 (fun w' => w'.cell? ⟨w.heap.size, 0, none⟩ = some (.bool s) ∧ w'.cell? ⟨w.heap.size, 1, none⟩ = some (.int .u64 xa) ∧ w'.cell? ⟨w.heap.size, 2, none⟩ = some (.pointer pa) ∧ w'.cell? ⟨w.heap.size + 1, 0, none⟩ = some (.int .u64 xd) ∧ w'.cell? ⟨w.heap.size + 1, 1, none⟩ = some (.pointer pd))
    (first | exact ⟨(B3.stored a4 (by omega) _ _ _).1, (B3.stored a4 (by omega) _ _ _).2.1, (B3.stored a4 (by omega) _ _ _).2.2, (Bd.stored b4 (by omega) _ _ _).1, (Bd.stored b4 (by omega) _ _ _).2⟩ | exact ⟨a4.1, a4.2.1, a4.2.2, b4.1, b4.2⟩ | exact ⟨a3.1, a3.2.1, a3.2.2, b3.1, b3.2⟩ | exact ⟨fa.1, fa.2.1, fa.2.2, fb.1, fb.2⟩)
    (first
      | (go_at_call 56; (with_reducible refine (times_any (.agg #[.int .u64 xa, .pointer pa]) (.agg #[.int .u64 xd, .pointer pd]) z.natAbs d W.drew (HA.out.keep (B := w.heap.size) f1 (Nat.le_refl _)) (HD.out.keep (B := w.heap.size) f1 (Nat.le_refl _)) la lb).mono ?_); rintro e w3 ⟨hb3, v3, rfl, hs3⟩
         have a3 := B3.keep fa hb3 (by omega); have b3 := Bd.keep fb hb3 (by omega); have r3 := Rz.keep f4 hb3 (by omega); have k3 := Below.thru f1 f1.size hb3; have z3 : w.heap.size + 3 ≤ w3.heap.size := Nat.le_trans f2 hb3.size)
      | (go_at_call 51; (with_reducible refine (signed_any v3 _ s w3 hs3).mono ?_); rintro e w4 ⟨hb4, v4, rfl, hs4⟩
         have a4 := B3.keep a3 hb4 (by omega); have b4 := Bd.keep b3 hb4 (by omega); have r4 := Rz.keep r3 hb4 (by omega); obtain ⟨sq, xq, pq, m1, m2, m3, m4, m5, m6⟩ := r4.cells; obtain ⟨s4, x4, p4, n4, rfl, hd4, hs4a, hs4b⟩ := hs4; have k4 := Below.thru k3 k3.size hb4; have z4 : w.heap.size + 3 ≤ w4.heap.size := Nat.le_trans z3 hb4.size; have HV := Lib.hid hs4b; clear hs4b))
  obtain ⟨g1, g2, g3⟩ := three_cells m1 m2 m3 (.bool s4) (.int .u64 x4) (.pointer p4)
  go_wp2
  exact bodyPost_ret (v := .agg #[.bool s4, .int .u64 x4, .pointer p4]) (by simp [results, Try.results96, go_sem, g1, g2, g3]) rfl ⟨((k4.setCell (by simp; omega) _).setCell (by simp; omega) _).setCell (by simp; omega) _, _, rfl, Zr.cast (Zr.store ⟨s4, x4, p4, n4, rfl, hd4, hs4a, HV.out⟩ r4.odd (grown3 _ _ _ _ _ _ _ _)) HF.out⟩
theorem multiple_any (vz vd : Value) (z : Int) (d : Nat) (w : World) (hz : Zr w vz z) (hd : Dg w vd d) (la : Sz z.natAbs) (lb : Sz d) : Calls Try.prog 96 #[vz, vd] w (PZ (z * d) w) := by
  by_cases h1 : d = 1
  · have hz' := hz
    obtain ⟨s, xa, pa, n, rfl, _, _, _⟩ := hz'
    obtain ⟨xd, pd, rfl⟩ := hd.agg
    have HA := Lib.hid hz; have HD := Lib.hid hd; have H1 := Lib.hid h1
    clear hz hd h1
    go_enter Try.func96, Try.ntmps96
    go_wp2_with (go_at_call 74; refine (isOne_yes _ (HD.out.keep (bl3 _ _ _ _) (Nat.le_refl _)) H1.out).mono ?_; rintro e w1 ⟨rfl, c1, t1, rfl⟩)
    refine bodyPost_ret (v := .agg #[.bool s, .int .u64 xa, .pointer pa]) (by simp [results, Try.results96, go_sem]) rfl ⟨?_, _, rfl, (HA.out.cast (by rw [H1.out]; simp)).keep (B := w.heap.size) ?_ (Nat.le_refl _)⟩
    · exact Below.thru (bl3 _ _ _ _) (by simp <;> omega) (bl2 _ _ _)
    · exact Below.thru (bl3 _ _ _ _) (by simp <;> omega) (bl2 _ _ _)
  · exact multiple_no vz vd z d w hz hd h1 la lb

/-! ratios -/
/-- v is an R value: n over d in lowest terms -/
def Rr (w : World) (v : Value) (n : Int) (d : Nat) : Prop :=
  ∃ (s : Bool) (x : Int) (p : Option Addr) (y : Int) (q : Option Addr), v = .agg #[.bool s, .int .u64 x, .pointer p, .int .u64 y, .pointer q] ∧
    Zr w (.agg #[.bool s, .int .u64 x, .pointer p]) n ∧ Dg w (.agg #[.int .u64 y, .pointer q]) (if d = 1 then 0 else d) ∧ 0 < d ∧ Nat.gcd n.natAbs d = 1
def PR (n : Int) (d : Nat) (w : World) (e : Ending) (w' : World) : Prop := Below w.heap.size w w' ∧ ∃ v, e = .returned v ∧ Rr w' v n d
theorem Rr.keep {w w' : World} {v : Value} {n : Int} {d B : Nat} (h : Rr w v n d) (hb : Below B w w') (hB : w.heap.size ≤ B) : Rr w' v n d := by
  obtain ⟨s, x, p, y, q, h1, h2, h3, h4⟩ := h
  exact ⟨s, x, p, y, q, h1, h2.keep hb hB, h3.keep hb hB, h4⟩
theorem lowest_any (vz vd : Value) (z : Int) (d : Nat) (w : World) (hz : Zr w vz z) (hd : Dg w vd d) (hd0 : 0 < d) (hg : Nat.gcd z.natAbs d = 1) : Calls Try.prog 69 #[vz, vd] w (PR z d w) := by
  have hz' := hz
  obtain ⟨s, xa, pa, n, rfl, _, _, _⟩ := hz'
  obtain ⟨xd, pd, rfl⟩ := hd.agg
  have HA := Lib.hid hz; have HD := Lib.hid hd
  have HG := Lib.hid hg
  clear hz hd hg
  by_cases h1 : d = 1
  · have H1 := Lib.hid h1
    clear h1
    go_enter Try.func69, Try.ntmps69
    go_wp2_with (go_at_call 74; refine (isOne_yes _ (HD.out.keep (bl3 _ _ _ _) (Nat.le_refl _)) H1.out).mono ?_; rintro e w1 ⟨rfl, c1, t1, rfl⟩)
    refine bodyPost_ret (v := .agg #[.bool s, .int .u64 xa, .pointer pa, .int .u64 0, .pointer none]) (by simp [results, Try.results69, go_sem]) rfl ⟨?_, _, rfl, s, xa, pa, 0, none, rfl, HA.out.keep (B := w.heap.size) ?_ (Nat.le_refl _), by rw [if_pos H1.out]; exact Dg.of_small _ Wd.zero, hd0, HG.out⟩
    · exact Below.thru (bl3 _ _ _ _) (by simp <;> omega) (bl2 _ _ _)
    · exact Below.thru (bl3 _ _ _ _) (by simp <;> omega) (bl2 _ _ _)
  · have H1 := Lib.hid h1
    clear h1
    go_enter Try.func69, Try.ntmps69
    go_wp2_with (go_at_call 74; refine (isOne_no _ (HD.out.keep (bl3 _ _ _ _) (Nat.le_refl _)) H1.out).mono ?_; rintro e w1 ⟨rfl, c1, t1, rfl⟩)
    refine bodyPost_ret (v := .agg #[.bool s, .int .u64 xa, .pointer pa, .int .u64 xd, .pointer pd]) (by simp [results, Try.results69, go_sem]) rfl ⟨?_, _, rfl, s, xa, pa, xd, pd, rfl, HA.out.keep (B := w.heap.size) ?_ (Nat.le_refl _), by rw [if_neg H1.out]; exact HD.out.keep (B := w.heap.size) (Below.thru (bl3 _ _ _ _) (by simp <;> omega) (bl2 _ _ _)) (Nat.le_refl _), hd0, HG.out⟩
    · exact Below.thru (bl3 _ _ _ _) (by simp <;> omega) (bl2 _ _ _)
    · exact Below.thru (bl3 _ _ _ _) (by simp <;> omega) (bl2 _ _ _)
theorem under_any (v : Value) (n : Int) (d : Nat) (w : World) (h : Rr w v n d) : Calls Try.prog 70 #[v] w (PDg d w) := by
  obtain ⟨s, x, p, y, q, rfl, hz, hd, hd0, _⟩ := h
  have HD := Lib.hid hd
  clear hz hd
  by_cases h1 : d = 1
  · have H0 : Hid ((if d = 1 then 0 else d) = 0) := by show _ = _; rw [if_pos h1]
    have H1 := Lib.hid h1
    clear h1
    go_enter Try.func70, Try.ntmps70
    go_wp2_with (go_at_call 57; refine (isZero_yes _ (HD.out.keep (bl2 _ _ _) (Nat.le_refl _)) H0.out).mono ?_; rintro e w1 ⟨rfl, c1, t1, rfl⟩)
    exact bodyPost_ret (v := .agg #[.int .u64 1, .pointer none]) (by simp [results, Try.results70, go_sem]) rfl ⟨Below.thru (bl2 _ _ _) (by simp <;> omega) (bl2 _ _ _), _, rfl, (Dg.of_small _ (n := 1) (by unfold Wd WB; omega)).cast H1.out.symm⟩
  · have H0 : Hid ((if d = 1 then 0 else d) ≠ 0) := by show _ ≠ _; rw [if_neg h1]; omega
    have H1 := Lib.hid h1
    clear h1
    go_enter Try.func70, Try.ntmps70
    go_wp2_with (go_at_call 57; refine (isZero_no _ (HD.out.keep (bl2 _ _ _) (Nat.le_refl _)) H0.out).mono ?_; rintro e w1 ⟨rfl, c1, t1, rfl⟩)
    exact bodyPost_ret (v := .agg #[.int .u64 y, .pointer q]) (by simp [results, Try.results70, go_sem]) rfl ⟨Below.thru (bl2 _ _ _) (by simp <;> omega) (bl2 _ _ _), _, rfl, (HD.out.cast (if_neg H1.out)).keep (B := w.heap.size) (Below.thru (bl2 _ _ _) (by simp <;> omega) (bl2 _ _ _)) (Nat.le_refl _)⟩
end Go.Proofs.Ytjjomjjgoceklaa
