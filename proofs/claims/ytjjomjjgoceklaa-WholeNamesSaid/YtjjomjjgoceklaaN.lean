import Derived.Test.YtjjomjjgoceklaaL
namespace Go.Proofs.Ytjjomjjgoceklaa
open Go.RowKit

theorem isOne_any {v : Value} {n : Nat} (w : World) (h : Dg w v n) : Calls Try.prog 74 #[v] w fun e w' => e = .returned (.bool (decide (n = 1))) ∧ ∃ c t, w' = (w.alloc (.cells c t)).alloc (.cells c t) := by
  rcases h with ⟨_, rfl⟩ | ⟨b, sv, ws, rfl, h2, h3, h4, h5, h6, h7⟩
  · by_cases hz : n = 1
    · subst hz
      exact (isOne_one w).mono fun e w' ⟨h1, h2⟩ => ⟨by rw [h1]; rfl, _, _, h2⟩
    · exact (isOne_small n hz w).mono fun e w' ⟨h1, h2⟩ => ⟨by rw [h1]; simp [hz], _, _, h2⟩
  · have hz : n ≠ 1 := by
      have := val_ge ws h5 (by intro e; rw [e] at h6; simp at h6)
      have h8 : WB ^ 1 ≤ WB ^ (ws.length - 1) := Nat.pow_le_pow_right WB_pos (by omega)
      rw [Nat.pow_one] at h8
      have hw : 1 < WB := by unfold WB; omega
      omega
    exact (isOne_big _ _ w).mono fun e w' ⟨h1, h2⟩ => ⟨by rw [h1]; simp [hz], _, _, h2⟩
theorem isOne_yes {v : Value} {n : Nat} (w : World) (h : Dg w v n) (hn : n = 1) : Calls Try.prog 74 #[v] w fun e w' => e = .returned (.bool true) ∧ ∃ c t, w' = (w.alloc (.cells c t)).alloc (.cells c t) :=
  (isOne_any w h).mono fun e w' ⟨h1, h2⟩ => ⟨by rw [h1, hn]; rfl, h2⟩
theorem isOne_no {v : Value} {n : Nat} (w : World) (h : Dg w v n) (hn : n ≠ 1) : Calls Try.prog 74 #[v] w fun e w' => e = .returned (.bool false) ∧ ∃ c t, w' = (w.alloc (.cells c t)).alloc (.cells c t) :=
  (isOne_any w h).mono fun e w' ⟨h1, h2⟩ => ⟨by rw [h1]; simp [hn], h2⟩

theorem share_any (va vd : Value) (a d : Nat) (w : World) (ha : Dg w va a) (hd : Dg w vd d) (hov : d ≠ 1 → OverC a d) : Calls Try.prog 93 #[va, vd] w (PDg (a / d) w) := by
  obtain ⟨xa, pa, rfl⟩ := ha.agg
  obtain ⟨xd, pd, rfl⟩ := hd.agg
  have HA := Lib.hid ha; have HD := Lib.hid hd
  clear ha hd
  by_cases h1 : d = 1
  · have H1 := Lib.hid h1
    clear h1
    go_enter Try.func93, Try.ntmps93
    go_wp2_with (go_at_call 74; refine (isOne_yes _ (HD.out.keep (bl3 _ _ _ _) (Nat.le_refl _)) H1.out).mono ?_; rintro e w1 ⟨rfl, c1, t1, rfl⟩)
    refine bodyPost_ret (v := .agg #[.int .u64 xa, .pointer pa]) (by simp [results, Try.results93, go_sem]) rfl ⟨?_, _, rfl, (HA.out.cast (by rw [H1.out, Nat.div_one])).keep (B := w.heap.size) ?_ (Nat.le_refl _)⟩
    · exact Below.thru (bl3 _ _ _ _) (by simp <;> omega) (bl2 _ _ _)
    · exact Below.thru (bl3 _ _ _ _) (by simp <;> omega) (bl2 _ _ _)
  · have H1 := Lib.hid h1
    have HO := Lib.hid (hov h1)
    clear h1 hov
    go_enter Try.func93, Try.ntmps93
    go_wp2_with (go_at_call 74; refine (isOne_no _ (HD.out.keep (bl3 _ _ _ _) (Nat.le_refl _)) H1.out).mono ?_; rintro e w1 ⟨rfl, c1, t1, rfl⟩)
    refine (HO.out _ _ _ (HA.out.keep (B := w.heap.size) (Below.thru (bl3 _ _ _ _) (by simp <;> omega) (bl2 _ _ _)) (Nat.le_refl _)) (HD.out.keep (B := w.heap.size) (Below.thru (bl3 _ _ _ _) (by simp <;> omega) (bl2 _ _ _)) (Nat.le_refl _))).mono ?_
    rintro e w1 ⟨hb1, q, r, rfl, hq, hr⟩
    obtain ⟨xq, pq, rfl⟩ := hq.agg
    obtain ⟨xr, pr, rfl⟩ := hr.agg
    have r1 : Rs (w.heap.size + 1 + 1) w1 := Rs.keep (((rs_new _ (by simp)).alloc _).alloc _) hb1 (by simp <;> omega)
    have k1 : Below w.heap.size w w1 := Below.thru (Below.thru (bl3 _ _ _ _) (by simp <;> omega) (bl2 _ _ _)) (by simp <;> omega) hb1
    have z1 : w.heap.size + 5 ≤ w1.heap.size := Nat.le_trans (by simp) hb1.size
    have r2 := (r1.alloc (.cells #[.int .u64 xq, .pointer pq] 27)).alloc (.cells #[.int .u64 xr, .pointer pr] 27)
    obtain ⟨p4, q4, m1, m2, m3, m4⟩ := r2.cells
    have ha1 : ((w1.alloc (.cells #[.int .u64 xq, .pointer pq] 27)).alloc (.cells #[.int .u64 xr, .pointer pr] 27)).cell? ⟨w1.heap.size, 0, none⟩ = some (.int .u64 xq) := by simp [go_sem, World.cell?_alloc_past]
    have ha2 : ((w1.alloc (.cells #[.int .u64 xq, .pointer pq] 27)).alloc (.cells #[.int .u64 xr, .pointer pr] 27)).cell? ⟨w1.heap.size, 1, none⟩ = some (.pointer pq) := by simp [go_sem, World.cell?_alloc_past]
    obtain ⟨n1, n2⟩ := two_cells m1 m2 (.int .u64 xq) (.pointer pq)
    go_wp2
    refine bodyPost_ret (v := .agg #[.int .u64 xq, .pointer pq]) (by simp [results, Try.results93, go_sem, n1, n2]) rfl ⟨?_, _, rfl, ((hq.keep (B := w1.heap.size) (bl2 _ _ _) (Nat.le_refl _)).store r2.odd (grown2 _ _ _ _ _ _))⟩
    exact ((Below.thru k1 k1.size (bl2 _ _ _)).setCell (by simp <;> omega) _).setCell (by simp <;> omega) _

/-- the two cells of boxed digits at B -/
def Bd (B : Nat) (x y : Value) (w : World) : Prop := w.cell? ⟨B, 0, none⟩ = some x ∧ w.cell? ⟨B, 1, none⟩ = some y
theorem Bd.keep {B C : Nat} {x y : Value} {w w' : World} (h : Bd B x y w) (hb : Below C w w') (hB : B < C) : Bd B x y w' :=
  ⟨(hb.cell (p := ⟨B, 0, none⟩) hB).trans h.1, (hb.cell (p := ⟨B, 1, none⟩) hB).trans h.2⟩
theorem Bd.stored {B T : Nat} {x y : Value} {w : World} (h : Bd B x y w) (hB : B < T) (u v z : Value) : Bd B x y (((w.setCell ⟨T, 0, none⟩ u).setCell ⟨T, 1, none⟩ v).setCell ⟨T, 2, none⟩ z) :=
  h.keep (C := T) ((((Below.refl _ _).setCell (by simp) _).setCell (by simp) _).setCell (by simp) _) hB
set_option maxHeartbeats 1600000 in
theorem part_any (vz vd : Value) (z : Int) (d : Nat) (w : World) (hz : Zr w vz z) (hd : Dg w vd d) (hov : d ≠ 1 → OverC z.natAbs d) : Calls Try.prog 92 #[vz, vd] w (PZ (Int.tdiv z d) w) := by
  obtain ⟨s, xa, pa, rfl, hda, h1, h2⟩ := hz.dg
  obtain ⟨xd, pd, rfl⟩ := hd.agg
  have HA := Lib.hid hda; have HD := Lib.hid hd
  have hfin : (if s then -((z.natAbs / d : Nat) : Int) else ((z.natAbs / d : Nat) : Int)) = Int.tdiv z d := by
    cases s with
    | false => 
      obtain ⟨n, rfl⟩ := Int.eq_ofNat_of_zero_le (h2 rfl)
      simp 
    | true =>
      obtain ⟨n, rfl⟩ : ∃ n : Nat, z = -(n : Int) := ⟨z.natAbs, by have := h1 rfl; omega⟩
      simp [Int.neg_tdiv]
  have HF := Lib.hid hfin
  clear hz hd hda h1 h2 hfin
  go_enter Try.func92, Try.ntmps92
  go_wp2
  generalize hW : World.alloc _ (Obj.cells #[Value.bool false, Value.int IntKind.u64 0, Value.pointer none] 29) = W
  have f1 : Below w.heap.size w W := by rw [← hW]; exact bl3 _ _ _ _
  have f2 : w.heap.size + 3 ≤ W.heap.size := by rw [← hW]; simp
  have fa : B3 w.heap.size s xa pa W := by rw [← hW]; refine ⟨?_, ?_, ?_⟩ <;> simp [go_sem, World.cell?_alloc_past]
  have fb : Bd (w.heap.size + 1) (.int .u64 xd) (.pointer pd) W := by rw [← hW]; refine ⟨?_, ?_⟩ <;> simp [go_sem, World.cell?_alloc_past]
  have f4 : Rz (w.heap.size + 1 + 1) W := by rw [← hW]; exact rz_new _ (by simp)
  clear hW
  have fa : B3 w.heap.size s xa pa W.drew := fa
  have fb : Bd (w.heap.size + 1) (.int .u64 xd) (.pointer pd) W.drew := fb
  have f4 : Rz (w.heap.size + 1 + 1) W.drew := f4
  have f1 : Below w.heap.size w W.drew := f1.drew
  have f2 : w.heap.size + 3 ≤ W.drew.heap.size := f2
  go_region_held3 (fun w' => w'.cell? ⟨w.heap.size, 0, none⟩ = some (.bool s) ∧ w'.cell? ⟨w.heap.size, 1, none⟩ = some (.int .u64 xa) ∧ w'.cell? ⟨w.heap.size, 2, none⟩ = some (.pointer pa) ∧ w'.cell? ⟨w.heap.size + 1, 0, none⟩ = some (.int .u64 xd) ∧ w'.cell? ⟨w.heap.size + 1, 1, none⟩ = some (.pointer pd))
    (first | exact ⟨(B3.stored a4 (by omega) _ _ _).1, (B3.stored a4 (by omega) _ _ _).2.1, (B3.stored a4 (by omega) _ _ _).2.2, (Bd.stored b4 (by omega) _ _ _).1, (Bd.stored b4 (by omega) _ _ _).2⟩ | exact ⟨a4.1, a4.2.1, a4.2.2, b4.1, b4.2⟩ | exact ⟨a3.1, a3.2.1, a3.2.2, b3.1, b3.2⟩ | exact ⟨fa.1, fa.2.1, fa.2.2, fb.1, fb.2⟩)
    (first
      | (go_at_call 93; (with_reducible refine (share_any (.agg #[.int .u64 xa, .pointer pa]) (.agg #[.int .u64 xd, .pointer pd]) z.natAbs d W.drew (HA.out.keep (B := w.heap.size) f1 (Nat.le_refl _)) (HD.out.keep (B := w.heap.size) f1 (Nat.le_refl _)) hov).mono ?_); rintro e w3 ⟨hb3, v3, rfl, hs3⟩
         have a3 := B3.keep fa hb3 (by omega); have b3 := Bd.keep fb hb3 (by omega); have r3 := Rz.keep f4 hb3 (by omega); have k3 := Below.thru f1 f1.size hb3; have z3 : w.heap.size + 3 ≤ w3.heap.size := Nat.le_trans f2 hb3.size)
      | (go_at_call 51; (with_reducible refine (signed_any v3 _ s w3 hs3).mono ?_); rintro e w4 ⟨hb4, v4, rfl, hs4⟩
         have a4 := B3.keep a3 hb4 (by omega); have b4 := Bd.keep b3 hb4 (by omega); have r4 := Rz.keep r3 hb4 (by omega); obtain ⟨sq, xq, pq, m1, m2, m3, m4, m5, m6⟩ := r4.cells; obtain ⟨s4, x4, p4, n4, rfl, hd4, hs4a, hs4b⟩ := hs4; have k4 := Below.thru k3 k3.size hb4; have z4 : w.heap.size + 3 ≤ w4.heap.size := Nat.le_trans z3 hb4.size; have HV := Lib.hid hs4b; clear hs4b))
  obtain ⟨g1, g2, g3⟩ := three_cells m1 m2 m3 (.bool s4) (.int .u64 x4) (.pointer p4)
  go_wp2
  exact bodyPost_ret (v := .agg #[.bool s4, .int .u64 x4, .pointer p4]) (by simp [results, Try.results92, go_sem, g1, g2, g3]) rfl ⟨((k4.setCell (by simp; omega) _).setCell (by simp; omega) _).setCell (by simp; omega) _, _, rfl, Zr.cast (Zr.store ⟨s4, x4, p4, n4, rfl, hd4, hs4a, HV.out⟩ r4.odd (grown3 _ _ _ _ _ _ _ _)) HF.out⟩
end Go.Proofs.Ytjjomjjgoceklaa
