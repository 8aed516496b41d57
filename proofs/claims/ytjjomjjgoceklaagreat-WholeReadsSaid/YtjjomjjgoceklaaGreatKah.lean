import Derived.Test.YtjjomjjgoceklaaGreatKag
import Derived.IntWalk
namespace Go.Proofs.YtjjomjjgoceklaaGreat
set_option maxRecDepth 100000
open Go.RowKit

theorem Dg.small {w : World} {v : Value} {n : Nat} (h : Dg w v n) (hn : Wd n) : v = .agg #[.int .u64 (n : Int), .pointer none] := by
  rcases h with ⟨_, rfl⟩ | ⟨b, sv, ws, rfl, h2, h3, h4, h5, h6, h7⟩
  · rfl
  · have := val_ge ws h5 (by intro e; rw [e] at h6; simp at h6)
    have h8 : WB ^ 1 ≤ WB ^ (ws.length - 1) := Nat.pow_le_pow_right WB_pos (by omega)
    rw [Nat.pow_one] at h8
    unfold Wd at hn
    omega
theorem Dg.of_small (w : World) {n : Nat} (hn : Wd n) : Dg w (.agg #[.int .u64 (n : Int), .pointer none]) n := .inl ⟨hn, rfl⟩

set_option maxHeartbeats 800000 in
theorem commonWord_any (a b : Nat) (ha : Wd a) (hb : Wd b) (w : World) : Calls Tryz.prog 131 #[.int .u64 (a : Int), .int .u64 (b : Int)] w fun e w' => Below w.heap.size w w' ∧ e = .returned (.int .u64 (Nat.gcd a b : Int)) := by
  go_enter Tryz.func131, Tryz.ntmps131
  go_wp2
  go_loopw [0, 1] (fun x y wr => ∃ m n : Nat, x = .int .u64 m ∧ y = .int .u64 n ∧ Wd m ∧ Wd n ∧ Below w.heap.size w wr ∧ Hid (Nat.gcd m n = Nat.gcd a b)) (fun _ y _ => (intOf y).toNat)
  case atStart => exact ⟨a, b, rfl, rfl, ha, hb, Below.refl _ _, rfl⟩
  case round =>
    obtain ⟨m, n, rfl, rfl, hm, hn, hbel, HG⟩ := hrel
    by_cases hz : n = 0
    · subst hz
      rw [show ((0 : Nat) : Int) = 0 from rfl]
      go_wp2
      go_ret
      have := HG.out
      rw [Nat.gcd_zero_right] at this
      exact ⟨hbel, by rw [← this]; rfl⟩
    · have h : ((n : Int) != 0) = true := by rw [bne_iff_ne]; omega
      have hp : (0 : Int) < (n : Int) := by omega
      have hm0 : (0 : Int) ≤ (m : Int) := by omega
      have hne : ¬ ((n : Int) = 0) := by omega
      go_wp2
      go_quiet (fail)
      go_wp2
      go_roundw
      case rel => exact ⟨n, m % n, rfl, by rw [Int.natCast_emod], hn, by unfold Wd at hm ⊢; exact Nat.lt_of_le_of_lt (Nat.mod_le _ _) hm, below_drewN hbel _, by show _ = _; rw [← HG.out, Nat.gcd_comm m n, Nat.gcd_rec n m, Nat.gcd_comm]⟩
      case measure =>
        have h1 : m % n < n := Nat.mod_lt _ (by omega)
        simp only [intOf]
        omega

/-! what division and the greatest common divisor do at two numbers -/
/-- the two results of over -/
def POv (a d : Nat) (w : World) (e : Ending) (w' : World) : Prop :=
  Below w.heap.size w w' ∧ ∃ q r, e = .returned (.tuple #[q, r]) ∧ Dg w' q (a / d) ∧ Dg w' r (a % d)
def OverC (a d : Nat) : Prop := ∀ (va vd : Value) (w : World), Dg w va a → Dg w vd d → Calls Tryz.prog 130 #[va, vd] w (POv a d w)
def CommonC (a b : Nat) : Prop := ∀ (va vb : Value) (w : World), Dg w va a → Dg w vb b → Calls Tryz.prog 108 #[va, vb] w (PDg (Nat.gcd a b) w)
theorem gcd_wd {a b : Nat} (ha : Wd a) (hb : Wd b) : Wd (Nat.gcd a b) := by
  unfold Wd at *
  by_cases h : a = 0
  · subst h; rw [Nat.gcd_zero_left]; exact hb
  · exact Nat.lt_of_le_of_lt (Nat.gcd_le_left b (by omega)) ha
theorem common_small (a b : Nat) (ha : Wd a) (hb : Wd b) : CommonC a b := by
  intro va vb w h1 h2
  obtain rfl := h1.small ha
  obtain rfl := h2.small hb
  clear h1 h2
  have hg := gcd_wd ha hb
  go_enter Tryz.func108, Tryz.ntmps108
  go_wp2_with (first | (go_at_call 123; refine (isSmall_small _ _).mono ?_; rintro e w1 ⟨rfl, rfl⟩))
  refine (commonWord_any a b ha hb _).mono ?_
  rintro e w1 ⟨hb1, rfl⟩
  have r1 : Rs (w.heap.size + 1 + 1) w1 := Rs.keep (((rs_new _ (by simp)).alloc _).alloc _) hb1 (by simp <;> omega)
  obtain ⟨p4, q4, m1, m2, m3, m4⟩ := r1.cells
  generalize Nat.gcd a b = g at *
  obtain ⟨n1, n2⟩ := two_cells m1 m2 (.int .u64 (g : Int)) (.pointer none)
  go_wp2
  exact bodyPost_ret (v := .agg #[.int .u64 (g : Int), .pointer none]) (by simp [results, Tryz.results108, go_sem, n1, n2]) rfl ⟨((Below.thru (Below.thru (bl3 _ _ _ _) (by simp; omega) (bl2 _ _ _)) (by simp; omega) hb1).setCell (by simp; omega) _).setCell (by simp; omega) _, _, rfl, Dg.of_small _ hg⟩

theorem over_small (a d : Nat) (ha : Wd a) (hd : Wd d) (hz : d ≠ 0) : OverC a d := by
  intro va vd w h1 h2
  obtain rfl := h1.small ha
  obtain rfl := h2.small hd
  clear h1 h2
  have hp : (0 : Int) < (d : Int) := by omega
  have ha0 : (0 : Int) ≤ (a : Int) := by omega
  have hne : ¬ ((d : Int) = 0) := by omega
  go_enter Tryz.func130, Tryz.ntmps130
  go_wp2_with (first | (go_at_call 123; refine (isSmall_small _ _).mono ?_; rintro e w1 ⟨rfl, rfl⟩))
  obtain ⟨q, hq⟩ : ∃ q : Nat, q = a / d := ⟨_, rfl⟩
  obtain ⟨r, hr⟩ : ∃ r : Nat, r = a % d := ⟨_, rfl⟩
  have wq : Wd q := by rw [hq]; unfold Wd at ha ⊢; exact Nat.lt_of_le_of_lt (Nat.div_le_self _ _) ha
  have wr : Wd r := by rw [hr]; unfold Wd at ha ⊢; exact Nat.lt_of_le_of_lt (Nat.mod_le _ _) ha
  have e1 : IntKind.u64.wrap ((a : Int) / (d : Int)) = (q : Int) := by
    rw [hq, ← Int.natCast_ediv]; rw [hq] at wq; unfold Wd WB at wq; rw [IntKind.wrap_u64]; omega
  have e2 : (a : Int) % (d : Int) = (r : Int) := by rw [hr, Int.natCast_emod]
  have HQ := Lib.hid hq; have HR := Lib.hid hr
  clear hq hr
  go_region
  go_wp2
  refine bodyPost_ret (v := .tuple #[.agg #[.int .u64 (q : Int), .pointer none], .agg #[.int .u64 (r : Int), .pointer none]]) (by simp [results, Tryz.results130, go_sem]) rfl ⟨?_, _, _, rfl, (Dg.of_small _ wq).cast HQ.out, (Dg.of_small _ wr).cast HR.out⟩
  exact Below.thru (bl3 _ _ _ _) (by simp; omega) (bl3 _ _ _ _).drew
end Go.Proofs.YtjjomjjgoceklaaGreat
namespace Go.Proofs.YtjjomjjgoceklaaGreat
set_option maxRecDepth 100000
open Go.RowKit

theorem isOne_any {v : Value} {n : Nat} (w : World) (h : Dg w v n) : Calls Tryz.prog 119 #[v] w fun e w' => e = .returned (.bool (decide (n = 1))) ∧ ∃ c t, w' = (w.alloc (.cells c t)).alloc (.cells c t) := by
  rcases h with ⟨_, rfl⟩ | ⟨b, sv, ws, rfl, h2, h3, h4, h5, h6, h7⟩
  · by_cases hz : n = 1
    · subst hz
      exact (isOne_one w).mono fun e w' ⟨h1, h2⟩ => ⟨by rw [h1]; rfl, _, _, h2⟩
    · exact (isOne_small n hz w).mono fun e w' ⟨h1, h2⟩ => ⟨by rw [h1]; simp [hz], _, _, h2⟩
  · have hz : n ≠ 1 := by
      have := val_ge ws h5 (by intro e; rw [e] at h6; simp at h6)
      have h8 : WB ^ 1 ≤ WB ^ (ws.length - 1) := Nat.pow_le_pow_right WB_pos (by omega)
      rw [Nat.pow_one] at h8
      have hw : 1 < WB := by unfold WB; omega
      omega
    exact (isOne_big _ _ w).mono fun e w' ⟨h1, h2⟩ => ⟨by rw [h1]; simp [hz], _, _, h2⟩
theorem isOne_yes {v : Value} {n : Nat} (w : World) (h : Dg w v n) (hn : n = 1) : Calls Tryz.prog 119 #[v] w fun e w' => e = .returned (.bool true) ∧ ∃ c t, w' = (w.alloc (.cells c t)).alloc (.cells c t) :=
  (isOne_any w h).mono fun e w' ⟨h1, h2⟩ => ⟨by rw [h1, hn]; rfl, h2⟩
theorem isOne_no {v : Value} {n : Nat} (w : World) (h : Dg w v n) (hn : n ≠ 1) : Calls Tryz.prog 119 #[v] w fun e w' => e = .returned (.bool false) ∧ ∃ c t, w' = (w.alloc (.cells c t)).alloc (.cells c t) :=
  (isOne_any w h).mono fun e w' ⟨h1, h2⟩ => ⟨by rw [h1]; simp [hn], h2⟩

theorem share_any (va vd : Value) (a d : Nat) (w : World) (ha : Dg w va a) (hd : Dg w vd d) (hov : d ≠ 1 → OverC a d) : Calls Tryz.prog 109 #[va, vd] w (PDg (a / d) w) := by
  obtain ⟨xa, pa, rfl⟩ := ha.agg
  obtain ⟨xd, pd, rfl⟩ := hd.agg
  have HA := Lib.hid ha; have HD := Lib.hid hd
  clear ha hd
  by_cases h1 : d = 1
  · have H1 := Lib.hid h1
    clear h1
    go_enter Tryz.func109, Tryz.ntmps109
    go_wp2_with (go_at_call 119; refine (isOne_yes _ (HD.out.keep (bl3 _ _ _ _) (Nat.le_refl _)) H1.out).mono ?_; rintro e w1 ⟨rfl, c1, t1, rfl⟩)
    refine bodyPost_ret (v := .agg #[.int .u64 xa, .pointer pa]) (by simp [results, Tryz.results109, go_sem]) rfl ⟨?_, _, rfl, (HA.out.cast (by rw [H1.out, Nat.div_one])).keep (B := w.heap.size) ?_ (Nat.le_refl _)⟩
    · exact Below.thru (bl3 _ _ _ _) (by simp <;> omega) (bl2 _ _ _)
    · exact Below.thru (bl3 _ _ _ _) (by simp <;> omega) (bl2 _ _ _)
  · have H1 := Lib.hid h1
    have HO := Lib.hid (hov h1)
    clear h1 hov
    go_enter Tryz.func109, Tryz.ntmps109
    go_wp2_with (go_at_call 119; refine (isOne_no _ (HD.out.keep (bl3 _ _ _ _) (Nat.le_refl _)) H1.out).mono ?_; rintro e w1 ⟨rfl, c1, t1, rfl⟩)
    refine (HO.out _ _ _ (HA.out.keep (B := w.heap.size) (Below.thru (bl3 _ _ _ _) (by simp <;> omega) (bl2 _ _ _)) (Nat.le_refl _)) (HD.out.keep (B := w.heap.size) (Below.thru (bl3 _ _ _ _) (by simp <;> omega) (bl2 _ _ _)) (Nat.le_refl _))).mono ?_
    rintro e w1 ⟨hb1, q, r, rfl, hq, hr⟩
    obtain ⟨xq, pq, rfl⟩ := hq.agg
    obtain ⟨xr, pr, rfl⟩ := hr.agg
    have r1 : Rs (w.heap.size + 1 + 1) w1 := Rs.keep (((rs_new _ (by simp)).alloc _).alloc _) hb1 (by simp <;> omega)
    have k1 : Below w.heap.size w w1 := Below.thru (Below.thru (bl3 _ _ _ _) (by simp <;> omega) (bl2 _ _ _)) (by simp <;> omega) hb1
    have z1 : w.heap.size + 5 ≤ w1.heap.size := Nat.le_trans (by simp) hb1.size
    have r2 := (r1.alloc (.cells #[.int .u64 xq, .pointer pq] 26)).alloc (.cells #[.int .u64 xr, .pointer pr] 26)
    obtain ⟨p4, q4, m1, m2, m3, m4⟩ := r2.cells
    have ha1 : ((w1.alloc (.cells #[.int .u64 xq, .pointer pq] 26)).alloc (.cells #[.int .u64 xr, .pointer pr] 26)).cell? ⟨w1.heap.size, 0, none⟩ = some (.int .u64 xq) := by simp [go_sem, World.cell?_alloc_past]
    have ha2 : ((w1.alloc (.cells #[.int .u64 xq, .pointer pq] 26)).alloc (.cells #[.int .u64 xr, .pointer pr] 26)).cell? ⟨w1.heap.size, 1, none⟩ = some (.pointer pq) := by simp [go_sem, World.cell?_alloc_past]
    obtain ⟨n1, n2⟩ := two_cells m1 m2 (.int .u64 xq) (.pointer pq)
    go_wp2
    refine bodyPost_ret (v := .agg #[.int .u64 xq, .pointer pq]) (by simp [results, Tryz.results109, go_sem, n1, n2]) rfl ⟨?_, _, rfl, ((hq.keep (B := w1.heap.size) (bl2 _ _ _) (Nat.le_refl _)).store r2.odd (grown2 _ _ _ _ _ _))⟩
    exact ((Below.thru k1 k1.size (bl2 _ _ _)).setCell (by simp <;> omega) _).setCell (by simp <;> omega) _

/-- the two cells of boxed digits at B -/
def Bd (B : Nat) (x y : Value) (w : World) : Prop := w.cell? ⟨B, 0, none⟩ = some x ∧ w.cell? ⟨B, 1, none⟩ = some y
theorem Bd.keep {B C : Nat} {x y : Value} {w w' : World} (h : Bd B x y w) (hb : Below C w w') (hB : B < C) : Bd B x y w' :=
  ⟨(hb.cell (p := ⟨B, 0, none⟩) hB).trans h.1, (hb.cell (p := ⟨B, 1, none⟩) hB).trans h.2⟩
theorem Bd.stored {B T : Nat} {x y : Value} {w : World} (h : Bd B x y w) (hB : B < T) (u v z : Value) : Bd B x y (((w.setCell ⟨T, 0, none⟩ u).setCell ⟨T, 1, none⟩ v).setCell ⟨T, 2, none⟩ z) :=
  h.keep (C := T) ((((Below.refl _ _).setCell (by simp) _).setCell (by simp) _).setCell (by simp) _) hB
set_option maxHeartbeats 1600000 in
theorem part_any (vz vd : Value) (z : Int) (d : Nat) (w : World) (hz : Zr w vz z) (hd : Dg w vd d) (hov : d ≠ 1 → OverC z.natAbs d) : Calls Tryz.prog 111 #[vz, vd] w (PZ (Int.tdiv z d) w) := by
  obtain ⟨s, xa, pa, rfl, hda, h1, h2⟩ := hz.dg
  obtain ⟨xd, pd, rfl⟩ := hd.agg
  have HA := Lib.hid hda; have HD := Lib.hid hd
  have hfin : (if s then -((z.natAbs / d : Nat) : Int) else ((z.natAbs / d : Nat) : Int)) = Int.tdiv z d := by
    cases s with
    | false => 
      obtain ⟨n, rfl⟩ := Int.eq_ofNat_of_zero_le (h2 rfl)
      simp 
    | true =>
      obtain ⟨n, rfl⟩ : ∃ n : Nat, z = -(n : Int) := ⟨z.natAbs, by have := h1 rfl; omega⟩
      simp [Int.neg_tdiv]
  have HF := Lib.hid hfin
  clear hz hd hda h1 h2 hfin
  go_enter Tryz.func111, Tryz.ntmps111
  go_wp2
  generalize hW : World.alloc _ (Obj.cells #[Value.bool false, Value.int IntKind.u64 0, Value.pointer none] 28) = W
  have f1 : Below w.heap.size w W := by rw [← hW]; exact bl3 _ _ _ _
  have f2 : w.heap.size + 3 ≤ W.heap.size := by rw [← hW]; simp
  have fa : B3 w.heap.size s xa pa W := by rw [← hW]; refine ⟨?_, ?_, ?_⟩ <;> simp [go_sem, World.cell?_alloc_past]
  have fb : Bd (w.heap.size + 1) (.int .u64 xd) (.pointer pd) W := by rw [← hW]; refine ⟨?_, ?_⟩ <;> simp [go_sem, World.cell?_alloc_past]
  have f4 : Rz (w.heap.size + 1 + 1) W := by rw [← hW]; exact rz_new _ (by simp)
  clear hW
  have fa : B3 w.heap.size s xa pa W.drew := fa
  have fb : Bd (w.heap.size + 1) (.int .u64 xd) (.pointer pd) W.drew := fb
  have f4 : Rz (w.heap.size + 1 + 1) W.drew := f4
  have f1 : Below w.heap.size w W.drew := f1.drew
  have f2 : w.heap.size + 3 ≤ W.drew.heap.size := f2
  go_region_held3 (fun w' => w'.cell? ⟨w.heap.size, 0, none⟩ = some (.bool s) ∧ w'.cell? ⟨w.heap.size, 1, none⟩ = some (.int .u64 xa) ∧ w'.cell? ⟨w.heap.size, 2, none⟩ = some (.pointer pa) ∧ w'.cell? ⟨w.heap.size + 1, 0, none⟩ = some (.int .u64 xd) ∧ w'.cell? ⟨w.heap.size + 1, 1, none⟩ = some (.pointer pd))
    (first | exact ⟨(B3.stored a4 (by omega) _ _ _).1, (B3.stored a4 (by omega) _ _ _).2.1, (B3.stored a4 (by omega) _ _ _).2.2, (Bd.stored b4 (by omega) _ _ _).1, (Bd.stored b4 (by omega) _ _ _).2⟩ | exact ⟨a4.1, a4.2.1, a4.2.2, b4.1, b4.2⟩ | exact ⟨a3.1, a3.2.1, a3.2.2, b3.1, b3.2⟩ | exact ⟨fa.1, fa.2.1, fa.2.2, fb.1, fb.2⟩)
    (first
      | (go_at_call 109; (with_reducible refine (share_any (.agg #[.int .u64 xa, .pointer pa]) (.agg #[.int .u64 xd, .pointer pd]) z.natAbs d W.drew (HA.out.keep (B := w.heap.size) f1 (Nat.le_refl _)) (HD.out.keep (B := w.heap.size) f1 (Nat.le_refl _)) hov).mono ?_); rintro e w3 ⟨hb3, v3, rfl, hs3⟩
         have a3 := B3.keep fa hb3 (by omega); have b3 := Bd.keep fb hb3 (by omega); have r3 := Rz.keep f4 hb3 (by omega); have k3 := Below.thru f1 f1.size hb3; have z3 : w.heap.size + 3 ≤ w3.heap.size := Nat.le_trans f2 hb3.size)
      | (go_at_call 87; (with_reducible refine (signed_any v3 _ s w3 hs3).mono ?_); rintro e w4 ⟨hb4, v4, rfl, hs4⟩
         have a4 := B3.keep a3 hb4 (by omega); have b4 := Bd.keep b3 hb4 (by omega); have r4 := Rz.keep r3 hb4 (by omega); obtain ⟨sq, xq, pq, m1, m2, m3, m4, m5, m6⟩ := r4.cells; obtain ⟨s4, x4, p4, n4, rfl, hd4, hs4a, hs4b⟩ := hs4; have k4 := Below.thru k3 k3.size hb4; have z4 : w.heap.size + 3 ≤ w4.heap.size := Nat.le_trans z3 hb4.size; have HV := Lib.hid hs4b; clear hs4b))
  obtain ⟨g1, g2, g3⟩ := three_cells m1 m2 m3 (.bool s4) (.int .u64 x4) (.pointer p4)
  go_wp2
  exact bodyPost_ret (v := .agg #[.bool s4, .int .u64 x4, .pointer p4]) (by simp [results, Tryz.results111, go_sem, g1, g2, g3]) rfl ⟨((k4.setCell (by simp; omega) _).setCell (by simp; omega) _).setCell (by simp; omega) _, _, rfl, Zr.cast (Zr.store ⟨s4, x4, p4, n4, rfl, hd4, hs4a, HV.out⟩ r4.odd (grown3 _ _ _ _ _ _ _ _)) HF.out⟩
end Go.Proofs.YtjjomjjgoceklaaGreat
namespace Go.Proofs.YtjjomjjgoceklaaGreat
set_option maxRecDepth 100000
open Go.RowKit

set_option maxHeartbeats 1600000 in
theorem multiple_no (vz vd : Value) (z : Int) (d : Nat) (w : World) (hz : Zr w vz z) (hd : Dg w vd d) (hd1 : d ≠ 1) (la : Sz z.natAbs) (lb : Sz d) : Calls Tryz.prog 110 #[vz, vd] w (PZ (z * d) w) := by
  obtain ⟨s, xa, pa, rfl, hda, h1, h2⟩ := hz.dg
  obtain ⟨xd, pd, rfl⟩ := hd.agg
  have HA := Lib.hid hda; have HD := Lib.hid hd
  have hfin : (if s then -((z.natAbs * d : Nat) : Int) else ((z.natAbs * d : Nat) : Int)) = z * d := by
    cases s with
    | false => 
      obtain ⟨n, rfl⟩ := Int.eq_ofNat_of_zero_le (h2 rfl)
      simp
    | true =>
      obtain ⟨n, rfl⟩ : ∃ n : Nat, z = -(n : Int) := ⟨z.natAbs, by have := h1 rfl; omega⟩
      simp [Int.neg_mul]
  have HF := Lib.hid hfin
  have H1 := Lib.hid hd1
  clear hz hd hda h1 h2 hfin hd1
  go_enter Tryz.func110, Tryz.ntmps110
  go_wp2_with (go_at_call 119; refine (isOne_no _ (HD.out.keep (bl3 _ _ _ _) (Nat.le_refl _)) H1.out).mono ?_; rintro e w1 ⟨rfl, c1, t1, rfl⟩)
  generalize hW : World.alloc _ (Obj.cells c1 t1) = W
  have f1 : Below w.heap.size w W := by rw [← hW]; exact Below.thru (bl3 _ _ _ _) (by simp <;> omega) (bl2 _ _ _)
  have f2 : w.heap.size + 3 ≤ W.heap.size := by rw [← hW]; simp
  have fa : B3 w.heap.size s xa pa W := by rw [← hW]; refine ⟨?_, ?_, ?_⟩ <;> simp [go_sem, World.cell?_alloc_past]
  have fb : Bd (w.heap.size + 1) (.int .u64 xd) (.pointer pd) W := by rw [← hW]; refine ⟨?_, ?_⟩ <;> simp [go_sem, World.cell?_alloc_past]
  have f4 : Rz (w.heap.size + 1 + 1) W := by rw [← hW]; exact ((rz_new _ (by simp)).alloc _).alloc _
  clear hW
  have fa : B3 w.heap.size s xa pa W.drew := fa
  have fb : Bd (w.heap.size + 1) (.int .u64 xd) (.pointer pd) W.drew := fb
  have f4 : Rz (w.heap.size + 1 + 1) W.drew := f4
  have f1 : Below w.heap.size w W.drew := f1.drew
  have f2 : w.heap.size + 3 ≤ W.drew.heap.size := f2
  go_region_held3 (fun w' => w'.cell? ⟨w.heap.size, 0, none⟩ = some (.bool s) ∧ w'.cell? ⟨w.heap.size, 1, none⟩ = some (.int .u64 xa) ∧ w'.cell? ⟨w.heap.size, 2, none⟩ = some (.pointer pa) ∧ w'.cell? ⟨w.heap.size + 1, 0, none⟩ = some (.int .u64 xd) ∧ w'.cell? ⟨w.heap.size + 1, 1, none⟩ = some (.pointer pd))
    (first | exact ⟨(B3.stored a4 (by omega) _ _ _).1, (B3.stored a4 (by omega) _ _ _).2.1, (B3.stored a4 (by omega) _ _ _).2.2, (Bd.stored b4 (by omega) _ _ _).1, (Bd.stored b4 (by omega) _ _ _).2⟩ | exact ⟨a4.1, a4.2.1, a4.2.2, b4.1, b4.2⟩ | exact ⟨a3.1, a3.2.1, a3.2.2, b3.1, b3.2⟩ | exact ⟨fa.1, fa.2.1, fa.2.2, fb.1, fb.2⟩)
    (first
      | (go_at_call 112; (with_reducible refine (times_any (.agg #[.int .u64 xa, .pointer pa]) (.agg #[.int .u64 xd, .pointer pd]) z.natAbs d W.drew (HA.out.keep (B := w.heap.size) f1 (Nat.le_refl _)) (HD.out.keep (B := w.heap.size) f1 (Nat.le_refl _)) la lb).mono ?_); rintro e w3 ⟨hb3, v3, rfl, hs3⟩
         have a3 := B3.keep fa hb3 (by omega); have b3 := Bd.keep fb hb3 (by omega); have r3 := Rz.keep f4 hb3 (by omega); have k3 := Below.thru f1 f1.size hb3; have z3 : w.heap.size + 3 ≤ w3.heap.size := Nat.le_trans f2 hb3.size)
      | (go_at_call 87; (with_reducible refine (signed_any v3 _ s w3 hs3).mono ?_); rintro e w4 ⟨hb4, v4, rfl, hs4⟩
         have a4 := B3.keep a3 hb4 (by omega); have b4 := Bd.keep b3 hb4 (by omega); have r4 := Rz.keep r3 hb4 (by omega); obtain ⟨sq, xq, pq, m1, m2, m3, m4, m5, m6⟩ := r4.cells; obtain ⟨s4, x4, p4, n4, rfl, hd4, hs4a, hs4b⟩ := hs4; have k4 := Below.thru k3 k3.size hb4; have z4 : w.heap.size + 3 ≤ w4.heap.size := Nat.le_trans z3 hb4.size; have HV := Lib.hid hs4b; clear hs4b))
  obtain ⟨g1, g2, g3⟩ := three_cells m1 m2 m3 (.bool s4) (.int .u64 x4) (.pointer p4)
  go_wp2
  exact bodyPost_ret (v := .agg #[.bool s4, .int .u64 x4, .pointer p4]) (by simp [results, Tryz.results110, go_sem, g1, g2, g3]) rfl ⟨((k4.setCell (by simp; omega) _).setCell (by simp; omega) _).setCell (by simp; omega) _, _, rfl, Zr.cast (Zr.store ⟨s4, x4, p4, n4, rfl, hd4, hs4a, HV.out⟩ r4.odd (grown3 _ _ _ _ _ _ _ _)) HF.out⟩
theorem multiple_any (vz vd : Value) (z : Int) (d : Nat) (w : World) (hz : Zr w vz z) (hd : Dg w vd d) (la : Sz z.natAbs) (lb : Sz d) : Calls Tryz.prog 110 #[vz, vd] w (PZ (z * d) w) := by
  by_cases h1 : d = 1
  · have hz' := hz
    obtain ⟨s, xa, pa, n, rfl, _, _, _⟩ := hz'
    obtain ⟨xd, pd, rfl⟩ := hd.agg
    have HA := Lib.hid hz; have HD := Lib.hid hd; have H1 := Lib.hid h1
    clear hz hd h1
    go_enter Tryz.func110, Tryz.ntmps110
    go_wp2_with (go_at_call 119; refine (isOne_yes _ (HD.out.keep (bl3 _ _ _ _) (Nat.le_refl _)) H1.out).mono ?_; rintro e w1 ⟨rfl, c1, t1, rfl⟩)
    refine bodyPost_ret (v := .agg #[.bool s, .int .u64 xa, .pointer pa]) (by simp [results, Tryz.results110, go_sem]) rfl ⟨?_, _, rfl, (HA.out.cast (by rw [H1.out]; simp)).keep (B := w.heap.size) ?_ (Nat.le_refl _)⟩
    · exact Below.thru (bl3 _ _ _ _) (by simp <;> omega) (bl2 _ _ _)
    · exact Below.thru (bl3 _ _ _ _) (by simp <;> omega) (bl2 _ _ _)
  · exact multiple_no vz vd z d w hz hd h1 la lb

/-! ratios -/
/-- v is an R value: n over d in lowest terms -/
def Rr (w : World) (v : Value) (n : Int) (d : Nat) : Prop :=
  ∃ (s : Bool) (x : Int) (p : Option Addr) (y : Int) (q : Option Addr), v = .agg #[.bool s, .int .u64 x, .pointer p, .int .u64 y, .pointer q] ∧
    Zr w (.agg #[.bool s, .int .u64 x, .pointer p]) n ∧ Dg w (.agg #[.int .u64 y, .pointer q]) (if d = 1 then 0 else d) ∧ 0 < d ∧ Nat.gcd n.natAbs d = 1
def PR (n : Int) (d : Nat) (w : World) (e : Ending) (w' : World) : Prop := Below w.heap.size w w' ∧ ∃ v, e = .returned v ∧ Rr w' v n d
theorem Rr.keep {w w' : World} {v : Value} {n : Int} {d B : Nat} (h : Rr w v n d) (hb : Below B w w') (hB : w.heap.size ≤ B) : Rr w' v n d := by
  obtain ⟨s, x, p, y, q, h1, h2, h3, h4⟩ := h
  exact ⟨s, x, p, y, q, h1, h2.keep hb hB, h3.keep hb hB, h4⟩
theorem lowest_any (vz vd : Value) (z : Int) (d : Nat) (w : World) (hz : Zr w vz z) (hd : Dg w vd d) (hd0 : 0 < d) (hg : Nat.gcd z.natAbs d = 1) : Calls Tryz.prog 107 #[vz, vd] w (PR z d w) := by
  have hz' := hz
  obtain ⟨s, xa, pa, n, rfl, _, _, _⟩ := hz'
  obtain ⟨xd, pd, rfl⟩ := hd.agg
  have HA := Lib.hid hz; have HD := Lib.hid hd
  have HG := Lib.hid hg
  clear hz hd hg
  by_cases h1 : d = 1
  · have H1 := Lib.hid h1
    clear h1
    go_enter Tryz.func107, Tryz.ntmps107
    go_wp2_with (go_at_call 119; refine (isOne_yes _ (HD.out.keep (bl3 _ _ _ _) (Nat.le_refl _)) H1.out).mono ?_; rintro e w1 ⟨rfl, c1, t1, rfl⟩)
    refine bodyPost_ret (v := .agg #[.bool s, .int .u64 xa, .pointer pa, .int .u64 0, .pointer none]) (by simp [results, Tryz.results107, go_sem]) rfl ⟨?_, _, rfl, s, xa, pa, 0, none, rfl, HA.out.keep (B := w.heap.size) ?_ (Nat.le_refl _), by rw [if_pos H1.out]; exact Dg.of_small _ Wd.zero, hd0, HG.out⟩
    · exact Below.thru (bl3 _ _ _ _) (by simp <;> omega) (bl2 _ _ _)
    · exact Below.thru (bl3 _ _ _ _) (by simp <;> omega) (bl2 _ _ _)
  · have H1 := Lib.hid h1
    clear h1
    go_enter Tryz.func107, Tryz.ntmps107
    go_wp2_with (go_at_call 119; refine (isOne_no _ (HD.out.keep (bl3 _ _ _ _) (Nat.le_refl _)) H1.out).mono ?_; rintro e w1 ⟨rfl, c1, t1, rfl⟩)
    refine bodyPost_ret (v := .agg #[.bool s, .int .u64 xa, .pointer pa, .int .u64 xd, .pointer pd]) (by simp [results, Tryz.results107, go_sem]) rfl ⟨?_, _, rfl, s, xa, pa, xd, pd, rfl, HA.out.keep (B := w.heap.size) ?_ (Nat.le_refl _), by rw [if_neg H1.out]; exact HD.out.keep (B := w.heap.size) (Below.thru (bl3 _ _ _ _) (by simp <;> omega) (bl2 _ _ _)) (Nat.le_refl _), hd0, HG.out⟩
    · exact Below.thru (bl3 _ _ _ _) (by simp <;> omega) (bl2 _ _ _)
    · exact Below.thru (bl3 _ _ _ _) (by simp <;> omega) (bl2 _ _ _)
theorem under_any (v : Value) (n : Int) (d : Nat) (w : World) (h : Rr w v n d) : Calls Tryz.prog 105 #[v] w (PDg d w) := by
  obtain ⟨s, x, p, y, q, rfl, hz, hd, hd0, _⟩ := h
  have HD := Lib.hid hd
  clear hz hd
  by_cases h1 : d = 1
  · have H0 : Hid ((if d = 1 then 0 else d) = 0) := by show _ = _; rw [if_pos h1]
    have H1 := Lib.hid h1
    clear h1
    go_enter Tryz.func105, Tryz.ntmps105
    go_wp2_with (go_at_call 89; refine (isZero_yes _ (HD.out.keep (bl2 _ _ _) (Nat.le_refl _)) H0.out).mono ?_; rintro e w1 ⟨rfl, c1, t1, rfl⟩)
    exact bodyPost_ret (v := .agg #[.int .u64 1, .pointer none]) (by simp [results, Tryz.results105, go_sem]) rfl ⟨Below.thru (bl2 _ _ _) (by simp <;> omega) (bl2 _ _ _), _, rfl, (Dg.of_small _ (n := 1) (by unfold Wd WB; omega)).cast H1.out.symm⟩
  · have H0 : Hid ((if d = 1 then 0 else d) ≠ 0) := by show _ ≠ _; rw [if_neg h1]; omega
    have H1 := Lib.hid h1
    clear h1
    go_enter Tryz.func105, Tryz.ntmps105
    go_wp2_with (go_at_call 89; refine (isZero_no _ (HD.out.keep (bl2 _ _ _) (Nat.le_refl _)) H0.out).mono ?_; rintro e w1 ⟨rfl, c1, t1, rfl⟩)
    exact bodyPost_ret (v := .agg #[.int .u64 y, .pointer q]) (by simp [results, Tryz.results105, go_sem]) rfl ⟨Below.thru (bl2 _ _ _) (by simp <;> omega) (bl2 _ _ _), _, rfl, (HD.out.cast (if_neg H1.out)).keep (B := w.heap.size) (Below.thru (bl2 _ _ _) (by simp <;> omega) (bl2 _ _ _)) (Nat.le_refl _)⟩
end Go.Proofs.YtjjomjjgoceklaaGreat
namespace Go.Proofs.YtjjomjjgoceklaaGreat
set_option maxRecDepth 100000
open Go.RowKit

/-- the R result's box at T -/
def Rq (T : Nat) (w : World) : Prop := ∃ (s : Bool) (x : Int) (p : Option Addr) (y : Int) (q : Option Addr), w.heap[T]? = some (.cells #[.bool s, .int .u64 x, .pointer p, .int .u64 y, .pointer q] 33)
theorem Rq.keep {T C : Nat} {w w' : World} (h : Rq T w) (hb : Below C w w') (hT : T < C) : Rq T w' := by
  obtain ⟨s, x, p, y, q, h⟩ := h
  exact ⟨s, x, p, y, q, (hb.block T hT).trans h⟩
theorem Rq.alloc {T : Nat} {w : World} (h : Rq T w) (o : Obj) : Rq T (w.alloc o) := by
  obtain ⟨s, x, p, y, q, h⟩ := h
  exact ⟨s, x, p, y, q, (Below.heap_alloc w o T (Array.getElem?_eq_some_iff.1 h).1).trans h⟩
theorem rq_new (w : World) {T : Nat} (hT : T = w.heap.size) : Rq T (w.alloc (.cells #[.bool false, .int .u64 0, .pointer none, .int .u64 0, .pointer none] 33)) := by
  subst hT; exact ⟨false, 0, none, 0, none, Go.Deep.blk_alloc_new _ _⟩
theorem Rq.cells {T : Nat} {w : World} (h : Rq T w) : ∃ (s : Bool) (x : Int) (p : Option Addr) (y : Int) (q : Option Addr), w.cell? ⟨T, 0, none⟩ = some (.bool s) ∧ w.cell? ⟨T, 1, none⟩ = some (.int .u64 x) ∧ w.cell? ⟨T, 2, none⟩ = some (.pointer p) ∧ w.cell? ⟨T, 3, none⟩ = some (.int .u64 y) ∧ w.cell? ⟨T, 4, none⟩ = some (.pointer q) ∧
    w.frozen? ⟨T, 0, none⟩ = false ∧ w.frozen? ⟨T, 1, none⟩ = false ∧ w.frozen? ⟨T, 2, none⟩ = false ∧ w.frozen? ⟨T, 3, none⟩ = false ∧ w.frozen? ⟨T, 4, none⟩ = false := by
  obtain ⟨s, x, p, y, q, h⟩ := h
  refine ⟨s, x, p, y, q, ?_, ?_, ?_, ?_, ?_, ?_, ?_, ?_, ?_, ?_⟩ <;> simp [World.cell?, World.frozen?, h]
theorem Rq.odd {T : Nat} {w : World} (h : Rq T w) : Odd T w := by
  obtain ⟨s, x, p, y, q, h⟩ := h
  have hc : ∀ o, w.cell? ⟨T, o, none⟩ = (#[Value.bool s, .int .u64 x, .pointer p, .int .u64 y, .pointer q] : Array Value)[o]? := fun o => by simp [World.cell?, h]
  refine ⟨fun o x' y' h1 h2 => ?_, fun p l c h1 => ?_⟩
  · rw [hc] at h1 h2
    match o with
    | 0 => simp at h1
    | 1 => simp at h2
    | 2 => simp at h1
    | 3 => simp at h2
    | 4 => simp at h1
    | o + 5 => simp at h1
  · rw [hc] at h1; simp at h1
/-- five stores into the R result's box -/
@[reducible] def st5 (w : World) (T : Nat) (a b c d e : Value) : World := ((((w.setCell ⟨T, 0, none⟩ a).setCell ⟨T, 1, none⟩ b).setCell ⟨T, 2, none⟩ c).setCell ⟨T, 3, none⟩ d).setCell ⟨T, 4, none⟩ e
theorem grown5 (w : World) (T : Nat) (a b c d e : Value) : w.grownBy (st5 w T a b c d e) (some T) := only_setCell (p := ⟨T, 4, none⟩) (only_setCell (p := ⟨T, 3, none⟩) (grown3 w T 0 1 2 a b c) rfl _) rfl _
theorem below5 {B T : Nat} {a w : World} (h : Below B a w) (hT : B ≤ T) (u v x y z : Value) : Below B a (st5 w T u v x y z) :=
  (((((h.setCell (by simp <;> omega) _).setCell (by simp <;> omega) _).setCell (by simp <;> omega) _).setCell (by simp <;> omega) _).setCell (by simp <;> omega) _)
theorem five_cells {w : World} {T : Nat} {a' b' c' d' e' : Value} (h1 : w.cell? ⟨T, 0, none⟩ = some a') (h2 : w.cell? ⟨T, 1, none⟩ = some b') (h3 : w.cell? ⟨T, 2, none⟩ = some c') (h4 : w.cell? ⟨T, 3, none⟩ = some d') (h5 : w.cell? ⟨T, 4, none⟩ = some e') (a b c d e : Value) :
    (st5 w T a b c d e).cell? ⟨T, 0, none⟩ = some a ∧ (st5 w T a b c d e).cell? ⟨T, 1, none⟩ = some b ∧ (st5 w T a b c d e).cell? ⟨T, 2, none⟩ = some c ∧ (st5 w T a b c d e).cell? ⟨T, 3, none⟩ = some d ∧ (st5 w T a b c d e).cell? ⟨T, 4, none⟩ = some e := by
  obtain ⟨e1, e2, e3⟩ := three_cells h1 h2 h3 a b c
  have e4 : (((w.setCell ⟨T, 0, none⟩ a).setCell ⟨T, 1, none⟩ b).setCell ⟨T, 2, none⟩ c).cell? ⟨T, 3, none⟩ = some d' := by
    rw [World.cell?_setCell_other _ _ _ _ (by simp), World.cell?_setCell_other _ _ _ _ (by simp), World.cell?_setCell_other _ _ _ _ (by simp)]; exact h4
  have e5 : (((w.setCell ⟨T, 0, none⟩ a).setCell ⟨T, 1, none⟩ b).setCell ⟨T, 2, none⟩ c).cell? ⟨T, 4, none⟩ = some e' := by
    rw [World.cell?_setCell_other _ _ _ _ (by simp), World.cell?_setCell_other _ _ _ _ (by simp), World.cell?_setCell_other _ _ _ _ (by simp)]; exact h5
  have e6 : ((((w.setCell ⟨T, 0, none⟩ a).setCell ⟨T, 1, none⟩ b).setCell ⟨T, 2, none⟩ c).setCell ⟨T, 3, none⟩ d).cell? ⟨T, 4, none⟩ = some e' := by
    rw [World.cell?_setCell_other _ _ _ _ (by simp)]; exact e5
  unfold st5
  refine ⟨?_, ?_, ?_, ?_, World.cell?_setCell_same' _ _ _ (by rw [e6]; rfl)⟩
  · rw [World.cell?_setCell_other _ _ _ _ (by simp), World.cell?_setCell_other _ _ _ _ (by simp)]; exact e1
  · rw [World.cell?_setCell_other _ _ _ _ (by simp), World.cell?_setCell_other _ _ _ _ (by simp)]; exact e2
  · rw [World.cell?_setCell_other _ _ _ _ (by simp), World.cell?_setCell_other _ _ _ _ (by simp)]; exact e3
  · rw [World.cell?_setCell_other _ _ _ _ (by simp)]; exact World.cell?_setCell_same' _ _ _ (by rw [e4]; rfl)
theorem Rr.store {w w' : World} {v : Value} {n : Int} {d T : Nat} (h : Rr w v n d) (hT : Odd T w) (hg : w.grownBy w' (some T)) : Rr w' v n d := by
  obtain ⟨s, x, p, y, q, h1, h2, h3, h4⟩ := h
  exact ⟨s, x, p, y, q, h1, h2.store hT hg, h3.store hT hg, h4⟩
theorem Rr.cast {w : World} {v : Value} {n m : Int} {d e : Nat} (h : Rr w v n d) (h1 : n = m) (h2 : d = e) : Rr w v m e := h1 ▸ h2 ▸ h
theorem Rr.agg {w : World} {v : Value} {n : Int} {d : Nat} (h : Rr w v n d) : ∃ (s : Bool) (x : Int) (p : Option Addr) (y : Int) (q : Option Addr), v = .agg #[.bool s, .int .u64 x, .pointer p, .int .u64 y, .pointer q] := by
  obtain ⟨s, x, p, y, q, h1, _⟩ := h
  exact ⟨s, x, p, y, q, h1⟩

theorem cell_st5 (w : World) {T b : Nat} (hne : b ≠ T) (o : Nat) (u v x y z : Value) : (st5 w T u v x y z).cell? ⟨b, o, none⟩ = w.cell? ⟨b, o, none⟩ := by
  unfold st5
  have h : ∀ i, (⟨T, i, none⟩ : Addr) ≠ ⟨b, o, none⟩ := fun i e => hne (by injection e with e1; exact e1.symm)
  rw [World.cell?_setCell_other _ _ _ _ (h _), World.cell?_setCell_other _ _ _ _ (h _), World.cell?_setCell_other _ _ _ _ (h _), World.cell?_setCell_other _ _ _ _ (h _), World.cell?_setCell_other _ _ _ _ (h _)]
theorem Bd.keep5 {B T : Nat} {x y : Value} {w : World} (h : Bd B x y w) (hB : B ≠ T) (a b c d e : Value) : Bd B x y (st5 w T a b c d e) :=
  ⟨(cell_st5 w hB _ _ _ _ _ _).trans h.1, (cell_st5 w hB _ _ _ _ _ _).trans h.2⟩
/-- the cells that the region of 'reduced' loads -/
@[reducible] def C7 (B G : Nat) (s : Bool) (xa : Int) (pa : Option Addr) (xd : Int) (pd : Option Addr) (xg : Int) (pg : Option Addr) (w' : World) : Prop :=
  w'.cell? ⟨B, 0, none⟩ = some (.bool s) ∧ w'.cell? ⟨B, 1, none⟩ = some (.int .u64 xa) ∧ w'.cell? ⟨B, 2, none⟩ = some (.pointer pa) ∧ w'.cell? ⟨B + 1, 0, none⟩ = some (.int .u64 xd) ∧ w'.cell? ⟨B + 1, 1, none⟩ = some (.pointer pd) ∧ w'.cell? ⟨G, 0, none⟩ = some (.int .u64 xg) ∧ w'.cell? ⟨G, 1, none⟩ = some (.pointer pg)
theorem C7.mk {B G : Nat} {s : Bool} {xa : Int} {pa : Option Addr} {xd : Int} {pd : Option Addr} {xg : Int} {pg : Option Addr} {w' : World} (a : B3 B s xa pa w') (b : Bd (B + 1) (.int .u64 xd) (.pointer pd) w') (g : Bd G (.int .u64 xg) (.pointer pg) w') : C7 B G s xa pa xd pd xg pg w' :=
  ⟨a.1, a.2.1, a.2.2, b.1, b.2, g.1, g.2⟩
theorem gcd_red (n : Int) (d : Nat) (hd : 0 < d) : Nat.gcd (Int.tdiv n (Nat.gcd n.natAbs d : Nat)).natAbs (d / Nat.gcd n.natAbs d) = 1 := by
  have hg : 0 < Nat.gcd n.natAbs d := Nat.gcd_pos_of_pos_right _ hd
  rw [Int.natAbs_tdiv, Int.natAbs_natCast]
  show Nat.gcd (n.natAbs / _) _ = 1
  rw [Nat.gcd_div (Nat.gcd_dvd_left _ _) (Nat.gcd_dvd_right _ _), Nat.div_self hg]
set_option maxHeartbeats 600000 in
theorem reduced_any (vn vd : Value) (n : Int) (d : Nat) (w : World) (hn : Zr w vn n) (hd : Dg w vd d) (hd0 : 0 < d) (hc : CommonC n.natAbs d)
    (ho1 : Nat.gcd n.natAbs d ≠ 1 → OverC n.natAbs (Nat.gcd n.natAbs d)) (ho2 : Nat.gcd n.natAbs d ≠ 1 → OverC d (Nat.gcd n.natAbs d)) :
    Calls Tryz.prog 101 #[vn, vd] w (PR (Int.tdiv n (Nat.gcd n.natAbs d : Nat)) (d / Nat.gcd n.natAbs d) w) := by
  have hred := gcd_red n d hd0
  have hdp : 0 < d / Nat.gcd n.natAbs d := Nat.div_pos (Nat.le_of_dvd hd0 (Nat.gcd_dvd_right _ _)) (Nat.gcd_pos_of_pos_right _ hd0)
  have HR := Lib.hid hred
  have HN := Lib.hid hn
  obtain ⟨s, xa, pa, rfl, hda, h1, h2⟩ := hn.dg
  obtain ⟨xd, pd, rfl⟩ := hd.agg
  have HA := Lib.hid hda; have HD := Lib.hid hd
  have HC := Lib.hid hc
  generalize hgg : Nat.gcd n.natAbs d = g at *
  have HGG := Lib.hid hgg
  clear hn hd hda h1 h2 hred hc hgg
  go_enter Tryz.func101, Tryz.ntmps101
  go_wp2_with fail
  refine (HC.out _ _ _ (HA.out.keep (bl3 _ _ _ _) (Nat.le_refl _)) (HD.out.keep (bl3 _ _ _ _) (Nat.le_refl _))).mono ?_
  rintro e w1 ⟨hb1, vg, rfl, hg⟩
  have hg := hg.cast HGG.out
  obtain ⟨xg, pg, rfl⟩ := hg.agg
  have HG := Lib.hid hg
  clear hg
  have z00 : w.heap.size + 3 ≤ w1.heap.size := Nat.le_trans (by simp) hb1.size
  have k00 : Below w.heap.size w w1 := Below.thru (bl3 _ _ _ _) (by simp <;> omega) hb1
  have a00 : B3 w.heap.size s xa pa w1 := B3.keep (by refine ⟨?_, ?_, ?_⟩ <;> simp [go_sem, World.cell?_alloc_past]) hb1 (by simp <;> omega)
  have b00 : Bd (w.heap.size + 1) (.int .u64 xd) (.pointer pd) w1 := Bd.keep (by refine ⟨?_, ?_⟩ <;> simp [go_sem, World.cell?_alloc_past]) hb1 (by simp <;> omega)
  have r00 : Rq (w.heap.size + 1 + 1) w1 := Rq.keep (rq_new _ (by simp)) hb1 (by simp <;> omega)
  go_wp2
  generalize hW : World.alloc w1 (Obj.cells #[Value.int IntKind.u64 xg, Value.pointer pg] 26) = W
  have hbW : Below w1.heap.size w1 W := by rw [← hW]; exact bl1 _ _
  have g0 : Bd w1.heap.size (.int .u64 xg) (.pointer pg) W := by rw [← hW]; refine ⟨?_, ?_⟩ <;> simp [go_sem]
  have z0 : w1.heap.size + 1 ≤ W.heap.size := by rw [← hW]; simp
  clear hW
  have hbW : Below w1.heap.size w1 W.drew := hbW.drew
  have g0 : Bd w1.heap.size (.int .u64 xg) (.pointer pg) W.drew := g0
  have a0 : B3 w.heap.size s xa pa W.drew := B3.keep a00 hbW (by omega)
  have b0 : Bd (w.heap.size + 1) (.int .u64 xd) (.pointer pd) W.drew := Bd.keep b00 hbW (by omega)
  have r0 : Rq (w.heap.size + 1 + 1) W.drew := Rq.keep r00 hbW (by omega)
  have k0 : Below w.heap.size w W.drew := Below.thru k00 k00.size hbW
  have z0 : w1.heap.size + 1 ≤ W.drew.heap.size := z0
  have q0 := C7.mk a0 b0 g0
  go_region_held3 (fun w' => w'.cell? ⟨w.heap.size, 0, none⟩ = some (.bool s) ∧ w'.cell? ⟨w.heap.size, 1, none⟩ = some (.int .u64 xa) ∧ w'.cell? ⟨w.heap.size, 2, none⟩ = some (.pointer pa) ∧ w'.cell? ⟨w.heap.size + 1, 0, none⟩ = some (.int .u64 xd) ∧ w'.cell? ⟨w.heap.size + 1, 1, none⟩ = some (.pointer pd) ∧ w'.cell? ⟨w1.heap.size, 0, none⟩ = some (.int .u64 xg) ∧ w'.cell? ⟨w1.heap.size, 1, none⟩ = some (.pointer pg))
    (first | (with_reducible exact q4) | (with_reducible exact q3) | (with_reducible exact q2) | (with_reducible exact q1) | (with_reducible exact q0))
    (first
      | (go_at_call 111; (with_reducible refine (part_any (.agg #[.bool s, .int .u64 xa, .pointer pa]) (.agg #[.int .u64 xg, .pointer pg]) n g W.drew (HN.out.keep (B := w.heap.size) k0 (Nat.le_refl _)) (HG.out.keep hbW (Nat.le_refl _)) ho1).mono ?_); rintro e w2 ⟨hb2, v2, rfl, hs2⟩
         have a1 := B3.keep a0 hb2 (by omega); have b1 := Bd.keep b0 hb2 (by omega); have g1 := Bd.keep g0 hb2 (by omega); have q1 := C7.mk a1 b1 g1; have r1 := Rq.keep r0 hb2 (by omega); have k1 := Below.thru k0 k0.size hb2; have z1 : w1.heap.size + 1 ≤ w2.heap.size := Nat.le_trans z0 hb2.size)
      | (go_at_call 109; (with_reducible refine (share_any (.agg #[.int .u64 xd, .pointer pd]) (.agg #[.int .u64 xg, .pointer pg]) d g w2 (HD.out.keep (B := w.heap.size) k1 (Nat.le_refl _)) ((HG.out.keep hbW (Nat.le_refl _)).keep hb2 (Nat.le_refl _)) ho2).mono ?_); rintro e w3 ⟨hb3, v3, rfl, hs3⟩
         have a2 := B3.keep a1 hb3 (by omega); have b2 := Bd.keep b1 hb3 (by omega); have g2 := Bd.keep g1 hb3 (by omega); have q2 := C7.mk a2 b2 g2; have r2 := Rq.keep r1 hb3 (by omega); have k2 := Below.thru k1 k1.size hb3; have z2 : w1.heap.size + 1 ≤ w3.heap.size := Nat.le_trans z1 hb3.size)
      | (go_at_call 107; (with_reducible refine (lowest_any v2 v3 _ (d / g) w3 (hs2.keep hb3 (Nat.le_refl _)) hs3 hdp HR.out).mono ?_); rintro e w4 ⟨hb4, v4, rfl, hs4⟩
         have a3 := B3.keep a2 hb4 (by omega); have b3 := Bd.keep b2 hb4 (by omega); have g3 := Bd.keep g2 hb4 (by omega); have q3 := C7.mk a3 b3 g3; have r3 := Rq.keep r2 hb4 (by omega); have k3 := Below.thru k2 k2.size hb4; have z3 : w1.heap.size + 1 ≤ w4.heap.size := Nat.le_trans z2 hb4.size; obtain ⟨s5, x5, p5, y5, q5, rfl⟩ := hs4.agg; obtain ⟨s6, x6, p6, y6, q6, m1, m2, m3, m4, m5, m6, m7, m8, m9, m10⟩ := r3.cells; have q4 := C7.mk (a3.keep (C := w.heap.size + 1 + 1) (below5 (Below.refl _ _) (Nat.le_refl _) (.bool s5) (.int .u64 x5) (.pointer p5) (.int .u64 y5) (.pointer q5)) (by omega)) (b3.keep (C := w.heap.size + 1 + 1) (below5 (Below.refl _ _) (Nat.le_refl _) _ _ _ _ _) (by omega)) (g3.keep5 (by omega) _ _ _ _ _)))
  obtain ⟨n1, n2, n3, n4, n5⟩ := five_cells m1 m2 m3 m4 m5 (.bool s5) (.int .u64 x5) (.pointer p5) (.int .u64 y5) (.pointer q5)
  unfold st5 at n1 n2 n3 n4 n5
  go_wp2
  exact bodyPost_ret (v := .agg #[.bool s5, .int .u64 x5, .pointer p5, .int .u64 y5, .pointer q5]) (by simp [results, Tryz.results101, go_sem, n1, n2, n3, n4, n5]) rfl ⟨below5 k3 (by omega) _ _ _ _ _, _, rfl, hs4.store r3.odd (grown5 _ _ _ _ _ _ _)⟩
end Go.Proofs.YtjjomjjgoceklaaGreat
