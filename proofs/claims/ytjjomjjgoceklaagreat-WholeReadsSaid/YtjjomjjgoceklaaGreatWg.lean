import Derived.Test.YtjjomjjgoceklaaGreatKcf
import Derived.Test.YtjjomjjgoceklaaGreatWf
import Derived.Test.YtjjomjjgoceklaaGreatKaj
import Derived.Test.YtjjomjjgoceklaaGreatWc
namespace Go.Proofs.YtjjomjjgoceklaaGreat
set_option maxRecDepth 100000
open Go.RowKit

/-! OfZ, Ratio of the reference -/
theorem divInt_abs {y z : Int} (_h0 : z ≠ 0) : Rat.divInt y z = Rat.divInt (YY y z) (z.natAbs : Int) := by
  unfold YY
  split
  · rw [show (z.natAbs : Int) = -z by omega, Rat.divInt_neg', Int.neg_neg]
  · rw [show (z.natAbs : Int) = z by omega]
theorem low_num {Y : Int} {Z : Nat} (h0 : 0 < Z) : (Rat.divInt Y Z).num = Y / (Int.gcd Y Z : Int) ∧ (((Rat.divInt Y Z).den : Nat) : Int) = (Z : Int) / (Int.gcd Y Z : Int) := by
  constructor
  · rw [Rat.num_divInt, Int.sign_natCast_of_ne_zero (by omega), Int.one_mul, Int.gcd_comm]
  · rw [Rat.den_divInt, if_neg (by omega), Int.gcd_comm]; simp
theorem O9.fin {w0 W : World} {A B : Int} {s1 : Int} {p1 : Option Addr} {l1 c1 : Nat} {s2 : Int} {p2 : Option Addr} {l2 c2 : Nat} (h : O9 w0 A B W) (h1 : RZ W (.agg #[.int .i64 s1, .slice p1 l1 c1]) A) (h2 : RZ W (.agg #[.int .i64 s2, .slice p2 l2 c2]) B) :
    Below w0.heap.size w0 (st4r W (w0.heap.size + 1 + 1) (.int .i64 s1) (.slice p1 l1 c1) (.int .i64 s2) (.slice p2 l2 c2)) ∧ RRv (st4r W (w0.heap.size + 1 + 1) (.int .i64 s1) (.slice p1 l1 c1) (.int .i64 s2) (.slice p2 l2 c2)) (.agg #[.int .i64 s1, .slice p1 l1 c1, .int .i64 s2, .slice p2 l2 c2]) A B :=
  ⟨below4r h.k (by omega) _ _ _ _, s1, p1, l1, c1, s2, p2, l2, c2, rfl, h1.store h.t.noI (grown4r _ _ _ _ _ _), h2.store h.t.noI (grown4r _ _ _ _ _ _)⟩
set_option maxHeartbeats 1600000 in
theorem rofz_any (va vb : Value) (y z : Int) (w : World) (ha : RZ w va y) (hb : RZ w vb z) (sy : Sr y) (sz : Sr z) (h0 : z ≠ 0) : Calls Tryz.prog 29 #[va, vb] w (PRR (Rat.divInt y z).num ((Rat.divInt y z).den : Int) w) := by
  obtain ⟨pa, la, ca, rfl⟩ := ha.agg
  obtain ⟨pb, lb, cb, rfl⟩ := hb.agg
  have S0 : O9 w y z (((w.alloc (.cells #[.int .i64 y.sign, .slice pa la ca] 41)).alloc (.cells #[.int .i64 z.sign, .slice pb lb cb] 41)).alloc (.cells #[.int .i64 0, .slice none 0 0, .int .i64 0, .slice none 0 0] 44)) :=
    ⟨bl3 _ _ _ _, ((Hr.new ha).al _).al _, by
      have := Hr.new (hb.keep (bl1 w (.cells #[.int .i64 y.sign, .slice pa la ca] 41)) (Nat.le_refl _))
      rw [World.size_alloc] at this
      exact this.al _, r4_new _ (by simp)⟩
  have S0 := Lib.hid S0
  have SY := Lib.hid sy; have SZ := Lib.hid sz
  have HDV := Lib.hid (divInt_abs (y := y) h0)
  have SYY : Hid (Sr (YY y z)) := by show Sr _; unfold YY; split; exact sy.neg; exact sy
  have SZZ : Hid (Sr (z.natAbs : Int)) := Sr.ofN sz (Nat.le_refl _)
  have Z0 : Hid (0 < z.natAbs) := by show 0 < _; omega
  obtain ⟨Y, hY⟩ : ∃ Y, Y = YY y z := ⟨_, rfl⟩
  obtain ⟨Z, hZ⟩ : ∃ Z, Z = z.natAbs := ⟨_, rfl⟩
  rw [← hY, ← hZ] at HDV
  rw [← hY] at SYY
  rw [← hZ] at SZZ Z0
  have HY := Lib.hid hY; have HZ := Lib.hid hZ
  obtain ⟨sz0, hsz⟩ : ∃ s, s = z.sign := ⟨_, rfl⟩
  rw [← hsz] at S0 ⊢
  have HSZ := Lib.hid hsz
  clear ha hb sy sz h0 hY hZ hsz
  go_enter Tryz.func29, Tryz.ntmps29
  go_upto_if 8 with fail
  go_cut [] (fun wc => O9 w Y (Z : Int) wc)
  case first =>
    obtain ⟨bs, hbs⟩ : ∃ bs, bs = decide (sz0 < 0) := ⟨_, rfl⟩
    rw [← hbs]
    by_cases hz : z < 0
    · have hs : decide (sz0 < 0) = true := by rw [HSZ.out, Int.sign_eq_neg_one_of_neg hz]; rfl
      rw [hs] at hbs
      subst hbs
      clear hs
      have HY : Hid (Y = -y) := by show _ = _; rw [HY.out]; unfold YY; rw [if_pos hz]
      have HZ : Hid ((Z : Int) = -z) := by show _ = _; rw [HZ.out]; omega
      clear hz
      go_upto_region 2 with fail
      go_cut [] (fun wc => O9 w (-y) (-z) wc)
      case first =>
        rename_i J K' hJ hK
        refine wp_region_two D29 (tab29 y z) (fun w' => O9 w y z w') 4 (fun i f w' => match i with
          | 5 => O9 w (-y) z w' ∧ RZ w' (f 12) (-z)
          | _ => O9 w (-y) (-z) w') (by kernel_rfl) (by kernel_rfl) (by kernel_rfl) (by kernel_rfl) (by decide) (by kernel_rfl) (fun _ _ h hb => h.keep hb) (S0.out.keep (Below.refl _ _).drew) ?_ ?_ ?_
        · refine .cons (fun f w' hI hs => ?_) ?_
          · obtain ⟨s, p, l, c, h1, h2⟩ := hI.a
            exact ⟨wanted_none rfl, _, rfl, .val (rn_load32 rfl (fr_old rfl rfl) h1) ⟨Below.refl _ _, h2⟩⟩
          refine .cons (fun f w' hI hs => ⟨wanted_none rfl, _, rfl, .call1 rfl cf93' rfl rfl (PRZ.kd (znegr_any _ y _ (hs 9 (by kernel_rfl))))⟩) ?_
          refine .cons (fun f w' hI hs => ?_) ?_
          · obtain ⟨s, p, l, c, h1, h2⟩ := hI.b
            exact ⟨wanted_none rfl, _, rfl, .val (rn_load32 rfl (fr_old rfl rfl) h1) ⟨Below.refl _ _, h2⟩⟩
          refine .cons (fun f w' hI hs => ⟨wanted_none rfl, _, rfl, .call1 rfl cf93' rfl rfl (PRZ.kd (znegr_any _ z _ (hs 11 (by kernel_rfl))))⟩) ?_
          exact .nil
        · refine .cons (fun f w' h => ⟨wanted_none rfl, ?_⟩) ?_
          · obtain ⟨hI, hs⟩ := (if_pos rfl) ▸ h
            have hz : RZ w' (f 10) (-y) := hs 10 (by kernel_rfl)
            have hz2 : RZ w' (f 12) (-z) := hs 12 (by kernel_rfl)
            obtain ⟨p, l, c, e⟩ := hz.agg
            rw [e] at hz
            obtain ⟨_, _, _, _, hB, _⟩ := hI.a
            exact .skip (rn_store32 rfl (fr_old rfl rfl) ((fr_own rfl rfl).trans e) hB) ⟨hI.putA hz, hz2.store hB.noI (grown2 _ _ 0 1 _ _)⟩
          refine .cons (fun f w' h => ⟨wanted_none rfl, ?_⟩) .nil
          obtain ⟨hI, hz⟩ : O9 w (-y) z w' ∧ RZ w' (f 12) (-z) := h
          obtain ⟨p, l, c, e⟩ := hz.agg
          rw [e] at hz
          obtain ⟨_, _, _, _, hB, _⟩ := hI.b
          exact .skip (rn_store32 rfl (fr_old rfl rfl) ((fr_own rfl rfl).trans e) hB) (hI.putB hz)
        · intro f w' h
          refine hK _ _ (Met.intro (hJ _ _ ?_))
          (repeat apply Exists.intro)
          refine ⟨?_, rfl⟩
          exact h
      case rest =>
        have HC := Lib.hid hcut
        clear hcut S0
        go_wp2
        go_meet
        case rel => rw [HY.out, HZ.out]; exact HC.out
    · have hs : decide (sz0 < 0) = false := by
        rw [HSZ.out]
        rcases Int.lt_trichotomy z 0 with h | h | h
        · omega
        · rw [h]; rfl
        · rw [Int.sign_eq_one_of_pos h]; rfl
      rw [hs] at hbs
      subst hbs
      clear hs
      have HY : Hid (Y = y) := by show _ = _; rw [HY.out]; unfold YY; rw [if_neg hz]
      have HZ : Hid ((Z : Int) = z) := by show _ = _; rw [HZ.out]; omega
      clear hz
      go_wp2
      go_meet
      case rel => rw [HY.out, HZ.out]; exact S0.out
  case rest =>
    clear S0
    have S := Lib.hid hcut
    clear hcut
    obtain ⟨sa, p1, l1, c1, f1, f2⟩ := S.out.a
    obtain ⟨sb, p2, l2, c2, f3, f4⟩ := S.out.b
    obtain ⟨g1, g2, _, _⟩ := f1.cells
    obtain ⟨g5, g6, _, _⟩ := f3.cells
    have F2 := Lib.hid f2; have F4 := Lib.hid f4
    clear f1 f2 f3 f4
    go_wp2_with fail
    refine (zgcd_any _ _ Y (Z : Int) _ F2.out F4.out SYY.out SZZ.out).mono ?_
    rintro e w1 ⟨hb1, v1, rfl, h1⟩
    have LN := Lib.hid (low_num (Y := Y) Z0.out)
    obtain ⟨g, hg⟩ : ∃ g : Nat, g = Int.gcd Y (Z : Int) := ⟨_, rfl⟩
    rw [← hg] at h1 LN
    have G0 : Hid ((g : Int) ≠ 0) := by
      show _ ≠ _
      have := Int.gcd_pos_of_ne_zero_right Y (show (Z : Int) ≠ 0 by have := Z0.out; omega)
      omega
    have SG : Hid (Sr (g : Int)) := Sr.ofN SZZ.out (by
      rw [hg, Int.natAbs_natCast]
      exact Nat.le_of_dvd Z0.out (Int.ofNat_dvd.1 (Int.gcd_dvd_right ..)))
    obtain ⟨s7, p7, l7, c7, rfl, h7⟩ := PRZ.box h1
    have G1 := Hr.new h7
    have S1 : O9 w Y (Z : Int) (w1.alloc (.cells #[.int .i64 s7, .slice p7 l7 c7] 41)) := (S.out.keep hb1).keep (bl1 _ _)
    have zz : w.heap.size + 3 ≤ w1.heap.size := by have := (S.out.keep hb1).t.lt; omega
    have SS := Lib.hid (And.intro S1 G1)
    clear S S1 G1 g1 g2 g5 g6 F2 F4 hb1 h1 h7 hg
    obtain ⟨bt, hbt⟩ : ∃ bt : Bool, bt = decide (0 < ((g : Int) - 1).sign) := ⟨_, rfl⟩
    have HBT := Lib.hid hbt
    clear hbt
    go_upto_region 4 with fail
    go_cut [19] (fun v wc => v = .bool bt ∧ O9 w Y (Z : Int) wc ∧ Hr w1.heap.size (g : Int) wc)
    case first =>
      rename_i J K' hJ hK
      refine wp_region_kd E29 (tub29 g) (fun w' => O9 w Y (Z : Int) w' ∧ Hr w1.heap.size (g : Int) w') (by kernel_rfl) (by kernel_rfl) (by kernel_rfl) (by kernel_rfl) (fun _ _ h hb => ⟨h.1.keep hb, h.2.keep hb⟩) ⟨SS.out.1.keep (Below.refl _ _).drew, SS.out.2.keep (Below.refl _ _).drew⟩ ?_ ?_
      · refine .cons (fun f w' hI hs => ?_) ?_
        · obtain ⟨s, p, l, c, h1, h2⟩ := hI.2
          exact ⟨wanted_none rfl, _, rfl, .val (rn_load32 rfl (fr_old rfl rfl) h1) ⟨Below.refl _ _, h2⟩⟩
        refine .cons (fun f w' hI hs => ⟨wanted_none rfl, _, rfl, .inr (.inr ⟨100, _, rn_call1 rfl rfl cf100, PRZ.kd (zint_any 1 _ (by decide))⟩)⟩) ?_
        refine .cons (fun f w' hI hs => ⟨wanted_none rfl, _, rfl, .call2 rfl cf103 rfl rfl rfl rfl (PSd.kd (zcmpr_any _ _ (g : Int) 1 _ (hs 16 (by kernel_rfl)) (hs 17 (by kernel_rfl)) SG.out ⟨1, by omega, by decide⟩) rfl)⟩) ?_
        exact .cons (fun f w' hI hs => ⟨wanted_none rfl, _, rfl, .val (rn_gtr3 rfl ((fr_own rfl rfl).trans (hs 18 (by kernel_rfl))) rfl rfl) ⟨Below.refl _ _, rfl⟩⟩) .nil
      · intro f w' hI hk
        refine hK _ _ (Met.intro (hJ _ _ ?_))
        (repeat apply Exists.intro)
        refine ⟨?_, rfl⟩
        exact ⟨by rw [HBT.out]; exact hk 19 (by kernel_rfl), hI.1, hI.2⟩
    case rest =>
      obtain ⟨rfl, S2, G2⟩ := hcut
      clear SS
      by_cases h1 : g = 1
      · have ht : bt = false := by rw [HBT.out, h1]; rfl
        subst ht
        have HQ : Hid (Y = (Rat.divInt Y (Z : Int)).num ∧ (Z : Int) = ((Rat.divInt Y (Z : Int)).den : Int)) := by
          show _ ∧ _
          have := LN.out
          rw [h1] at this
          constructor
          · rw [this.1]; simp
          · rw [this.2]; simp
        rw [← HDV.out] at HQ
        clear h1 G2 LN
        obtain ⟨sa, p1, l1, c1, f1, f2⟩ := S2.a
        obtain ⟨sb, p2, l2, c2, f3, f4⟩ := S2.b
        obtain ⟨g1, g2, _, _⟩ := f1.cells
        obtain ⟨g5, g6, _, _⟩ := f3.cells
        obtain ⟨_, _, _, _, _, _, _, _, m1, m2, m3, m4, m5, m6, m7, m8⟩ := S2.t.cells
        obtain ⟨n1, n2, n3, n4⟩ := four_cells m1 m2 m3 m4 (.int .i64 sa) (.slice p1 l1 c1) (.int .i64 sb) (.slice p2 l2 c2)
        have HF := Lib.hid ((S2.fin f2 f4))
        clear f1 f2 f3 f4 S2
        unfold st4r at n1 n2 n3 n4
        go_wp2
        exact bodyPost_ret (v := .agg #[.int .i64 sa, .slice p1 l1 c1, .int .i64 sb, .slice p2 l2 c2]) (by simp [results, Tryz.results29, go_sem, n1, n2, n3, n4]) rfl ⟨HF.out.1, _, rfl, HF.out.2.cast HQ.out.1 HQ.out.2⟩
      · have ht : bt = true := by
          rw [HBT.out, Int.sign_eq_one_of_pos (by have := G0.out; omega)]; rfl
        subst ht
        have HQ : Hid (Y / (g : Int) = (Rat.divInt Y (Z : Int)).num ∧ (Z : Int) / (g : Int) = ((Rat.divInt Y (Z : Int)).den : Int)) := ⟨LN.out.1.symm, LN.out.2.symm⟩
        rw [← HDV.out] at HQ
        clear h1 LN
        obtain ⟨sa, p1, l1, c1, f1, f2⟩ := S2.a
        obtain ⟨sg, p3, l3, c3, f5, f6⟩ := G2
        obtain ⟨g1, g2, _, _⟩ := f1.cells
        obtain ⟨g3, g4, _, _⟩ := f5.cells
        have F2 := Lib.hid f2; have F6 := Lib.hid f6
        have SS := Lib.hid (And.intro S2 (show Hr w1.heap.size (g : Int) wc from ⟨sg, p3, l3, c3, f5, f6⟩))
        clear f1 f2 f5 f6 S2
        go_wp2_with fail
        refine (zquotient_any _ _ Y (g : Int) _ F2.out F6.out SYY.out SG.out G0.out).mono ?_
        rintro e w3 ⟨hb3, v1, v2, rfl, h1, _⟩
        obtain ⟨s8, p8, l8, c8, rfl, h8⟩ := PRZ.box h1
        have S3 := SS.out.1.keep hb3
        have G3 := SS.out.2.keep hb3
        obtain ⟨_, _, _, _, k1, _⟩ := S3.a
        obtain ⟨m1, m2, m3, m4⟩ := k1.cells
        have S4 := S3.putA h8
        have G4 := G3.st k1.noI (grown2 w3 w.heap.size 0 1 (.int .i64 s8) (.slice p8 l8 c8)) (by omega)
        clear S3 G3 k1 h1 h8 hb3 g1 g2 g3 g4 F2 F6 SS
        obtain ⟨sb, p2, l2, c2, f3, f4⟩ := S4.b
        obtain ⟨sg, p3, l3, c3, f5, f6⟩ := G4
        obtain ⟨g1, g2, _, _⟩ := f3.cells
        obtain ⟨g3, g4, _, _⟩ := f5.cells
        have F4 := Lib.hid f4; have F6 := Lib.hid f6
        clear f3 f4 f5 f6
        have S4 := Lib.hid S4
        unfold st2 at g1 g2
        go_wp2_with fail
        refine (zquotient_any _ _ (Z : Int) (g : Int) _ F4.out F6.out SZZ.out SG.out G0.out).mono ?_
        rintro e w5 ⟨hb5, v1, v3, rfl, h1, _⟩
        obtain ⟨s9, p9, l9, c9, rfl, h9⟩ := PRZ.box h1
        have S5 := S4.out.keep hb5
        obtain ⟨_, _, _, _, k1, _⟩ := S5.b
        obtain ⟨j1, j2, j3, j4⟩ := k1.cells
        have S6 := S5.putB h9
        clear S4 S5 k1 h1 h9 hb5 g1 g2 g3 g4 m1 m2 m3 m4 F4 F6
        unfold st2 at S6
        obtain ⟨sa, p1, l1, c1, f1, f2⟩ := S6.a
        obtain ⟨sb, p2, l2, c2, f3, f4⟩ := S6.b
        obtain ⟨g1, g2, _, _⟩ := f1.cells
        obtain ⟨g5, g6, _, _⟩ := f3.cells
        obtain ⟨_, _, _, _, _, _, _, _, m1, m2, m3, m4, m5, m6, m7, m8⟩ := S6.t.cells
        obtain ⟨n1, n2, n3, n4⟩ := four_cells m1 m2 m3 m4 (.int .i64 sa) (.slice p1 l1 c1) (.int .i64 sb) (.slice p2 l2 c2)
        have HF := Lib.hid ((S6.fin f2 f4))
        clear f1 f2 f3 f4 S6
        unfold st4r at n1 n2 n3 n4
        go_wp2
        exact bodyPost_ret (v := .agg #[.int .i64 sa, .slice p1 l1 c1, .int .i64 sb, .slice p2 l2 c2]) (by simp [results, Tryz.results29, go_sem, n1, n2, n3, n4]) rfl ⟨HF.out.1, _, rfl, HF.out.2.cast HQ.out.1 HQ.out.2⟩
end Go.Proofs.YtjjomjjgoceklaaGreat
namespace Go.Proofs.YtjjomjjgoceklaaGreat
set_option maxRecDepth 100000
open Go.RowKit

/-! OfZ of any two integers, Ratio, as the rationals' -/
theorem ofZ_neg (vn vd : Value) (n : Int) (d : Nat) (w : World) (hn : Zr w vn n) (hd : Zr w vd (-(d : Int))) (hd0 : 0 < d) (hc : CommonC (-n).natAbs d)
    (ho1 : Nat.gcd (-n).natAbs d ≠ 1 → OverC (-n).natAbs (Nat.gcd (-n).natAbs d)) (ho2 : Nat.gcd (-n).natAbs d ≠ 1 → OverC d (Nat.gcd (-n).natAbs d)) :
    Calls Tryz.prog 28 #[vn, vd] w (PRe (Int.tdiv (-n) (Nat.gcd (-n).natAbs d : Nat)) (d / Nat.gcd (-n).natAbs d) 0 w) := by
  obtain ⟨s, xa, pa, m, rfl, _⟩ := id hn
  obtain ⟨sd, xd, pd, rfl, hdd, h1, h2⟩ := hd.dg
  have : sd = true := by
    cases sd with
    | true => rfl
    | false => have := h2 rfl; omega
  subst this
  have hdd := hdd.cast (show (-(d : Int)).natAbs = d by simp)
  have HN := Lib.hid hn; have HD := Lib.hid hdd
  have hz : d ≠ 0 := by omega
  have HZ := Lib.hid hz
  have HRED := Lib.hid (fun (W : World) (v1 v2 : Value) (a : Zr W v1 (-n)) (b : Dg W v2 d) => reduced_any v1 v2 (-n) d W a b hd0 hc ho1 ho2)
  clear hn hd hdd h1 h2 hz hc ho1 ho2
  cases s with
  | false =>
    go_enter Tryz.func28, Tryz.ntmps28
    go_wp2_with fail
    refine (isZero_no _ (HD.out.keep (bl3 _ _ _ _) (Nat.le_refl _)) HZ.out).mono ?_
    rintro e w1 ⟨rfl, c1, t1, rfl⟩
    go_wp2_with fail
    refine (neg_any _ n _ ((HN.out.keep (bl3 _ _ _ _) (Nat.le_refl _)).keep (bl2 _ _ _) (Nat.le_refl _))).mono ?_
    rintro e w2 ⟨hb2, v2, rfl, h2⟩
    obtain ⟨s2, x2, p2, rfl, _⟩ := h2.dg
    have kA : Below w.heap.size w _ := Below.thru (bl3 w (.cells #[.bool false, .int .u64 xa, .pointer pa] 28) (.cells #[.bool true, .int .u64 xd, .pointer pd] 28) (.cells #[.bool false, .int .u64 0, .pointer none, .int .u64 0, .pointer none] 33)) (by simp <;> omega) (bl2 _ (.cells c1 t1) (.cells c1 t1))
    have k2 := Below.thru kA kA.size hb2
    have R2 : Rz w.heap.size w2 := ⟨_, _, _, blk_keep (blk_keep (blk_keep (Go.Deep.blk_alloc_new w (.cells #[.bool false, .int .u64 xa, .pointer pa] 28)) (bl2 _ _ _)) (bl2 _ _ _)) hb2⟩
    have D2 : w2.heap[w.heap.size + 1]? = some (.cells #[.bool true, .int .u64 xd, .pointer pd] 28 (0, 0)) := blk_keep (blk_keep (by have := Go.Deep.blk_alloc_new (w.alloc (.cells #[.bool false, .int .u64 xa, .pointer pa] 28)) (.cells #[.bool true, .int .u64 xd, .pointer pd] 28); rw [World.size_alloc] at this; exact blk_keep this (bl1 _ _)) (bl2 _ _ _)) hb2
    have Q2 : Rq (w.heap.size + 1 + 1) w2 := Rq.keep (((rq_new _ (by simp)).alloc _).alloc _) hb2 (by simp <;> omega)
    have dg2 := Lib.hid (((HD.out.keep kA (Nat.le_refl _)).keep hb2 (by simp <;> omega)).store R2.odd (grown3 w2 w.heap.size 0 1 2 (.bool s2) (.int .u64 x2) (.pointer p2)))
    have zr2 := Lib.hid (h2.store R2.odd (grown3 w2 w.heap.size 0 1 2 (.bool s2) (.int .u64 x2) (.pointer p2)))
    have Q3 := Q2.other (grown3 w2 w.heap.size 0 1 2 (.bool s2) (.int .u64 x2) (.pointer p2)) (by omega)
    have D3 := blk_other D2 (grown3 w2 w.heap.size 0 1 2 (.bool s2) (.int .u64 x2) (.pointer p2)) (by omega)
    have k3 := below3 k2 (Nat.le_refl w.heap.size) (.bool s2) (.int .u64 x2) (.pointer p2)
    obtain ⟨_, _, _, m1, m2, m3, m4, m5, m6⟩ := R2.cells
    obtain ⟨g1, g2, g3⟩ := three_cells m1 m2 m3 (.bool s2) (.int .u64 x2) (.pointer p2)
    have g4 := cell_blk (i := 1) D3
    have g5 := cell_blk (i := 2) D3
    clear hb2 h2 kA D2 D3 Q2 k2 R2
    have HE := Lib.hid (And.intro Q3 k3)
    clear Q3 k3
    cases s2 with
    | false =>
      go_wp2_with fail
      refine (HRED.out _ _ _ zr2.out dg2.out).mono ?_
      rintro e w3 ⟨hb3, v3, rfl, h3⟩
      have r3 : Rq (w.heap.size + 1 + 1) w3 := HE.out.1.keep hb3 HE.out.1.lt
      have k3 := Below.thru HE.out.2 HE.out.2.size hb3
      obtain ⟨s5, x5, p5, y5, q5, rfl⟩ := h3.agg
      obtain ⟨_, _, _, _, _, n1, n2, n3, n4, n5, n6, n7, n8, n9, n10⟩ := r3.cells
      obtain ⟨j1, j2, j3, j4, j5⟩ := five_cells n1 n2 n3 n4 n5 (.bool s5) (.int .u64 x5) (.pointer p5) (.int .u64 y5) (.pointer q5)
      have H3 := Lib.hid h3
      clear hb3 h3 m1 m2 m3 m4 m5 m6 g1 g2 g3 g4 g5 HE
      unfold st5 at j1 j2 j3 j4 j5
      go_wp2
      exact bodyPost_ret (v := .tuple #[.agg #[.bool s5, .int .u64 x5, .pointer p5, .int .u64 y5, .pointer q5], .int .i64 0]) (by simp [results, Tryz.results28, go_sem, j1, j2, j3, j4, j5]) rfl ⟨below5 k3 (by omega) _ _ _ _ _, _, rfl, H3.out.store r3.odd (grown5 _ _ _ _ _ _ _)⟩
    | true =>
      go_wp2_with fail
      refine (HRED.out _ _ _ zr2.out dg2.out).mono ?_
      rintro e w3 ⟨hb3, v3, rfl, h3⟩
      have r3 : Rq (w.heap.size + 1 + 1) w3 := HE.out.1.keep hb3 HE.out.1.lt
      have k3 := Below.thru HE.out.2 HE.out.2.size hb3
      obtain ⟨s5, x5, p5, y5, q5, rfl⟩ := h3.agg
      obtain ⟨_, _, _, _, _, n1, n2, n3, n4, n5, n6, n7, n8, n9, n10⟩ := r3.cells
      obtain ⟨j1, j2, j3, j4, j5⟩ := five_cells n1 n2 n3 n4 n5 (.bool s5) (.int .u64 x5) (.pointer p5) (.int .u64 y5) (.pointer q5)
      have H3 := Lib.hid h3
      clear hb3 h3 m1 m2 m3 m4 m5 m6 g1 g2 g3 g4 g5 HE
      unfold st5 at j1 j2 j3 j4 j5
      go_wp2
      exact bodyPost_ret (v := .tuple #[.agg #[.bool s5, .int .u64 x5, .pointer p5, .int .u64 y5, .pointer q5], .int .i64 0]) (by simp [results, Tryz.results28, go_sem, j1, j2, j3, j4, j5]) rfl ⟨below5 k3 (by omega) _ _ _ _ _, _, rfl, H3.out.store r3.odd (grown5 _ _ _ _ _ _ _)⟩
  | true =>
    go_enter Tryz.func28, Tryz.ntmps28
    go_wp2_with fail
    refine (isZero_no _ (HD.out.keep (bl3 _ _ _ _) (Nat.le_refl _)) HZ.out).mono ?_
    rintro e w1 ⟨rfl, c1, t1, rfl⟩
    go_wp2_with fail
    refine (neg_any _ n _ ((HN.out.keep (bl3 _ _ _ _) (Nat.le_refl _)).keep (bl2 _ _ _) (Nat.le_refl _))).mono ?_
    rintro e w2 ⟨hb2, v2, rfl, h2⟩
    obtain ⟨s2, x2, p2, rfl, _⟩ := h2.dg
    have kA : Below w.heap.size w _ := Below.thru (bl3 w (.cells #[.bool true, .int .u64 xa, .pointer pa] 28) (.cells #[.bool true, .int .u64 xd, .pointer pd] 28) (.cells #[.bool false, .int .u64 0, .pointer none, .int .u64 0, .pointer none] 33)) (by simp <;> omega) (bl2 _ (.cells c1 t1) (.cells c1 t1))
    have k2 := Below.thru kA kA.size hb2
    have R2 : Rz w.heap.size w2 := ⟨_, _, _, blk_keep (blk_keep (blk_keep (Go.Deep.blk_alloc_new w (.cells #[.bool true, .int .u64 xa, .pointer pa] 28)) (bl2 _ _ _)) (bl2 _ _ _)) hb2⟩
    have D2 : w2.heap[w.heap.size + 1]? = some (.cells #[.bool true, .int .u64 xd, .pointer pd] 28 (0, 0)) := blk_keep (blk_keep (by have := Go.Deep.blk_alloc_new (w.alloc (.cells #[.bool true, .int .u64 xa, .pointer pa] 28)) (.cells #[.bool true, .int .u64 xd, .pointer pd] 28); rw [World.size_alloc] at this; exact blk_keep this (bl1 _ _)) (bl2 _ _ _)) hb2
    have Q2 : Rq (w.heap.size + 1 + 1) w2 := Rq.keep (((rq_new _ (by simp)).alloc _).alloc _) hb2 (by simp <;> omega)
    have dg2 := Lib.hid (((HD.out.keep kA (Nat.le_refl _)).keep hb2 (by simp <;> omega)).store R2.odd (grown3 w2 w.heap.size 0 1 2 (.bool s2) (.int .u64 x2) (.pointer p2)))
    have zr2 := Lib.hid (h2.store R2.odd (grown3 w2 w.heap.size 0 1 2 (.bool s2) (.int .u64 x2) (.pointer p2)))
    have Q3 := Q2.other (grown3 w2 w.heap.size 0 1 2 (.bool s2) (.int .u64 x2) (.pointer p2)) (by omega)
    have D3 := blk_other D2 (grown3 w2 w.heap.size 0 1 2 (.bool s2) (.int .u64 x2) (.pointer p2)) (by omega)
    have k3 := below3 k2 (Nat.le_refl w.heap.size) (.bool s2) (.int .u64 x2) (.pointer p2)
    obtain ⟨_, _, _, m1, m2, m3, m4, m5, m6⟩ := R2.cells
    obtain ⟨g1, g2, g3⟩ := three_cells m1 m2 m3 (.bool s2) (.int .u64 x2) (.pointer p2)
    have g4 := cell_blk (i := 1) D3
    have g5 := cell_blk (i := 2) D3
    clear hb2 h2 kA D2 D3 Q2 k2 R2
    have HE := Lib.hid (And.intro Q3 k3)
    clear Q3 k3
    cases s2 with
    | false =>
      go_wp2_with fail
      refine (HRED.out _ _ _ zr2.out dg2.out).mono ?_
      rintro e w3 ⟨hb3, v3, rfl, h3⟩
      have r3 : Rq (w.heap.size + 1 + 1) w3 := HE.out.1.keep hb3 HE.out.1.lt
      have k3 := Below.thru HE.out.2 HE.out.2.size hb3
      obtain ⟨s5, x5, p5, y5, q5, rfl⟩ := h3.agg
      obtain ⟨_, _, _, _, _, n1, n2, n3, n4, n5, n6, n7, n8, n9, n10⟩ := r3.cells
      obtain ⟨j1, j2, j3, j4, j5⟩ := five_cells n1 n2 n3 n4 n5 (.bool s5) (.int .u64 x5) (.pointer p5) (.int .u64 y5) (.pointer q5)
      have H3 := Lib.hid h3
      clear hb3 h3 m1 m2 m3 m4 m5 m6 g1 g2 g3 g4 g5 HE
      unfold st5 at j1 j2 j3 j4 j5
      go_wp2
      exact bodyPost_ret (v := .tuple #[.agg #[.bool s5, .int .u64 x5, .pointer p5, .int .u64 y5, .pointer q5], .int .i64 0]) (by simp [results, Tryz.results28, go_sem, j1, j2, j3, j4, j5]) rfl ⟨below5 k3 (by omega) _ _ _ _ _, _, rfl, H3.out.store r3.odd (grown5 _ _ _ _ _ _ _)⟩
    | true =>
      go_wp2_with fail
      refine (HRED.out _ _ _ zr2.out dg2.out).mono ?_
      rintro e w3 ⟨hb3, v3, rfl, h3⟩
      have r3 : Rq (w.heap.size + 1 + 1) w3 := HE.out.1.keep hb3 HE.out.1.lt
      have k3 := Below.thru HE.out.2 HE.out.2.size hb3
      obtain ⟨s5, x5, p5, y5, q5, rfl⟩ := h3.agg
      obtain ⟨_, _, _, _, _, n1, n2, n3, n4, n5, n6, n7, n8, n9, n10⟩ := r3.cells
      obtain ⟨j1, j2, j3, j4, j5⟩ := five_cells n1 n2 n3 n4 n5 (.bool s5) (.int .u64 x5) (.pointer p5) (.int .u64 y5) (.pointer q5)
      have H3 := Lib.hid h3
      clear hb3 h3 m1 m2 m3 m4 m5 m6 g1 g2 g3 g4 g5 HE
      unfold st5 at j1 j2 j3 j4 j5
      go_wp2
      exact bodyPost_ret (v := .tuple #[.agg #[.bool s5, .int .u64 x5, .pointer p5, .int .u64 y5, .pointer q5], .int .i64 0]) (by simp [results, Tryz.results28, go_sem, j1, j2, j3, j4, j5]) rfl ⟨below5 k3 (by omega) _ _ _ _ _, _, rfl, H3.out.store r3.odd (grown5 _ _ _ _ _ _ _)⟩
end Go.Proofs.YtjjomjjgoceklaaGreat
