import Derived.Test.YtjjomjjgoceklaaGreatSm
import Derived.Test.YtjjomjjgoceklaaGreatSb
import Derived.Test.YtjjomjjgoceklaaGreatSc
namespace Go.Proofs.YtjjomjjgoceklaaGreat
set_option maxRecDepth 100000
open Go.RowKit

/-! the law WholeSums -/
theorem cf15' : CF 15 := fun W args => by go_simp
theorem cf40 : CF 40 := fun W args => by go_simp
theorem cf41 : CF 41 := fun W args => by go_simp
theorem cf45 : CF 45 := fun W args => by go_simp
theorem cf47 : CF 47 := fun W args => by go_simp
theorem cf50 : CF 50 := fun W args => by go_simp
theorem cf51 : CF 51 := fun W args => by go_simp
theorem cf53 : CF 53 := fun W args => by go_simp
theorem rn_not4 {ρ : Operand → Value} {o : Oper} {w : World} {t : Operand} {b r : Bool} (ho : o.op = .unOp .not 4 t) (h1 : ρ t = .bool b) (hc : (!b) = r) : (execOp ρ o).run Tryz.prog w = .ok (.value (.bool r)) w := by
  subst hc; unfold execOp; rw [ho]; simp [go_sem, h1]
/-- both ratios, in both ways, in boxes -/
structure S4r (w0 : World) (a b : Rat) (T1 T2 T3 T4 : Nat) (w : World) : Prop where
  k : Below w0.heap.size w0 w
  qa : Hq T1 a.num a.den w
  ra : HA T2 a w
  qb : Hq T3 b.num b.den w
  rb : HA T4 b w
theorem S4r.keep {w0 w w' : World} {a b : Rat} {T1 T2 T3 T4 : Nat} (h : S4r w0 a b T1 T2 T3 T4 w) (hb : Below w.heap.size w w') : S4r w0 a b T1 T2 T3 T4 w' := ⟨Below.thru h.k h.k.size hb, h.qa.keep hb, h.ra.keep hb, h.qb.keep hb, h.rb.keep hb⟩
structure S5r (w0 : World) (a b d : Rat) (T1 T2 T3 T4 T5 : Nat) (w : World) : Prop where
  s : S4r w0 a b T1 T2 T3 T4 w
  d : Hq T5 d.num d.den w
theorem S5r.keep {w0 w w' : World} {a b d : Rat} {T1 T2 T3 T4 T5 : Nat} (h : S5r w0 a b d T1 T2 T3 T4 T5 w) (hb : Below w.heap.size w w') : S5r w0 a b d T1 T2 T3 T4 T5 w' := ⟨h.s.keep hb, h.d.keep hb⟩
/-- the quotient, or the error -/
theorem div_both (a b : Rat) (Ba : Bd9 1 a) (Bb : Bd9 1 b) : ∃ (d : Rat) (er : Int), ((b = 0 ∧ d = 0 ∧ er = 9) ∨ (b ≠ 0 ∧ d = a / b ∧ er = 0)) ∧ ∀ W v1 v2, Rr W v1 a.num a.den → Rr W v2 b.num b.den → Calls Tryz.prog 39 #[v1, v2] W (PRe d.num d.den er W) := by
  by_cases h : b = 0
  · refine ⟨0, 9, .inl ⟨h, rfl, rfl⟩, fun W v1 v2 h1 h2 => ?_⟩
    subst h
    exact rdiv_zero v1 v2 a.num a.den 1 W h1 h2
  · exact ⟨a / b, 0, .inr ⟨h, rfl, rfl⟩, fun W v1 v2 h1 h2 => rdivR h1 h2 Ba Bb (by decide) h⟩
def tabV7 (a b : Rat) (tt : Nat) : Kd := [(ki 0), (.v (.bool false)), (.v (.bool false)), .q (a / b).num (a / b).den, (kra a), (kra b), (kra (a / b)), (.v (.bool true)), (.v (.bool false)), (.v (.bool false))].getD (tt - 37) .any
def DV7 (t : Nat) : Bool := (Nat.ble 37 t && Nat.ble t 46)
def tabV9 (a b : Rat) (tt : Nat) : Kd := if tt = 4 then (.v (.bool true)) else [.q a.num a.den, .q b.num b.den, .q (a + b).num (a + b).den, (kra a), (kra b), (kra (a + b)), (.v (.bool true)), (.v (.bool true)), .q a.num a.den, .q b.num b.den, .q (a - b).num (a - b).den, (kra a), (kra b), (kra (a - b)), (.v (.bool true)), (.v (.bool true)), (.v (.bool true)), .q a.num a.den, .q b.num b.den, .q (a * b).num (a * b).den, (kra a), (kra b), (kra (a * b)), (.v (.bool true)), (.v (.bool true)), (.v (.bool true)), .q a.num a.den, .q (-a).num (-a).den, (kra a), (kra (-a)), (.v (.bool true)), (.v (.bool true)), (.v (.bool true)), .q a.num a.den, .q (absQ a).num (absQ a).den, (kra a), (kra (absQ a)), (.v (.bool true)), (.v (.bool true)), (.v (.bool true)), .q a.num a.den, (ki a.num.sign), (kra a), (ki a.num.sign), (.v (.bool true)), (.v (.bool true)), (.v (.bool true)), .q a.num a.den, .q b.num b.den, (ki (cmpQ a b)), (kra a), (kra b), (ki (cmpQ a b)), (.v (.bool true)), (.v (.bool true)), (.v (.bool true)), (.v (.bool true)), (.v (.bool true))].getD (tt - 47) .any
def DV9 (t : Nat) : Bool := Nat.beq t 4 || (Nat.ble 47 t && Nat.ble t 104)
set_option maxHeartbeats 6400000 in
theorem sums_any (N1 D1 N2 D2 : Int) (w : World) (hN1 : I64 N1) (hD1 : I64 D1) (hN2 : I64 N2) (hD2 : I64 D2) : Calls Tryz.prog 5 #[.agg #[.int .i64 N1, .int .i64 D1], .agg #[.int .i64 N2, .int .i64 D2]] w (PB true w) := by
  obtain ⟨a, Ba, ca⟩ := both_all N1 D1 hN1 hD1
  obtain ⟨b, Bb, cb⟩ := both_all N2 D2 hN2 hD2
  obtain ⟨d, er, hd, cd⟩ := div_both a b Ba Bb
  have CA := Lib.hid ca; have CB := Lib.hid cb; have CD := Lib.hid cd; have HD := Lib.hid hd
  have KX := Lib.hid (And.intro (bl2 w (.cells #[.int .i64 N1, .int .i64 D1] 65) (.cells #[.int .i64 N2, .int .i64 D2] 65)) (show Xn (w.heap.size + 1) N2 D2 ((w.alloc (.cells #[.int .i64 N1, .int .i64 D1] 65)).alloc (.cells #[.int .i64 N2, .int .i64 D2] 65)) from xn_new _ N2 D2 (by simp)))
  clear ca cb cd hd
  go_enter Tryz.func5, Tryz.ntmps5
  go_wp2_with fail
  refine (CA.out _).mono ?_
  rintro e w1 ⟨hb, u, v, rfl, hu, hv⟩
  obtain ⟨k0, X2⟩ := KX.out
  obtain ⟨s1, x1, p1, y1, q1, rfl⟩ := hu.agg
  obtain ⟨t1, f1, l1, c1, u1, hh1, m1, cc1, rfl⟩ := hv.agg
  have kk := bl2 w1 (.cells #[.bool s1, .int .u64 x1, .pointer p1, .int .u64 y1, .pointer q1] 33) (.cells #[.int .i64 t1, .slice f1 l1 c1, .int .i64 u1, .slice hh1 m1 cc1] 44)
  have k1 := Below.thru k0 k0.size hb
  have A1 := (Hq.new hu).keep (bl1 _ (.cells #[.int .i64 t1, .slice f1 l1 c1, .int .i64 u1, .slice hh1 m1 cc1] 44))
  have RA1 := HA.new (RA.of (hv.keep (bl1 w1 (.cells #[.bool s1, .int .u64 x1, .pointer p1, .int .u64 y1, .pointer q1] 33)) (Nat.le_refl _)))
  rw [World.size_alloc] at RA1
  have K1 := Lib.hid (And.intro (Below.thru k1 k1.size kk) (And.intro A1 RA1))
  obtain ⟨d1, d2⟩ := ((X2.keep hb).keep kk).cells
  clear hu hv hb k0 k1 kk X2 A1 RA1 KX
  go_wp2_with fail
  refine (CB.out _).mono ?_
  rintro e w2 ⟨hb, u, v, rfl, hu, hv⟩
  obtain ⟨k1, A1, RA1⟩ := K1.out
  obtain ⟨s2, x2, p2, y2, q2, rfl⟩ := hu.agg
  obtain ⟨t2, f2, l2, c2, u2, hh2, m2, cc2, rfl⟩ := hv.agg
  have kk := bl2 w2 (.cells #[.bool s2, .int .u64 x2, .pointer p2, .int .u64 y2, .pointer q2] 33) (.cells #[.int .i64 t2, .slice f2 l2 c2, .int .i64 u2, .slice hh2 m2 cc2] 44)
  have k2 := Below.thru k1 k1.size hb
  have RB2 := HA.new (RA.of (hv.keep (bl1 w2 (.cells #[.bool s2, .int .u64 x2, .pointer p2, .int .u64 y2, .pointer q2] 33)) (Nat.le_refl _)))
  rw [World.size_alloc] at RB2
  have S : S4r w a b w1.heap.size (w1.heap.size + 1) w2.heap.size (w2.heap.size + 1) _ := ⟨Below.thru k2 k2.size kk, (A1.keep hb).keep kk, (RA1.keep hb).keep kk, (Hq.new hu).keep (bl1 _ (.cells #[.int .i64 t2, .slice f2 l2 c2, .int .i64 u2, .slice hh2 m2 cc2] 44)), RB2⟩
  have S := Lib.hid S
  clear hu hv hb k1 k2 kk A1 RA1 RB2 K1 d1 d2
  obtain ⟨sa, xa, ya, pa, qa, ha1, ha2⟩ := S.out.qa
  obtain ⟨sb, xb, yb, pb, qb, hb1, hb2⟩ := S.out.qb
  have g1 := cell_blk (i := 0) ha1
  have g2 := cell_blk (i := 1) ha1
  have g3 := cell_blk (i := 2) ha1
  have g4 := cell_blk (i := 3) ha1
  have g5 := cell_blk (i := 4) ha1
  have g6 := cell_blk (i := 0) hb1
  have g7 := cell_blk (i := 1) hb1
  have g8 := cell_blk (i := 2) hb1
  have g9 := cell_blk (i := 3) hb1
  have g0 := cell_blk (i := 4) hb1
  have VA := Lib.hid ha2; have VB := Lib.hid hb2
  clear ha1 ha2 hb1 hb2
  go_wp2_with fail
  refine (CD.out _ _ _ VA.out VB.out).mono ?_
  rintro e w3 ⟨hb, v, rfl, hv⟩
  obtain ⟨s3, x3, p3, y3, q3, rfl⟩ := hv.agg
  have S5 := Lib.hid (show S5r w a b d w1.heap.size (w1.heap.size + 1) w2.heap.size (w2.heap.size + 1) w3.heap.size (w3.alloc (.cells #[.bool s3, .int .u64 x3, .pointer p3, .int .u64 y3, .pointer q3] 33)) from ⟨(S.out.keep hb).keep (bl1 _ _), Hq.new hv⟩)
  clear hb hv g1 g2 g3 g4 g5 g6 g7 g8 g9 g0 VA VB S
  obtain ⟨t4, f4, l4, c4, u4, hh4, m4, cc4, j1, j2, _⟩ := S5.out.s.rb
  have i0 := cell_blk (i := 0) j1
  have i1 := cell_blk (i := 1) j1
  have i2 := cell_blk (i := 2) j1
  have i3 := cell_blk (i := 3) j1
  have J2 := Lib.hid j2
  clear j1 j2
  go_wp2_with fail
  refine (rsignr_any _ b _ J2.out).mono ?_
  rintro e w4 ⟨hb, rfl⟩
  have S5 := Lib.hid (S5.out.keep hb)
  clear hb i0 i1 i2 i3 J2
  obtain ⟨bs, hbs⟩ : ∃ bs, (b.num.sign == 0) = bs := ⟨_, rfl⟩
  have HBS := Lib.hid hbs
  go_upto_if 29 with fail
  go_cut [] (fun wc => S4r w a b w1.heap.size (w1.heap.size + 1) w2.heap.size (w2.heap.size + 1) wc)
  case first =>
    clear hbs
    cases bs with
    | true =>
      have hb0 : b = 0 := by
        have h := HBS.out
        rw [beq_iff_eq] at h
        exact Rat.num_eq_zero.1 (Int.sign_eq_zero_iff_zero.1 h)
      have he : d = 0 ∧ er = 9 := by
        rcases HD.out with h | h
        · exact h.2
        · exact absurd hb0 h.1
      obtain ⟨hd0, rfl⟩ := he
      have HD0 : Hid (d.num.sign = 0) := by show _ = _; rw [hd0]; rfl
      clear hd0 hb0
      obtain ⟨s5, x5, p5, y5, q5, e1, e2⟩ := S5.out.d
      have g1 := cell_blk (i := 0) e1
      have g2 := cell_blk (i := 1) e1
      have g3 := cell_blk (i := 2) e1
      have g4 := cell_blk (i := 3) e1
      have g5 := cell_blk (i := 4) e1
      have VD := Lib.hid e2
      clear e1 e2
      go_wp2_with fail
      refine (rsign_any _ d.num d.den _ VD.out).mono ?_
      rintro e w5 ⟨hb, rfl⟩
      have S5 := Lib.hid (S5.out.keep hb)
      rw [HD0.out]
      clear hb g1 g2 g3 g4 g5 VD
      go_wp2
      go_meet
      case rel => exact S5.out.s
    | false =>
      have hb0 : b ≠ 0 := by
        intro h
        have h2 := HBS.out
        rw [h] at h2
        exact absurd h2 (by decide)
      have he : d = a / b ∧ er = 0 := by
        rcases HD.out with h | h
        · exact absurd h.1 hb0
        · exact h.2
      obtain ⟨rfl, rfl⟩ := he
      have HB0 := Lib.hid hb0
      clear hb0
      go_upto_region 7 with fail
      go_cut [46] (fun v wc => v = .bool false ∧ S4r w a b w1.heap.size (w1.heap.size + 1) w2.heap.size (w2.heap.size + 1) wc)
      case first =>
        rename_i J K' hJ hK
        refine wp_region_kd DV7 (tabV7 a b) (S5r w a b (a / b) w1.heap.size (w1.heap.size + 1) w2.heap.size (w2.heap.size + 1) w3.heap.size) (by kernel_rfl) (by kernel_rfl) (by kernel_rfl) (by kernel_rfl) (fun _ _ h hb => h.keep hb) (S5.out.keep (Below.refl _ _).drew) ?_ ?_
        ·
          refine .cons (fun f w' hI hs => ⟨wanted_none rfl, _, rfl, .val (rn_move rfl) ⟨Below.refl _ _, fr_old rfl rfl⟩⟩) ?_
          refine .cons (fun f w' hI hs => ⟨wanted_none rfl, _, rfl, .val (rn_neq29 rfl ((fr_own rfl rfl).trans (hs 37 (by kernel_rfl))) rfl rfl) ⟨Below.refl _ _, rfl⟩⟩) ?_
          refine .cons (fun f w' hI hs => ⟨wanted_none rfl, _, rfl, .val (rn_move rfl) ⟨Below.refl _ _, ((fr_own rfl rfl).trans (hs 38 (by kernel_rfl)))⟩⟩) ?_
          refine .cons (fun f w' hI hs => ?_) ?_
          · obtain ⟨s, x, y, p, q, h1, h2⟩ := hI.d
            exact ⟨wanted_some rfl (by kernel_rfl) rfl rfl (hs 39 (by kernel_rfl)), _, rfl, .val (rn_load61 rfl (fr_old rfl rfl) h1) ⟨Below.refl _ _, h2⟩⟩
          refine .cons (fun f w' hI hs => ?_) ?_
          · obtain ⟨s1, p1, l1, c1, s2, p2, l2, c2, e1, e2, e3⟩ := hI.s.ra
            exact ⟨wanted_some rfl (by kernel_rfl) rfl rfl (hs 39 (by kernel_rfl)), _, rfl, .val (rn_load44 rfl (fr_old rfl rfl) e1) ⟨Below.refl _ _, e2⟩⟩
          refine .cons (fun f w' hI hs => ?_) ?_
          · obtain ⟨s1, p1, l1, c1, s2, p2, l2, c2, e1, e2, e3⟩ := hI.s.rb
            exact ⟨wanted_some rfl (by kernel_rfl) rfl rfl (hs 39 (by kernel_rfl)), _, rfl, .val (rn_load44 rfl (fr_old rfl rfl) e1) ⟨Below.refl _ _, e2⟩⟩
          refine .cons (fun f w' hI hs => ⟨wanted_some rfl (by kernel_rfl) rfl rfl (hs 39 (by kernel_rfl)), _, rfl, .call2 rfl cf41 rfl rfl rfl rfl (PRA.kd (rdivr_any _ _ a b (a / b) _ _ _ (hs 41 (by kernel_rfl)) (hs 42 (by kernel_rfl)) Ba Bb (by decide) HB0.out rfl))⟩) ?_
          refine .cons (fun f w' hI hs => ⟨wanted_some rfl (by kernel_rfl) rfl rfl (hs 39 (by kernel_rfl)), _, rfl, .call2 rfl cf20 rfl rfl rfl rfl (PB.kd (same_any _ _ (a / b) _ _ (hs 40 (by kernel_rfl)) (hs 43 (by kernel_rfl)) (Bd9.div Ba Bb HB0.out) (by decide)))⟩) ?_
          refine .cons (fun f w' hI hs => ⟨wanted_some rfl (by kernel_rfl) rfl rfl (hs 39 (by kernel_rfl)), _, rfl, .val (rn_not4 rfl ((fr_own rfl rfl).trans (hs 44 (by kernel_rfl))) rfl) ⟨Below.refl _ _, rfl⟩⟩) ?_
          refine .cons (fun f w' hI hs => ⟨wanted_none rfl, _, rfl, .val (rn_pick_f rfl ((fr_own rfl rfl).trans (hs 39 (by kernel_rfl)))) ⟨Below.refl _ _, ((fr_own rfl rfl).trans (hs 45 (by kernel_rfl)))⟩⟩) ?_
          exact .nil
        · intro f w' hI hk
          have h46 : f 46 = .bool false := hk 46 (by kernel_rfl)
          refine hK _ _ (Met.intro (hJ _ _ ?_))
          (repeat apply Exists.intro)
          refine ⟨?_, rfl⟩
          exact ⟨h46, hI.s⟩
      case rest =>
        obtain ⟨rfl, S1⟩ := hcut
        have S2 := Lib.hid S1
        clear S1
        go_wp2
        go_meet
        case rel => exact S2.out
  case rest =>
    clear S5
    have S := Lib.hid hcut
    clear hcut
    go_upto_region 9 with fail
    go_cut [4] (fun v wc => v = .bool true ∧ S4r w a b w1.heap.size (w1.heap.size + 1) w2.heap.size (w2.heap.size + 1) wc)
    case first =>
      rename_i J K' hJ hK
      have T1 : (a.num.sign == a.num.sign) = true := by simp
      have T2 : (cmpQ a b == cmpQ a b) = true := by simp
      refine wp_region_kd DV9 (tabV9 a b) (S4r w a b w1.heap.size (w1.heap.size + 1) w2.heap.size (w2.heap.size + 1)) (by kernel_rfl) (by kernel_rfl) (by kernel_rfl) (by kernel_rfl) (fun _ _ h hb => h.keep hb) (S.out.keep (Below.refl _ _).drew) ?_ ?_
      ·
        refine .cons (fun f w' hI hs => ?_) ?_
        · obtain ⟨s, x, y, p, q, h1, h2⟩ := hI.qa
          exact ⟨wanted_none rfl, _, rfl, .val (rn_load61 rfl (fr_old rfl rfl) h1) ⟨Below.refl _ _, h2⟩⟩
        refine .cons (fun f w' hI hs => ?_) ?_
        · obtain ⟨s, x, y, p, q, h1, h2⟩ := hI.qb
          exact ⟨wanted_none rfl, _, rfl, .val (rn_load61 rfl (fr_old rfl rfl) h1) ⟨Below.refl _ _, h2⟩⟩
        refine .cons (fun f w' hI hs => ⟨wanted_none rfl, _, rfl, .call2 rfl cf42 rfl rfl rfl rfl (PRq.kd (raddR (a := a) (b := b) (hs 47 (by kernel_rfl)) (hs 48 (by kernel_rfl)) Ba Bb (by decide)))⟩) ?_
        refine .cons (fun f w' hI hs => ?_) ?_
        · obtain ⟨s1, p1, l1, c1, s2, p2, l2, c2, e1, e2, e3⟩ := hI.ra
          exact ⟨wanted_none rfl, _, rfl, .val (rn_load44 rfl (fr_old rfl rfl) e1) ⟨Below.refl _ _, e2⟩⟩
        refine .cons (fun f w' hI hs => ?_) ?_
        · obtain ⟨s1, p1, l1, c1, s2, p2, l2, c2, e1, e2, e3⟩ := hI.rb
          exact ⟨wanted_none rfl, _, rfl, .val (rn_load44 rfl (fr_old rfl rfl) e1) ⟨Below.refl _ _, e2⟩⟩
        refine .cons (fun f w' hI hs => ⟨wanted_none rfl, _, rfl, .call2 rfl cf43 rfl rfl rfl rfl (PRA.kd (raddr_any _ _ a b (a + b) _ _ _ (hs 50 (by kernel_rfl)) (hs 51 (by kernel_rfl)) Ba Bb (by decide) rfl))⟩) ?_
        refine .cons (fun f w' hI hs => ⟨wanted_none rfl, _, rfl, .call2 rfl cf20 rfl rfl rfl rfl (PB.kd (same_any _ _ (a + b) _ _ (hs 49 (by kernel_rfl)) (hs 52 (by kernel_rfl)) (Bd9.add Ba Bb) (by decide)))⟩) ?_
        refine .cons (fun f w' hI hs => ⟨wanted_none rfl, _, rfl, .val (rn_move rfl) ⟨Below.refl _ _, ((fr_own rfl rfl).trans (hs 53 (by kernel_rfl)))⟩⟩) ?_
        refine .cons (fun f w' hI hs => ?_) ?_
        · obtain ⟨s, x, y, p, q, h1, h2⟩ := hI.qa
          exact ⟨wanted_some rfl (by kernel_rfl) rfl rfl (hs 54 (by kernel_rfl)), _, rfl, .val (rn_load61 rfl (fr_old rfl rfl) h1) ⟨Below.refl _ _, h2⟩⟩
        refine .cons (fun f w' hI hs => ?_) ?_
        · obtain ⟨s, x, y, p, q, h1, h2⟩ := hI.qb
          exact ⟨wanted_some rfl (by kernel_rfl) rfl rfl (hs 54 (by kernel_rfl)), _, rfl, .val (rn_load61 rfl (fr_old rfl rfl) h1) ⟨Below.refl _ _, h2⟩⟩
        refine .cons (fun f w' hI hs => ⟨wanted_some rfl (by kernel_rfl) rfl rfl (hs 54 (by kernel_rfl)), _, rfl, .call2 rfl cf44 rfl rfl rfl rfl (PRq.kd (rsubR (a := a) (b := b) (hs 55 (by kernel_rfl)) (hs 56 (by kernel_rfl)) Ba Bb (by decide)))⟩) ?_
        refine .cons (fun f w' hI hs => ?_) ?_
        · obtain ⟨s1, p1, l1, c1, s2, p2, l2, c2, e1, e2, e3⟩ := hI.ra
          exact ⟨wanted_some rfl (by kernel_rfl) rfl rfl (hs 54 (by kernel_rfl)), _, rfl, .val (rn_load44 rfl (fr_old rfl rfl) e1) ⟨Below.refl _ _, e2⟩⟩
        refine .cons (fun f w' hI hs => ?_) ?_
        · obtain ⟨s1, p1, l1, c1, s2, p2, l2, c2, e1, e2, e3⟩ := hI.rb
          exact ⟨wanted_some rfl (by kernel_rfl) rfl rfl (hs 54 (by kernel_rfl)), _, rfl, .val (rn_load44 rfl (fr_old rfl rfl) e1) ⟨Below.refl _ _, e2⟩⟩
        refine .cons (fun f w' hI hs => ⟨wanted_some rfl (by kernel_rfl) rfl rfl (hs 54 (by kernel_rfl)), _, rfl, .call2 rfl cf45 rfl rfl rfl rfl (PRA.kd (rsubr_any _ _ a b (a - b) _ _ _ (hs 58 (by kernel_rfl)) (hs 59 (by kernel_rfl)) Ba Bb (by decide) rfl))⟩) ?_
        refine .cons (fun f w' hI hs => ⟨wanted_some rfl (by kernel_rfl) rfl rfl (hs 54 (by kernel_rfl)), _, rfl, .call2 rfl cf20 rfl rfl rfl rfl (PB.kd (same_any _ _ (a - b) _ _ (hs 57 (by kernel_rfl)) (hs 60 (by kernel_rfl)) (Bd9.sub Ba Bb) (by decide)))⟩) ?_
        refine .cons (fun f w' hI hs => ⟨wanted_none rfl, _, rfl, .val (rn_pick_t rfl ((fr_own rfl rfl).trans (hs 54 (by kernel_rfl)))) ⟨Below.refl _ _, ((fr_own rfl rfl).trans (hs 61 (by kernel_rfl)))⟩⟩) ?_
        refine .cons (fun f w' hI hs => ⟨wanted_none rfl, _, rfl, .val (rn_move rfl) ⟨Below.refl _ _, ((fr_own rfl rfl).trans (hs 62 (by kernel_rfl)))⟩⟩) ?_
        refine .cons (fun f w' hI hs => ?_) ?_
        · obtain ⟨s, x, y, p, q, h1, h2⟩ := hI.qa
          exact ⟨wanted_some rfl (by kernel_rfl) rfl rfl (hs 63 (by kernel_rfl)), _, rfl, .val (rn_load61 rfl (fr_old rfl rfl) h1) ⟨Below.refl _ _, h2⟩⟩
        refine .cons (fun f w' hI hs => ?_) ?_
        · obtain ⟨s, x, y, p, q, h1, h2⟩ := hI.qb
          exact ⟨wanted_some rfl (by kernel_rfl) rfl rfl (hs 63 (by kernel_rfl)), _, rfl, .val (rn_load61 rfl (fr_old rfl rfl) h1) ⟨Below.refl _ _, h2⟩⟩
        refine .cons (fun f w' hI hs => ⟨wanted_some rfl (by kernel_rfl) rfl rfl (hs 63 (by kernel_rfl)), _, rfl, .call2 rfl cf46 rfl rfl rfl rfl (PRq.kd (rmulR (a := a) (b := b) (hs 64 (by kernel_rfl)) (hs 65 (by kernel_rfl)) Ba Bb (by decide)))⟩) ?_
        refine .cons (fun f w' hI hs => ?_) ?_
        · obtain ⟨s1, p1, l1, c1, s2, p2, l2, c2, e1, e2, e3⟩ := hI.ra
          exact ⟨wanted_some rfl (by kernel_rfl) rfl rfl (hs 63 (by kernel_rfl)), _, rfl, .val (rn_load44 rfl (fr_old rfl rfl) e1) ⟨Below.refl _ _, e2⟩⟩
        refine .cons (fun f w' hI hs => ?_) ?_
        · obtain ⟨s1, p1, l1, c1, s2, p2, l2, c2, e1, e2, e3⟩ := hI.rb
          exact ⟨wanted_some rfl (by kernel_rfl) rfl rfl (hs 63 (by kernel_rfl)), _, rfl, .val (rn_load44 rfl (fr_old rfl rfl) e1) ⟨Below.refl _ _, e2⟩⟩
        refine .cons (fun f w' hI hs => ⟨wanted_some rfl (by kernel_rfl) rfl rfl (hs 63 (by kernel_rfl)), _, rfl, .call2 rfl cf47 rfl rfl rfl rfl (PRA.kd (rmulr_any _ _ a b (a * b) _ _ _ (hs 67 (by kernel_rfl)) (hs 68 (by kernel_rfl)) Ba Bb (by decide) rfl))⟩) ?_
        refine .cons (fun f w' hI hs => ⟨wanted_some rfl (by kernel_rfl) rfl rfl (hs 63 (by kernel_rfl)), _, rfl, .call2 rfl cf20 rfl rfl rfl rfl (PB.kd (same_any _ _ (a * b) _ _ (hs 66 (by kernel_rfl)) (hs 69 (by kernel_rfl)) (Bd9.mul Ba Bb) (by decide)))⟩) ?_
        refine .cons (fun f w' hI hs => ⟨wanted_none rfl, _, rfl, .val (rn_pick_t rfl ((fr_own rfl rfl).trans (hs 63 (by kernel_rfl)))) ⟨Below.refl _ _, ((fr_own rfl rfl).trans (hs 70 (by kernel_rfl)))⟩⟩) ?_
        refine .cons (fun f w' hI hs => ⟨wanted_none rfl, _, rfl, .val (rn_move rfl) ⟨Below.refl _ _, ((fr_own rfl rfl).trans (hs 71 (by kernel_rfl)))⟩⟩) ?_
        refine .cons (fun f w' hI hs => ?_) ?_
        · obtain ⟨s, x, y, p, q, h1, h2⟩ := hI.qa
          exact ⟨wanted_some rfl (by kernel_rfl) rfl rfl (hs 72 (by kernel_rfl)), _, rfl, .val (rn_load61 rfl (fr_old rfl rfl) h1) ⟨Below.refl _ _, h2⟩⟩
        refine .cons (fun f w' hI hs => ⟨wanted_some rfl (by kernel_rfl) rfl rfl (hs 72 (by kernel_rfl)), _, rfl, .call1 rfl cf48 rfl rfl (PRq.kd (rnegR (a := a) (hs 73 (by kernel_rfl))))⟩) ?_
        refine .cons (fun f w' hI hs => ?_) ?_
        · obtain ⟨s1, p1, l1, c1, s2, p2, l2, c2, e1, e2, e3⟩ := hI.ra
          exact ⟨wanted_some rfl (by kernel_rfl) rfl rfl (hs 72 (by kernel_rfl)), _, rfl, .val (rn_load44 rfl (fr_old rfl rfl) e1) ⟨Below.refl _ _, e2⟩⟩
        refine .cons (fun f w' hI hs => ⟨wanted_some rfl (by kernel_rfl) rfl rfl (hs 72 (by kernel_rfl)), _, rfl, .call1 rfl cf49 rfl rfl (PRA.kd (rnegr_any _ a _ _ (hs 75 (by kernel_rfl)) Ba))⟩) ?_
        refine .cons (fun f w' hI hs => ⟨wanted_some rfl (by kernel_rfl) rfl rfl (hs 72 (by kernel_rfl)), _, rfl, .call2 rfl cf20 rfl rfl rfl rfl (PB.kd (same_any _ _ (-a) _ _ (hs 74 (by kernel_rfl)) (hs 76 (by kernel_rfl)) (Bd9.neg Ba) (by decide)))⟩) ?_
        refine .cons (fun f w' hI hs => ⟨wanted_none rfl, _, rfl, .val (rn_pick_t rfl ((fr_own rfl rfl).trans (hs 72 (by kernel_rfl)))) ⟨Below.refl _ _, ((fr_own rfl rfl).trans (hs 77 (by kernel_rfl)))⟩⟩) ?_
        refine .cons (fun f w' hI hs => ⟨wanted_none rfl, _, rfl, .val (rn_move rfl) ⟨Below.refl _ _, ((fr_own rfl rfl).trans (hs 78 (by kernel_rfl)))⟩⟩) ?_
        refine .cons (fun f w' hI hs => ?_) ?_
        · obtain ⟨s, x, y, p, q, h1, h2⟩ := hI.qa
          exact ⟨wanted_some rfl (by kernel_rfl) rfl rfl (hs 79 (by kernel_rfl)), _, rfl, .val (rn_load61 rfl (fr_old rfl rfl) h1) ⟨Below.refl _ _, h2⟩⟩
        refine .cons (fun f w' hI hs => ⟨wanted_some rfl (by kernel_rfl) rfl rfl (hs 79 (by kernel_rfl)), _, rfl, .call1 rfl cf50 rfl rfl (PRq.kd (absR (a := a) (hs 80 (by kernel_rfl))))⟩) ?_
        refine .cons (fun f w' hI hs => ?_) ?_
        · obtain ⟨s1, p1, l1, c1, s2, p2, l2, c2, e1, e2, e3⟩ := hI.ra
          exact ⟨wanted_some rfl (by kernel_rfl) rfl rfl (hs 79 (by kernel_rfl)), _, rfl, .val (rn_load44 rfl (fr_old rfl rfl) e1) ⟨Below.refl _ _, e2⟩⟩
        refine .cons (fun f w' hI hs => ⟨wanted_some rfl (by kernel_rfl) rfl rfl (hs 79 (by kernel_rfl)), _, rfl, .call1 rfl cf51 rfl rfl (PRA.kd (rabsr_any _ a _ _ (hs 82 (by kernel_rfl)) Ba))⟩) ?_
        refine .cons (fun f w' hI hs => ⟨wanted_some rfl (by kernel_rfl) rfl rfl (hs 79 (by kernel_rfl)), _, rfl, .call2 rfl cf20 rfl rfl rfl rfl (PB.kd (same_any _ _ (absQ a) _ _ (hs 81 (by kernel_rfl)) (hs 83 (by kernel_rfl)) (Bd9.abs Ba) (by decide)))⟩) ?_
        refine .cons (fun f w' hI hs => ⟨wanted_none rfl, _, rfl, .val (rn_pick_t rfl ((fr_own rfl rfl).trans (hs 79 (by kernel_rfl)))) ⟨Below.refl _ _, ((fr_own rfl rfl).trans (hs 84 (by kernel_rfl)))⟩⟩) ?_
        refine .cons (fun f w' hI hs => ⟨wanted_none rfl, _, rfl, .val (rn_move rfl) ⟨Below.refl _ _, ((fr_own rfl rfl).trans (hs 85 (by kernel_rfl)))⟩⟩) ?_
        refine .cons (fun f w' hI hs => ?_) ?_
        · obtain ⟨s, x, y, p, q, h1, h2⟩ := hI.qa
          exact ⟨wanted_some rfl (by kernel_rfl) rfl rfl (hs 86 (by kernel_rfl)), _, rfl, .val (rn_load61 rfl (fr_old rfl rfl) h1) ⟨Below.refl _ _, h2⟩⟩
        refine .cons (fun f w' hI hs => ⟨wanted_some rfl (by kernel_rfl) rfl rfl (hs 86 (by kernel_rfl)), _, rfl, .call1 rfl cf15' rfl rfl (PSi.kdn (rsign_any _ a.num a.den _ (hs 87 (by kernel_rfl))))⟩) ?_
        refine .cons (fun f w' hI hs => ?_) ?_
        · obtain ⟨s1, p1, l1, c1, s2, p2, l2, c2, e1, e2, e3⟩ := hI.ra
          exact ⟨wanted_some rfl (by kernel_rfl) rfl rfl (hs 86 (by kernel_rfl)), _, rfl, .val (rn_load44 rfl (fr_old rfl rfl) e1) ⟨Below.refl _ _, e2⟩⟩
        refine .cons (fun f w' hI hs => ⟨wanted_some rfl (by kernel_rfl) rfl rfl (hs 86 (by kernel_rfl)), _, rfl, .call1 rfl cf40 rfl rfl (PSi.kdn (rsignr_any _ a _ (hs 89 (by kernel_rfl))))⟩) ?_
        refine .cons (fun f w' hI hs => ⟨wanted_some rfl (by kernel_rfl) rfl rfl (hs 86 (by kernel_rfl)), _, rfl, .val (rn_eqlI rfl ((fr_own rfl rfl).trans (hs 88 (by kernel_rfl))) ((fr_own rfl rfl).trans (hs 90 (by kernel_rfl))) T1) ⟨Below.refl _ _, rfl⟩⟩) ?_
        refine .cons (fun f w' hI hs => ⟨wanted_none rfl, _, rfl, .val (rn_pick_t rfl ((fr_own rfl rfl).trans (hs 86 (by kernel_rfl)))) ⟨Below.refl _ _, ((fr_own rfl rfl).trans (hs 91 (by kernel_rfl)))⟩⟩) ?_
        refine .cons (fun f w' hI hs => ⟨wanted_none rfl, _, rfl, .val (rn_move rfl) ⟨Below.refl _ _, ((fr_own rfl rfl).trans (hs 92 (by kernel_rfl)))⟩⟩) ?_
        refine .cons (fun f w' hI hs => ?_) ?_
        · obtain ⟨s, x, y, p, q, h1, h2⟩ := hI.qa
          exact ⟨wanted_some rfl (by kernel_rfl) rfl rfl (hs 93 (by kernel_rfl)), _, rfl, .val (rn_load61 rfl (fr_old rfl rfl) h1) ⟨Below.refl _ _, h2⟩⟩
        refine .cons (fun f w' hI hs => ?_) ?_
        · obtain ⟨s, x, y, p, q, h1, h2⟩ := hI.qb
          exact ⟨wanted_some rfl (by kernel_rfl) rfl rfl (hs 93 (by kernel_rfl)), _, rfl, .val (rn_load61 rfl (fr_old rfl rfl) h1) ⟨Below.refl _ _, h2⟩⟩
        refine .cons (fun f w' hI hs => ⟨wanted_some rfl (by kernel_rfl) rfl rfl (hs 93 (by kernel_rfl)), _, rfl, .call2 rfl cf52 rfl rfl rfl rfl (PCq.kd (rcmpR (a := a) (b := b) (hs 94 (by kernel_rfl)) (hs 95 (by kernel_rfl)) Ba Bb (by decide) (by decide)))⟩) ?_
        refine .cons (fun f w' hI hs => ?_) ?_
        · obtain ⟨s1, p1, l1, c1, s2, p2, l2, c2, e1, e2, e3⟩ := hI.ra
          exact ⟨wanted_some rfl (by kernel_rfl) rfl rfl (hs 93 (by kernel_rfl)), _, rfl, .val (rn_load44 rfl (fr_old rfl rfl) e1) ⟨Below.refl _ _, e2⟩⟩
        refine .cons (fun f w' hI hs => ?_) ?_
        · obtain ⟨s1, p1, l1, c1, s2, p2, l2, c2, e1, e2, e3⟩ := hI.rb
          exact ⟨wanted_some rfl (by kernel_rfl) rfl rfl (hs 93 (by kernel_rfl)), _, rfl, .val (rn_load44 rfl (fr_old rfl rfl) e1) ⟨Below.refl _ _, e2⟩⟩
        refine .cons (fun f w' hI hs => ⟨wanted_some rfl (by kernel_rfl) rfl rfl (hs 93 (by kernel_rfl)), _, rfl, .call2 rfl cf53 rfl rfl rfl rfl (PCq.kd (rcmpr_any _ _ a b _ _ _ (hs 97 (by kernel_rfl)) (hs 98 (by kernel_rfl)) Ba Bb (by decide)))⟩) ?_
        refine .cons (fun f w' hI hs => ⟨wanted_some rfl (by kernel_rfl) rfl rfl (hs 93 (by kernel_rfl)), _, rfl, .val (rn_eqlI rfl ((fr_own rfl rfl).trans (hs 96 (by kernel_rfl))) ((fr_own rfl rfl).trans (hs 99 (by kernel_rfl))) T2) ⟨Below.refl _ _, rfl⟩⟩) ?_
        refine .cons (fun f w' hI hs => ⟨wanted_none rfl, _, rfl, .val (rn_pick_t rfl ((fr_own rfl rfl).trans (hs 93 (by kernel_rfl)))) ⟨Below.refl _ _, ((fr_own rfl rfl).trans (hs 100 (by kernel_rfl)))⟩⟩) ?_
        refine .cons (fun f w' hI hs => ⟨wanted_none rfl, _, rfl, .val (rn_move rfl) ⟨Below.refl _ _, ((fr_own rfl rfl).trans (hs 101 (by kernel_rfl)))⟩⟩) ?_
        refine .cons (fun f w' hI hs => ⟨wanted_some rfl (by kernel_rfl) rfl rfl (hs 102 (by kernel_rfl)), _, rfl, .call0 rfl cf11 (PB.kd (awake_any _))⟩) ?_
        refine .cons (fun f w' hI hs => ⟨wanted_none rfl, _, rfl, .val (rn_pick_t rfl ((fr_own rfl rfl).trans (hs 102 (by kernel_rfl)))) ⟨Below.refl _ _, ((fr_own rfl rfl).trans (hs 103 (by kernel_rfl)))⟩⟩) ?_
        refine .cons (fun f w' hI hs => ⟨wanted_none rfl, _, rfl, .val (rn_assign rfl) ⟨Below.refl _ _, ((fr_own rfl rfl).trans (hs 104 (by kernel_rfl)))⟩⟩) ?_
        exact .nil
      · intro f w' hI hk
        have h4 : f 4 = .bool true := hk 4 (by kernel_rfl)
        refine hK _ _ (Met.intro (hJ _ _ ?_))
        (repeat apply Exists.intro)
        refine ⟨?_, rfl⟩
        exact ⟨h4, hI⟩
    case rest =>
      obtain ⟨rfl, S9⟩ := hcut
      have k9 := S9.k
      clear S9 S
      go_wp2
      go_ret
      exact ⟨k9, rfl⟩
end Go.Proofs.YtjjomjjgoceklaaGreat
