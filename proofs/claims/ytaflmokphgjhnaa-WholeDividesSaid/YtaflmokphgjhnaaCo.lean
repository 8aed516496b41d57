import Derived.Test.YtaflmokphgjhnaaCn
import Derived.Test.YtaflmokphgjhnaaBg
import Derived.Test.YtaflmokphgjhnaaR
namespace Go.Proofs.Ytaflmokphgjhnaa
open Go.RowKit

theorem cf28 : CF 28 := fun W args => by go_simp
section
variable {ρ : Operand → Value} {o : Oper} {w : World} {t c : Operand} {n m : Int} {r : Bool}
theorem rn_eql3 (ho : o.op = .binOp .eql 3 t c 3) (h1 : ρ t = .int .i64 n) (h2 : ρ c = .int .i64 m) (hc : (n == m) = r) : (execOp ρ o).run Try.prog w = .ok (.value (.bool r)) w := by
  subst hc; unfold execOp; rw [ho]; simp [go_sem, h1, h2]
theorem rn_neq3 (ho : o.op = .binOp .neq 3 t c 3) (h1 : ρ t = .int .i64 n) (h2 : ρ c = .int .i64 m) (hc : (n != m) = r) : (execOp ρ o).run Try.prog w = .ok (.value (.bool r)) w := by
  subst hc; unfold execOp; rw [ho]; simp [go_sem, h1, h2, bne]
theorem rn_geq3 (ho : o.op = .binOp .geq 3 t c 3) (h1 : ρ t = .int .i64 n) (h2 : ρ c = .int .i64 m) (hc : decide (m ≤ n) = r) : (execOp ρ o).run Try.prog w = .ok (.value (.bool r)) w := by
  subst hc; unfold execOp; rw [ho]; simp [go_sem, h1, h2]
theorem rn_eql51 (ho : o.op = .binOp .eql 51 t (.const (.int .i64 0)) 51) (h1 : ρ t = .int .i64 0) (h2 : ρ (.const (.int .i64 0)) = .int .i64 0 := by rfl) : (execOp ρ o).run Try.prog w = .ok (.value (.bool true)) w := by
  unfold execOp; rw [ho]; simp [go_sem, h1, h2]
theorem rn_neq51 (ho : o.op = .binOp .neq 51 t (.const (.int .i64 0)) 51) (h1 : ρ t = .int .i64 0) (h2 : ρ (.const (.int .i64 0)) = .int .i64 0 := by rfl) : (execOp ρ o).run Try.prog w = .ok (.value (.bool false)) w := by
  unfold execOp; rw [ho]; simp [go_sem, h1, h2]
end
structure S7 (w0 : World) (y z t g : Int) (Ta Tb Tc Tg : Nat) (w : World) : Prop where
  k : Below w0.heap.size w0 w
  a : Hz Ta y w
  b : Hz Tb z w
  c : Hz Tc t w
  g : Hz Tg g w
theorem S7.keep {w0 : World} {y z t g : Int} {Ta Tb Tc Tg : Nat} {w w' : World} (h : S7 w0 y z t g Ta Tb Tc Tg w) (hb : Below w.heap.size w w') : S7 w0 y z t g Ta Tb Tc Tg w' :=
  ⟨Below.thru h.k h.k.size hb, h.a.keep hb, h.b.keep hb, h.c.keep hb, h.g.keep hb⟩
structure S7q (w0 : World) (y z q m : Int) (Ta Tb Tq Tm : Nat) (w : World) : Prop where
  k : Below w0.heap.size w0 w
  a : Hz Ta y w
  b : Hz Tb z w
  q : Hz Tq q w
  m : Hz Tm m w
theorem S7q.keep {w0 : World} {y z q m : Int} {Ta Tb Tq Tm : Nat} {w w' : World} (h : S7q w0 y z q m Ta Tb Tq Tm w) (hb : Below w.heap.size w w') : S7q w0 y z q m Ta Tb Tq Tm w' :=
  ⟨Below.thru h.k h.k.size hb, h.a.keep hb, h.b.keep hb, h.q.keep hb, h.m.keep hb⟩
def tabD5 (y z t g : Int) (d : Nat) : Kd := [.z g, (ki g.sign), (.v (.bool false)), (.v (.bool false)), .z y, .z z, .z t, .z (z * t), .z (y + (z * t)), .z z, .z (Int.gcd (y + (z * t)) z : Int), .z g, (ki (sgnZ (Int.gcd (y + (z * t)) z : Int) g)), (.v (.bool false)), (.v (.bool false)), (.v (.bool false)), .z z, .z y, .z (Int.gcd z y : Int), .z g, (ki (sgnZ (Int.gcd z y : Int) g)), (.v (.bool false)), (.v (.bool false))].getD (d - 41) .any
def DD5 (t : Nat) : Bool := Nat.ble 41 t && Nat.ble t 63
def tabD16 (y z : Int) (d : Nat) : Kd := if d = 6 then .v (.bool true) else [(ki 0), (.v (.bool true)), (.v (.bool true)), .z (y / z), .z z, .z ((y / z) * z), .z (y % z), .z (((y / z) * z) + (y % z)), .z y, (ki (sgnZ (((y / z) * z) + (y % z)) y)), (.v (.bool true)), (.v (.bool true)), (.v (.bool true)), .z (y % z), (ki (y % z).sign), (.v (.bool true)), (.v (.bool true)), (.v (.bool true)), .z (y % z), .z z, .z (z.natAbs : Int), (ki (sgnZ (y % z) (z.natAbs : Int))), (.v (.bool true)), (.v (.bool true)), (.v (.bool true)), (.v (.bool true)), (.v (.bool true))].getD (d - 119) .any
def DD16 (t : Nat) : Bool := Nat.beq t 6 || (Nat.ble 119 t && Nat.ble t 145)
/-- plain: the facts that the law asks for -/
theorem gcd_step (y z t : Int) : Int.gcd (y + z * t) z = Int.gcd y z := by
  rw [Int.gcd_comm, Int.gcd_comm y z]
  exact Int.gcd_add_mul_left_right z y t
theorem Wk.gcd {k : Nat} {y z : Int} (hy : Wk k y) (hz : Wk k z) : Wk k (Int.gcd y z : Int) := by
  unfold Wk at *
  rw [Int.natAbs_natCast]
  by_cases h : y = 0
  · subst h; rw [Int.gcd_zero_left]; exact hz
  · exact Nat.lt_of_le_of_lt (Nat.gcd_le_left _ (by omega)) hy
theorem Wk.div {k : Nat} {y z : Int} (hy : Wk k y) : Wk k (y / z) := Nat.lt_of_le_of_lt (Int.natAbs_ediv_le_natAbs y z) hy
theorem Wk.mod {k : Nat} {y z : Int} (hz : Wk k z) (h0 : z ≠ 0) : Wk k (y % z) := by
  unfold Wk at *
  have h1 := Int.emod_nonneg y h0
  have h2 := Int.emod_lt y h0
  omega
theorem sgn_nn {g : Int} (h : 0 ≤ g) : 0 ≤ g.sign := by
  rcases Int.lt_trichotomy g 0 with h1 | h1 | h1
  · omega
  · subst h1; decide
  · rw [Int.sign_eq_one_of_pos h1]; decide
theorem sgnZ_ne {a b : Int} (h : a < b) : sgnZ a b = -1 := by unfold sgnZ; rw [if_pos h]
set_option maxRecDepth 100000 in
set_option maxHeartbeats 3200000 in
theorem divides_any (A1 B1 C1 P1 A2 B2 C2 P2 A3 B3 C3 P3 : Int) (w : World) (hA1 : I64 A1) (hB1 : I64 B1) (hC1 : I64 C1) (hP1 : 0 ≤ P1 ∧ P1 ≤ 255) (hA2 : I64 A2) (hB2 : I64 B2) (hC2 : I64 C2) (hP2 : 0 ≤ P2 ∧ P2 ≤ 255) (hA3 : I64 A3) (hB3 : I64 B3) (hC3 : I64 C3) (hP3 : 0 ≤ P3 ∧ P3 ≤ 255) :
    Calls Try.prog 7 #[.agg #[.int .i64 A1, .int .i64 B1, .int .i64 C1, .int .u8 P1], .agg #[.int .i64 A2, .int .i64 B2, .int .i64 C2, .int .u8 P2], .agg #[.int .i64 A3, .int .i64 B3, .int .i64 C3, .int .u8 P3]] w (PB true w) := by
  obtain ⟨y, Wy, cy⟩ := bothz_all A1 B1 C1 P1 hA1 hB1 hC1 hP1
  obtain ⟨z, Wz, cz⟩ := bothz_all A2 B2 C2 P2 hA2 hB2 hC2 hP2
  obtain ⟨t, Wt, ct⟩ := bothz_all A3 B3 C3 P3 hA3 hB3 hC3 hP3
  have CY := Lib.hid cy; have CZ := Lib.hid cz; have CT := Lib.hid ct
  clear cy cz ct
  go_enter Try.func7, Try.ntmps7
  go_wp2_with fail
  have X2 : Xb (w.heap.size + 1) A2 B2 C2 P2 (((w.alloc (.cells #[.int .i64 A1, .int .i64 B1, .int .i64 C1, .int .u8 P1] 23)).alloc (.cells #[.int .i64 A2, .int .i64 B2, .int .i64 C2, .int .u8 P2] 23)).alloc (.cells #[.int .i64 A3, .int .i64 B3, .int .i64 C3, .int .u8 P3] 23)) := blk_al (xb_new _ A2 B2 C2 P2 (by simp)) _
  have X3 : Xb (w.heap.size + 1 + 1) A3 B3 C3 P3 (((w.alloc (.cells #[.int .i64 A1, .int .i64 B1, .int .i64 C1, .int .u8 P1] 23)).alloc (.cells #[.int .i64 A2, .int .i64 B2, .int .i64 C2, .int .u8 P2] 23)).alloc (.cells #[.int .i64 A3, .int .i64 B3, .int .i64 C3, .int .u8 P3] 23)) := xb_new _ A3 B3 C3 P3 (by simp)
  have k0 := bl3 w (.cells #[.int .i64 A1, .int .i64 B1, .int .i64 C1, .int .u8 P1] 23) (.cells #[.int .i64 A2, .int .i64 B2, .int .i64 C2, .int .u8 P2] 23) (.cells #[.int .i64 A3, .int .i64 B3, .int .i64 C3, .int .u8 P3] 23)
  refine (CY.out _).mono ?_
  rintro e w1 ⟨hb1, u1, v1, rfl, hu1, hv1⟩
  have X2 := X2.keep hb1
  have X3 := X3.keep hb1
  have k1 := Below.thru k0 k0.size hb1
  clear hb1 k0
  obtain ⟨s1, x1, p1, _, rfl, -⟩ := id hu1
  obtain ⟨q1, l1, c1, rfl⟩ := hv1.agg
  have H1 := (Hz.new hu1).keep (bl1 _ (.cells #[.int .i64 y.sign, .slice q1 l1 c1] 32))
  have k1 := Below.thru k1 k1.size (bl2 w1 (.cells #[.bool s1, .int .u64 x1, .pointer p1] 29) (.cells #[.int .i64 y.sign, .slice q1 l1 c1] 32))
  have X2 := X2.keep (bl2 w1 (.cells #[.bool s1, .int .u64 x1, .pointer p1] 29) (.cells #[.int .i64 y.sign, .slice q1 l1 c1] 32))
  have X3 := X3.keep (bl2 w1 (.cells #[.bool s1, .int .u64 x1, .pointer p1] 29) (.cells #[.int .i64 y.sign, .slice q1 l1 c1] 32))
  obtain ⟨d1, d2, d3, d4⟩ := X2.cells
  have H1 := Lib.hid H1
  clear hu1 hv1
  go_wp2_with fail
  refine (CZ.out _).mono ?_
  rintro e w2 ⟨hb2, u2, v2, rfl, hu2, hv2⟩
  have X3 := X3.keep hb2
  have k2 := Below.thru k1 k1.size hb2
  have H1 := H1.out.keep hb2
  clear hb2 k1 d1 d2 d3 d4 X2
  obtain ⟨s2, x2, p2, _, rfl, -⟩ := id hu2
  obtain ⟨q2, l2, c2, rfl⟩ := hv2.agg
  have H2 := (Hz.new hu2).keep (bl1 _ (.cells #[.int .i64 z.sign, .slice q2 l2 c2] 32))
  have k2 := Below.thru k2 k2.size (bl2 w2 (.cells #[.bool s2, .int .u64 x2, .pointer p2] 29) (.cells #[.int .i64 z.sign, .slice q2 l2 c2] 32))
  have X3 := X3.keep (bl2 w2 (.cells #[.bool s2, .int .u64 x2, .pointer p2] 29) (.cells #[.int .i64 z.sign, .slice q2 l2 c2] 32))
  have H1 := H1.keep (bl2 w2 (.cells #[.bool s2, .int .u64 x2, .pointer p2] 29) (.cells #[.int .i64 z.sign, .slice q2 l2 c2] 32))
  obtain ⟨d1, d2, d3, d4⟩ := X3.cells
  have H1 := Lib.hid H1
  have H2 := Lib.hid H2
  clear hu2 hv2
  go_wp2_with fail
  refine (CT.out _).mono ?_
  rintro e w3 ⟨hb3, u3, v3, rfl, hu3, hv3⟩
  have k3 := Below.thru k2 k2.size hb3
  have H1 := H1.out.keep hb3
  have H2 := H2.out.keep hb3
  clear hb3 k2 d1 d2 d3 d4 X3
  obtain ⟨s3, x3, p3, _, rfl, -⟩ := id hu3
  obtain ⟨q3, l3, c3, rfl⟩ := hv3.agg
  have H3 := (Hz.new hu3).keep (bl1 _ (.cells #[.int .i64 t.sign, .slice q3 l3 c3] 32))
  have S : R3 w y z t w1.heap.size w2.heap.size w3.heap.size ((w3.alloc (.cells #[.bool s3, .int .u64 x3, .pointer p3] 29)).alloc (.cells #[.int .i64 t.sign, .slice q3 l3 c3] 32)) :=
    ⟨Below.thru k3 k3.size (bl2 _ _ _), H1.keep (bl2 _ _ _), H2.keep (bl2 _ _ _), H3⟩
  have S := Lib.hid S
  clear H1 H2 H3 hu3 hv3 k3
  obtain ⟨sa, xa, pa, ha, va⟩ := S.out.a
  obtain ⟨sb, xb, pb, hb, vb⟩ := S.out.b
  obtain ⟨a1, a2, a3⟩ := b3_blk ha
  obtain ⟨b1, b2, b3⟩ := b3_blk hb
  have VA := Lib.hid va; have VB := Lib.hid vb
  clear ha hb va vb
  go_wp2_with fail
  refine (gcd_any _ _ y z _ VA.out VB.out (common_all _ _ (Wk.sz Wy (by decide)) (Wk.sz Wz (by decide)))).mono ?_
  rintro e w4 ⟨hb4, u4, rfl, hu4⟩
  have S4 := S.out.keep hb4
  clear hb4 S a1 a2 a3 b1 b2 b3 VA VB
  obtain ⟨g, hg⟩ : ∃ g : Int, g = (Int.gcd y z : Int) := ⟨_, rfl⟩
  rw [← hg] at hu4
  have Wg : Wk 12 g := by rw [hg]; exact Wy.gcd Wz
  have g0 : 0 ≤ g := by rw [hg]; omega
  have HG := Lib.hid hg
  obtain ⟨sg, xg, pg, _, rfl, -⟩ := id hu4
  have Hg := Hz.new hu4
  have S5 : S7 w y z t g w1.heap.size w2.heap.size w3.heap.size w4.heap.size (w4.alloc (.cells #[.bool sg, .int .u64 xg, .pointer pg] 29)) :=
    ⟨Below.thru S4.k S4.k.size (bl1 _ _), S4.a.keep (bl1 _ _), S4.b.keep (bl1 _ _), S4.c.keep (bl1 _ _), Hg⟩
  have S5 := Lib.hid S5
  clear hu4 S4 Hg hg
  go_wp2_with fail
  go_cut [63] (fun v wc => v = .bool false ∧ S7 w y z t g w1.heap.size w2.heap.size w3.heap.size w4.heap.size wc)
  case first =>
    rename_i J K' hJ hK
    have T43 : decide (g.sign < 0) = false := by rw [decide_eq_false_iff_not]; have := sgn_nn g0; omega
    have T54 : (sgnZ (Int.gcd (y + (z * t)) z : Int) g != 0) = false := by rw [HG.out, gcd_step, sgnZ_self]; rfl
    have T62 : (sgnZ (Int.gcd z y : Int) g != 0) = false := by rw [HG.out, Int.gcd_comm z y, sgnZ_self]; rfl
    refine wp_region_kd DD5 (tabD5 y z t g) (S7 w y z t g w1.heap.size w2.heap.size w3.heap.size w4.heap.size) (by kernel_rfl) (by kernel_rfl) (by kernel_rfl) (by kernel_rfl) (fun _ _ h hb => h.keep hb) (S5.out.keep (Below.refl _ _).drew) ?_ ?_
    ·
      refine .cons (fun f w' hI hs => ?_) ?_
      · obtain ⟨s, x, p, h1, h2⟩ := hI.g
        exact ⟨wanted_none rfl, _, rfl, .val (rn_load29 rfl (fr_old rfl rfl) (b3_blk h1)) ⟨Below.refl _ _, h2⟩⟩
      refine .cons (fun f w' hI hs => ⟨wanted_none rfl, _, rfl, .call1 rfl cf24 rfl rfl (PSi.kdn (sign_any _ g _ (hs 41 (by kernel_rfl))))⟩) ?_
      refine .cons (fun f w' hI hs => ⟨wanted_none rfl, _, rfl, .val (rn_lss3 rfl ((fr_own rfl rfl).trans (hs 42 (by kernel_rfl))) rfl T43) ⟨Below.refl _ _, rfl⟩⟩) ?_
      refine .cons (fun f w' hI hs => ⟨wanted_none rfl, _, rfl, .val (rn_move rfl) ⟨Below.refl _ _, (fr_own rfl rfl).trans (hs 43 (by kernel_rfl))⟩⟩) ?_
      refine .cons (fun f w' hI hs => ?_) ?_
      · obtain ⟨s, x, p, h1, h2⟩ := hI.a
        exact ⟨wanted_some rfl (by kernel_rfl) rfl rfl (hs 44 (by kernel_rfl)), _, rfl, .val (rn_load29 rfl (fr_old rfl rfl) (b3_blk h1)) ⟨Below.refl _ _, h2⟩⟩
      refine .cons (fun f w' hI hs => ?_) ?_
      · obtain ⟨s, x, p, h1, h2⟩ := hI.b
        exact ⟨wanted_some rfl (by kernel_rfl) rfl rfl (hs 44 (by kernel_rfl)), _, rfl, .val (rn_load29 rfl (fr_old rfl rfl) (b3_blk h1)) ⟨Below.refl _ _, h2⟩⟩
      refine .cons (fun f w' hI hs => ?_) ?_
      · obtain ⟨s, x, p, h1, h2⟩ := hI.c
        exact ⟨wanted_some rfl (by kernel_rfl) rfl rfl (hs 44 (by kernel_rfl)), _, rfl, .val (rn_load29 rfl (fr_old rfl rfl) (b3_blk h1)) ⟨Below.refl _ _, h2⟩⟩
      refine .cons (fun f w' hI hs => ⟨wanted_some rfl (by kernel_rfl) rfl rfl (hs 44 (by kernel_rfl)), _, rfl, .call2 rfl cf18 rfl rfl rfl rfl (PZ.kd (zmul_any _ _ z t _ (hs 46 (by kernel_rfl)) (hs 47 (by kernel_rfl)) (Wk.sz Wz (by decide)) (Wk.sz Wt (by decide))))⟩) ?_
      refine .cons (fun f w' hI hs => ⟨wanted_some rfl (by kernel_rfl) rfl rfl (hs 44 (by kernel_rfl)), _, rfl, .call2 rfl cf14 rfl rfl rfl rfl (PZ.kd (zadd_any _ _ y (z * t) _ (hs 45 (by kernel_rfl)) (hs 48 (by kernel_rfl)) (Wk.sz Wy (by decide)) (Wk.sz (Wk.mul Wz Wt) (by decide))))⟩) ?_
      refine .cons (fun f w' hI hs => ?_) ?_
      · obtain ⟨s, x, p, h1, h2⟩ := hI.b
        exact ⟨wanted_some rfl (by kernel_rfl) rfl rfl (hs 44 (by kernel_rfl)), _, rfl, .val (rn_load29 rfl (fr_old rfl rfl) (b3_blk h1)) ⟨Below.refl _ _, h2⟩⟩
      refine .cons (fun f w' hI hs => ⟨wanted_some rfl (by kernel_rfl) rfl rfl (hs 44 (by kernel_rfl)), _, rfl, .call2 rfl cf28 rfl rfl rfl rfl (PZ.kd (gcd_any _ _ (y + (z * t)) z _ (hs 49 (by kernel_rfl)) (hs 50 (by kernel_rfl)) (common_all _ _ (Wk.sz (Wk.add (k := 24) (Wk.mono Wy (by decide)) (Wk.mono (Wk.mul Wz Wt) (by decide))) (by decide)) (Wk.sz Wz (by decide)))))⟩) ?_
      refine .cons (fun f w' hI hs => ?_) ?_
      · obtain ⟨s, x, p, h1, h2⟩ := hI.g
        exact ⟨wanted_some rfl (by kernel_rfl) rfl rfl (hs 44 (by kernel_rfl)), _, rfl, .val (rn_load29 rfl (fr_old rfl rfl) (b3_blk h1)) ⟨Below.refl _ _, h2⟩⟩
      refine .cons (fun f w' hI hs => ⟨wanted_some rfl (by kernel_rfl) rfl rfl (hs 44 (by kernel_rfl)), _, rfl, .call2 rfl cf25 rfl rfl rfl rfl (PSg.kdn (zcmp_any _ _ (Int.gcd (y + (z * t)) z : Int) g _ (hs 51 (by kernel_rfl)) (hs 52 (by kernel_rfl))))⟩) ?_
      refine .cons (fun f w' hI hs => ⟨wanted_some rfl (by kernel_rfl) rfl rfl (hs 44 (by kernel_rfl)), _, rfl, .val (rn_neq3 rfl ((fr_own rfl rfl).trans (hs 53 (by kernel_rfl))) rfl T54) ⟨Below.refl _ _, rfl⟩⟩) ?_
      refine .cons (fun f w' hI hs => ⟨wanted_none rfl, _, rfl, .val (rn_pick_f rfl ((fr_own rfl rfl).trans (hs 44 (by kernel_rfl)))) ⟨Below.refl _ _, (fr_own rfl rfl).trans (hs 54 (by kernel_rfl))⟩⟩) ?_
      refine .cons (fun f w' hI hs => ⟨wanted_none rfl, _, rfl, .val (rn_move rfl) ⟨Below.refl _ _, (fr_own rfl rfl).trans (hs 55 (by kernel_rfl))⟩⟩) ?_
      refine .cons (fun f w' hI hs => ?_) ?_
      · obtain ⟨s, x, p, h1, h2⟩ := hI.b
        exact ⟨wanted_some rfl (by kernel_rfl) rfl rfl (hs 56 (by kernel_rfl)), _, rfl, .val (rn_load29 rfl (fr_old rfl rfl) (b3_blk h1)) ⟨Below.refl _ _, h2⟩⟩
      refine .cons (fun f w' hI hs => ?_) ?_
      · obtain ⟨s, x, p, h1, h2⟩ := hI.a
        exact ⟨wanted_some rfl (by kernel_rfl) rfl rfl (hs 56 (by kernel_rfl)), _, rfl, .val (rn_load29 rfl (fr_old rfl rfl) (b3_blk h1)) ⟨Below.refl _ _, h2⟩⟩
      refine .cons (fun f w' hI hs => ⟨wanted_some rfl (by kernel_rfl) rfl rfl (hs 56 (by kernel_rfl)), _, rfl, .call2 rfl cf28 rfl rfl rfl rfl (PZ.kd (gcd_any _ _ z y _ (hs 57 (by kernel_rfl)) (hs 58 (by kernel_rfl)) (common_all _ _ (Wk.sz Wz (by decide)) (Wk.sz Wy (by decide)))))⟩) ?_
      refine .cons (fun f w' hI hs => ?_) ?_
      · obtain ⟨s, x, p, h1, h2⟩ := hI.g
        exact ⟨wanted_some rfl (by kernel_rfl) rfl rfl (hs 56 (by kernel_rfl)), _, rfl, .val (rn_load29 rfl (fr_old rfl rfl) (b3_blk h1)) ⟨Below.refl _ _, h2⟩⟩
      refine .cons (fun f w' hI hs => ⟨wanted_some rfl (by kernel_rfl) rfl rfl (hs 56 (by kernel_rfl)), _, rfl, .call2 rfl cf25 rfl rfl rfl rfl (PSg.kdn (zcmp_any _ _ (Int.gcd z y : Int) g _ (hs 59 (by kernel_rfl)) (hs 60 (by kernel_rfl))))⟩) ?_
      refine .cons (fun f w' hI hs => ⟨wanted_some rfl (by kernel_rfl) rfl rfl (hs 56 (by kernel_rfl)), _, rfl, .val (rn_neq3 rfl ((fr_own rfl rfl).trans (hs 61 (by kernel_rfl))) rfl T62) ⟨Below.refl _ _, rfl⟩⟩) ?_
      refine .cons (fun f w' hI hs => ⟨wanted_none rfl, _, rfl, .val (rn_pick_f rfl ((fr_own rfl rfl).trans (hs 56 (by kernel_rfl)))) ⟨Below.refl _ _, (fr_own rfl rfl).trans (hs 62 (by kernel_rfl))⟩⟩) ?_
      exact .nil
    · intro f w' hI hk
      have h63 : f 63 = .bool false := hk 63 (by kernel_rfl)
      refine hK _ _ (Met.intro (hJ _ _ ?_))
      (repeat apply Exists.intro)
      refine ⟨?_, rfl⟩
      exact ⟨h63, hI⟩
  case rest =>
    obtain ⟨rfl, S6⟩ := hcut
    clear S5
    have S6 := Lib.hid S6
    obtain ⟨sg, xg, pg, hg, vg⟩ := S6.out.g
    obtain ⟨c1, c2, c3⟩ := b3_blk hg
    have VG := Lib.hid vg
    clear hg vg
    go_wp2_with fail
    refine (sign_any _ g _ VG.out).mono ?_
    rintro e w5 ⟨hb5, rfl⟩
    have S7 := Lib.hid (S6.out.keep hb5)
    clear S6 hb5 VG c1 c2 c3
    by_cases hg0 : g = 0
    · have hgs : (g.sign == 0) = true := by rw [hg0]; rfl
      have hyz : y = 0 ∧ z = 0 := by have := HG.out; rw [hg0] at this; exact Int.gcd_eq_zero_iff.1 (by omega)
      have hy1 : (y.sign == 0) = true := by rw [hyz.1]; rfl
      have hz1 : (z.sign == 0) = true := by rw [hyz.2]; rfl
      clear hg0 hyz g0
      obtain ⟨s1, x1, p1, h1, v1⟩ := S7.out.a
      obtain ⟨c11, c12, c13⟩ := b3_blk h1
      have V1 := Lib.hid v1
      clear h1 v1
      go_wp2_with fail
      refine (sign_any _ y _ V1.out).mono ?_
      rintro e w6 ⟨hb6, rfl⟩
      have S8 := Lib.hid (S7.out.keep hb6)
      clear S7 hb6 c11 c12 c13 V1
      obtain ⟨s2, x2, p2, h2, v2⟩ := S8.out.b
      obtain ⟨c21, c22, c23⟩ := b3_blk h2
      have V2 := Lib.hid v2
      clear h2 v2
      go_wp2_with fail
      refine (sign_any _ z _ V2.out).mono ?_
      rintro e w7 ⟨hb7, rfl⟩
      have S9 := Lib.hid (S8.out.keep hb7)
      clear S8 hb7 c21 c22 c23 V2
      go_wp2_with fail
      refine (awake_any _).mono ?_
      rintro e w8 ⟨hb8, rfl⟩
      have K := Lib.hid (Below.thru S9.out.k S9.out.k.size hb8)
      clear hb8
      go_wp2
      go_ret
      exact ⟨K.out, rfl⟩
    · have hgs : (g.sign == 0) = false := by rw [beq_eq_false_iff_ne]; exact fun h => hg0 (Int.sign_eq_zero_iff_zero.1 h)
      have HG0 := Lib.hid hg0
      have m1 : y % g = 0 := by rw [HG.out]; exact Int.emod_eq_zero_of_dvd (Int.gcd_dvd_left ..)
      have m2 : z % g = 0 := by rw [HG.out]; exact Int.emod_eq_zero_of_dvd (Int.gcd_dvd_right ..)
      have M1 := Lib.hid m1; have M2 := Lib.hid m2
      clear hg0 g0 m1 m2
      obtain ⟨s1, x1, p1, h1, v1⟩ := S7.out.a
      obtain ⟨c11, c12, c13⟩ := b3_blk h1
      have V1 := Lib.hid v1
      clear h1 v1
      obtain ⟨s2, x2, p2, h2, v2⟩ := S7.out.g
      obtain ⟨c21, c22, c23⟩ := b3_blk h2
      have V2 := Lib.hid v2
      clear h2 v2
      go_wp2_with fail
      refine (quotient_any _ _ y g _ V1.out V2.out HG0.out (over_all _ _ (Wk.sz Wy (by decide)) (by have := HG0.out; omega)) (Wk.sz Wy (by decide)) (Wk.sz Wg (by decide))).mono ?_
      rintro e w6 ⟨hb6, u6, v6, rfl, hu6, hv6⟩
      rw [M1.out] at hv6
      obtain ⟨su6, xu6, pu6, _, rfl, -⟩ := id hu6
      obtain ⟨sv6, xv6, pv6, _, rfl, -⟩ := id hv6
      have P6 := Hz.new (hv6.al (.cells #[.bool su6, .int .u64 xu6, .pointer pu6] 29))
      rw [World.size_alloc] at P6
      have S8 := Lib.hid ((S7.out.keep hb6).keep (bl2 w6 (.cells #[.bool su6, .int .u64 xu6, .pointer pu6] 29) (.cells #[.bool sv6, .int .u64 xv6, .pointer pv6] 29)))
      have P6 := Lib.hid P6
      clear S7 hb6 hu6 hv6 c11 c12 c13 V1 c21 c22 c23 V2
      obtain ⟨s1, x1, p1, h1, v1⟩ := S8.out.b
      obtain ⟨c11, c12, c13⟩ := b3_blk h1
      have V1 := Lib.hid v1
      clear h1 v1
      obtain ⟨s2, x2, p2, h2, v2⟩ := S8.out.g
      obtain ⟨c21, c22, c23⟩ := b3_blk h2
      have V2 := Lib.hid v2
      clear h2 v2
      go_wp2_with fail
      refine (quotient_any _ _ z g _ V1.out V2.out HG0.out (over_all _ _ (Wk.sz Wz (by decide)) (by have := HG0.out; omega)) (Wk.sz Wz (by decide)) (Wk.sz Wg (by decide))).mono ?_
      rintro e w7 ⟨hb7, u7, v7, rfl, hu7, hv7⟩
      rw [M2.out] at hv7
      obtain ⟨su7, xu7, pu7, _, rfl, -⟩ := id hu7
      obtain ⟨sv7, xv7, pv7, _, rfl, -⟩ := id hv7
      have P7 := Hz.new (hv7.al (.cells #[.bool su7, .int .u64 xu7, .pointer pu7] 29))
      rw [World.size_alloc] at P7
      have S9 := Lib.hid ((S8.out.keep hb7).keep (bl2 w7 (.cells #[.bool su7, .int .u64 xu7, .pointer pu7] 29) (.cells #[.bool sv7, .int .u64 xv7, .pointer pv7] 29)))
      have P6 := Lib.hid ((P6.out.keep hb7).keep (bl2 w7 (.cells #[.bool su7, .int .u64 xu7, .pointer pu7] 29) (.cells #[.bool sv7, .int .u64 xv7, .pointer pv7] 29)))
      have P7 := Lib.hid P7
      clear S8 hb7 hu7 hv7 c11 c12 c13 V1 c21 c22 c23 V2
      obtain ⟨s1, x1', p1', h1, v1⟩ := P6.out
      obtain ⟨c11, c12, c13⟩ := b3_blk h1
      have V1 := Lib.hid v1
      clear h1 v1
      go_wp2_with fail
      refine (sign_any _ 0 _ V1.out).mono ?_
      rintro e w8 ⟨hb8, rfl⟩
      have S10 := Lib.hid (S9.out.keep hb8)
      have P8 := Lib.hid (P7.out.keep hb8)
      clear S9 P7 P6 hb8 V1 c11 c12 c13
      obtain ⟨s2, x2', p2', h2, v2⟩ := P8.out
      obtain ⟨c21, c22, c23⟩ := b3_blk h2
      have V2 := Lib.hid v2
      clear h2 v2
      rw [show Int.sign 0 = 0 from rfl]
      go_wp2_with fail
      refine (sign_any _ 0 _ V2.out).mono ?_
      rintro e w9 ⟨hb9, rfl⟩
      have S11 := Lib.hid (S10.out.keep hb9)
      clear S10 P8 hb9 V2 c21 c22 c23
      obtain ⟨s1, x1, p1, h1, v1⟩ := S11.out.b
      obtain ⟨c11, c12, c13⟩ := b3_blk h1
      have V1 := Lib.hid v1
      clear h1 v1
      rw [show Int.sign 0 = 0 from rfl]
      go_wp2_with fail
      refine (sign_any _ z _ V1.out).mono ?_
      rintro e w10 ⟨hb10, rfl⟩
      have S12 := Lib.hid (S11.out.keep hb10)
      clear S11 hb10 c11 c12 c13 V1
      by_cases hz0 : z = 0
      · have hz1 : (z.sign == 0) = true := by rw [hz0]; rfl
        clear hz0
        go_wp2_with fail
        refine (awake_any _).mono ?_
        rintro e w11 ⟨hb11, rfl⟩
        have K := Lib.hid (Below.thru S12.out.k S12.out.k.size hb11)
        clear hb11
        go_wp2
        go_ret
        exact ⟨K.out, rfl⟩
      · have hz1 : (z.sign == 0) = false := by rw [beq_eq_false_iff_ne]; exact fun h => hz0 (Int.sign_eq_zero_iff_zero.1 h)
        have HZ0 := Lib.hid hz0
        clear hz0
        obtain ⟨s1, x1, p1, h1, v1⟩ := S12.out.a
        obtain ⟨c11, c12, c13⟩ := b3_blk h1
        have V1 := Lib.hid v1
        clear h1 v1
        obtain ⟨s2, x2, p2, h2, v2⟩ := S12.out.b
        obtain ⟨c21, c22, c23⟩ := b3_blk h2
        have V2 := Lib.hid v2
        clear h2 v2
        go_wp2_with fail
        refine (quotient_any _ _ y z _ V1.out V2.out HZ0.out (over_all _ _ (Wk.sz Wy (by decide)) (by have := HZ0.out; omega)) (Wk.sz Wy (by decide)) (Wk.sz Wz (by decide))).mono ?_
        rintro e w11 ⟨hb11, u8, v8, rfl, hu8, hv8⟩
        obtain ⟨su8, xu8, pu8, _, rfl, -⟩ := id hu8
        obtain ⟨sv8, xv8, pv8, _, rfl, -⟩ := id hv8
        have P8 := Hz.new (hv8.al (.cells #[.bool su8, .int .u64 xu8, .pointer pu8] 29))
        rw [World.size_alloc] at P8
        have Q8 := (Hz.new hu8).keep (bl1 _ (.cells #[.bool sv8, .int .u64 xv8, .pointer pv8] 29))
        have S13 := (S12.out.keep hb11).keep (bl2 w11 (.cells #[.bool su8, .int .u64 xu8, .pointer pu8] 29) (.cells #[.bool sv8, .int .u64 xv8, .pointer pv8] 29))
        have SQ : S7q w y z (y / z) (y % z) w1.heap.size w2.heap.size w11.heap.size (w11.heap.size + 1) ((w11.alloc (.cells #[.bool su8, .int .u64 xu8, .pointer pu8] 29)).alloc (.cells #[.bool sv8, .int .u64 xv8, .pointer pv8] 29)) := ⟨S13.k, S13.a, S13.b, Q8, P8⟩
        have SQ := Lib.hid SQ
        have Wq : Wk 12 (y / z) := Wy.div
        have Wm : Wk 12 (y % z) := Wz.mod HZ0.out
        have r1 := Int.emod_nonneg y HZ0.out
        have r2 := Int.emod_lt y HZ0.out
        have T129 : (sgnZ (((y / z) * z) + (y % z)) y == 0) = true := by rw [Int.mul_comm, Int.mul_ediv_add_emod, sgnZ_self]; rfl
        have T134 : decide (0 ≤ (y % z).sign) = true := by simpa using sgn_nn r1
        have T141 : decide (sgnZ (y % z) (z.natAbs : Int) < 0) = true := by rw [sgnZ_ne r2]; decide
        have T129 := Lib.hid T129; have T134 := Lib.hid T134; have T141 := Lib.hid T141
        clear S12 S13 hb11 hu8 hv8 P8 Q8 r1 r2 c11 c12 c13 V1 c21 c22 c23 V2
        go_wp2_with fail
        go_cut [6] (fun v wc => v = .bool true ∧ Below w.heap.size w wc)
        case first =>
          rename_i J K' hJ hK
          have T129 := T129.out; have T134 := T134.out; have T141 := T141.out
          refine wp_region_kd DD16 (tabD16 y z) (S7q w y z (y / z) (y % z) w1.heap.size w2.heap.size w11.heap.size (w11.heap.size + 1)) (by kernel_rfl) (by kernel_rfl) (by kernel_rfl) (by kernel_rfl) (fun _ _ h hb => h.keep hb) (SQ.out.keep (Below.refl _ _).drew) ?_ ?_
          ·
            refine .cons (fun f w' hI hs => ⟨wanted_none rfl, _, rfl, .val (rn_move rfl) ⟨Below.refl _ _, fr_old rfl rfl⟩⟩) ?_
            refine .cons (fun f w' hI hs => ⟨wanted_none rfl, _, rfl, .val (rn_eql51 rfl ((fr_own rfl rfl).trans (hs 119 (by kernel_rfl)))) ⟨Below.refl _ _, rfl⟩⟩) ?_
            refine .cons (fun f w' hI hs => ⟨wanted_none rfl, _, rfl, .val (rn_move rfl) ⟨Below.refl _ _, (fr_own rfl rfl).trans (hs 120 (by kernel_rfl))⟩⟩) ?_
            refine .cons (fun f w' hI hs => ?_) ?_
            · obtain ⟨s, x, p, h1, h2⟩ := hI.q
              exact ⟨wanted_some rfl (by kernel_rfl) rfl rfl (hs 121 (by kernel_rfl)), _, rfl, .val (rn_load29 rfl (fr_old rfl rfl) (b3_blk h1)) ⟨Below.refl _ _, h2⟩⟩
            refine .cons (fun f w' hI hs => ?_) ?_
            · obtain ⟨s, x, p, h1, h2⟩ := hI.b
              exact ⟨wanted_some rfl (by kernel_rfl) rfl rfl (hs 121 (by kernel_rfl)), _, rfl, .val (rn_load29 rfl (fr_old rfl rfl) (b3_blk h1)) ⟨Below.refl _ _, h2⟩⟩
            refine .cons (fun f w' hI hs => ⟨wanted_some rfl (by kernel_rfl) rfl rfl (hs 121 (by kernel_rfl)), _, rfl, .call2 rfl cf18 rfl rfl rfl rfl (PZ.kd (zmul_any _ _ (y / z) z _ (hs 122 (by kernel_rfl)) (hs 123 (by kernel_rfl)) (Wk.sz Wq (by decide)) (Wk.sz Wz (by decide))))⟩) ?_
            refine .cons (fun f w' hI hs => ?_) ?_
            · obtain ⟨s, x, p, h1, h2⟩ := hI.m
              exact ⟨wanted_some rfl (by kernel_rfl) rfl rfl (hs 121 (by kernel_rfl)), _, rfl, .val (rn_load29 rfl (fr_old rfl rfl) (b3_blk h1)) ⟨Below.refl _ _, h2⟩⟩
            refine .cons (fun f w' hI hs => ⟨wanted_some rfl (by kernel_rfl) rfl rfl (hs 121 (by kernel_rfl)), _, rfl, .call2 rfl cf14 rfl rfl rfl rfl (PZ.kd (zadd_any _ _ ((y / z) * z) (y % z) _ (hs 124 (by kernel_rfl)) (hs 125 (by kernel_rfl)) (Wk.sz (Wk.mul Wq Wz) (by decide)) (Wk.sz Wm (by decide))))⟩) ?_
            refine .cons (fun f w' hI hs => ?_) ?_
            · obtain ⟨s, x, p, h1, h2⟩ := hI.a
              exact ⟨wanted_some rfl (by kernel_rfl) rfl rfl (hs 121 (by kernel_rfl)), _, rfl, .val (rn_load29 rfl (fr_old rfl rfl) (b3_blk h1)) ⟨Below.refl _ _, h2⟩⟩
            refine .cons (fun f w' hI hs => ⟨wanted_some rfl (by kernel_rfl) rfl rfl (hs 121 (by kernel_rfl)), _, rfl, .call2 rfl cf25 rfl rfl rfl rfl (PSg.kdn (zcmp_any _ _ (((y / z) * z) + (y % z)) y _ (hs 126 (by kernel_rfl)) (hs 127 (by kernel_rfl))))⟩) ?_
            refine .cons (fun f w' hI hs => ⟨wanted_some rfl (by kernel_rfl) rfl rfl (hs 121 (by kernel_rfl)), _, rfl, .val (rn_eql3 rfl ((fr_own rfl rfl).trans (hs 128 (by kernel_rfl))) rfl T129) ⟨Below.refl _ _, rfl⟩⟩) ?_
            refine .cons (fun f w' hI hs => ⟨wanted_none rfl, _, rfl, .val (rn_pick_t rfl ((fr_own rfl rfl).trans (hs 121 (by kernel_rfl)))) ⟨Below.refl _ _, (fr_own rfl rfl).trans (hs 129 (by kernel_rfl))⟩⟩) ?_
            refine .cons (fun f w' hI hs => ⟨wanted_none rfl, _, rfl, .val (rn_move rfl) ⟨Below.refl _ _, (fr_own rfl rfl).trans (hs 130 (by kernel_rfl))⟩⟩) ?_
            refine .cons (fun f w' hI hs => ?_) ?_
            · obtain ⟨s, x, p, h1, h2⟩ := hI.m
              exact ⟨wanted_some rfl (by kernel_rfl) rfl rfl (hs 131 (by kernel_rfl)), _, rfl, .val (rn_load29 rfl (fr_old rfl rfl) (b3_blk h1)) ⟨Below.refl _ _, h2⟩⟩
            refine .cons (fun f w' hI hs => ⟨wanted_some rfl (by kernel_rfl) rfl rfl (hs 131 (by kernel_rfl)), _, rfl, .call1 rfl cf24 rfl rfl (PSi.kdn (sign_any _ (y % z) _ (hs 132 (by kernel_rfl))))⟩) ?_
            refine .cons (fun f w' hI hs => ⟨wanted_some rfl (by kernel_rfl) rfl rfl (hs 131 (by kernel_rfl)), _, rfl, .val (rn_geq3 rfl ((fr_own rfl rfl).trans (hs 133 (by kernel_rfl))) rfl T134) ⟨Below.refl _ _, rfl⟩⟩) ?_
            refine .cons (fun f w' hI hs => ⟨wanted_none rfl, _, rfl, .val (rn_pick_t rfl ((fr_own rfl rfl).trans (hs 131 (by kernel_rfl)))) ⟨Below.refl _ _, (fr_own rfl rfl).trans (hs 134 (by kernel_rfl))⟩⟩) ?_
            refine .cons (fun f w' hI hs => ⟨wanted_none rfl, _, rfl, .val (rn_move rfl) ⟨Below.refl _ _, (fr_own rfl rfl).trans (hs 135 (by kernel_rfl))⟩⟩) ?_
            refine .cons (fun f w' hI hs => ?_) ?_
            · obtain ⟨s, x, p, h1, h2⟩ := hI.m
              exact ⟨wanted_some rfl (by kernel_rfl) rfl rfl (hs 136 (by kernel_rfl)), _, rfl, .val (rn_load29 rfl (fr_old rfl rfl) (b3_blk h1)) ⟨Below.refl _ _, h2⟩⟩
            refine .cons (fun f w' hI hs => ?_) ?_
            · obtain ⟨s, x, p, h1, h2⟩ := hI.b
              exact ⟨wanted_some rfl (by kernel_rfl) rfl rfl (hs 136 (by kernel_rfl)), _, rfl, .val (rn_load29 rfl (fr_old rfl rfl) (b3_blk h1)) ⟨Below.refl _ _, h2⟩⟩
            refine .cons (fun f w' hI hs => ⟨wanted_some rfl (by kernel_rfl) rfl rfl (hs 136 (by kernel_rfl)), _, rfl, .call1 rfl cf22 rfl rfl (PZ.kd (abs_any _ z _ (hs 138 (by kernel_rfl))))⟩) ?_
            refine .cons (fun f w' hI hs => ⟨wanted_some rfl (by kernel_rfl) rfl rfl (hs 136 (by kernel_rfl)), _, rfl, .call2 rfl cf25 rfl rfl rfl rfl (PSg.kdn (zcmp_any _ _ (y % z) (z.natAbs : Int) _ (hs 137 (by kernel_rfl)) (hs 139 (by kernel_rfl))))⟩) ?_
            refine .cons (fun f w' hI hs => ⟨wanted_some rfl (by kernel_rfl) rfl rfl (hs 136 (by kernel_rfl)), _, rfl, .val (rn_lss3 rfl ((fr_own rfl rfl).trans (hs 140 (by kernel_rfl))) rfl T141) ⟨Below.refl _ _, rfl⟩⟩) ?_
            refine .cons (fun f w' hI hs => ⟨wanted_none rfl, _, rfl, .val (rn_pick_t rfl ((fr_own rfl rfl).trans (hs 136 (by kernel_rfl)))) ⟨Below.refl _ _, (fr_own rfl rfl).trans (hs 141 (by kernel_rfl))⟩⟩) ?_
            refine .cons (fun f w' hI hs => ⟨wanted_none rfl, _, rfl, .val (rn_move rfl) ⟨Below.refl _ _, (fr_own rfl rfl).trans (hs 142 (by kernel_rfl))⟩⟩) ?_
            refine .cons (fun f w' hI hs => ⟨wanted_some rfl (by kernel_rfl) rfl rfl (hs 143 (by kernel_rfl)), _, rfl, .call0 rfl cf27 (PB.kd (awake_any _))⟩) ?_
            refine .cons (fun f w' hI hs => ⟨wanted_none rfl, _, rfl, .val (rn_pick_t rfl ((fr_own rfl rfl).trans (hs 143 (by kernel_rfl)))) ⟨Below.refl _ _, (fr_own rfl rfl).trans (hs 144 (by kernel_rfl))⟩⟩) ?_
            refine .cons (fun f w' hI hs => ⟨wanted_none rfl, _, rfl, .val (rn_assign rfl) ⟨Below.refl _ _, (fr_own rfl rfl).trans (hs 145 (by kernel_rfl))⟩⟩) ?_
            exact .nil
          · intro f w' hI hk
            have h6 : f 6 = .bool true := hk 6 (by kernel_rfl)
            refine hK _ _ (Met.intro (hJ _ _ ?_))
            (repeat apply Exists.intro)
            refine ⟨?_, rfl⟩
            exact ⟨h6, hI.k⟩
        case rest =>
          obtain ⟨rfl, kf⟩ := hcut
          go_wp2
          go_ret
          exact ⟨kf, rfl⟩
end Go.Proofs.Ytaflmokphgjhnaa
