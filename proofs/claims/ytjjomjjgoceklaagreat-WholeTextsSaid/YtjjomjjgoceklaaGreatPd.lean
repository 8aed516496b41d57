import Derived.Test.YtjjomjjgoceklaaGreatKde
import Derived.Test.YtjjomjjgoceklaaGreatKdf
namespace Go.Proofs.YtjjomjjgoceklaaGreat
set_option maxRecDepth 100000
open Go.RowKit

/-! the law WholeTexts -/
theorem cf12 : CF 12 := fun W args => by go_simp
theorem cf13 : CF 13 := fun W args => by go_simp
theorem ztextR (v : Value) (z : Int) (w : World) (h : Zr w v z) (sz : Sz z.natAbs) : Calls Tryz.prog 79 #[v] w (PTx z w) := text_any v z w h (grC_any _ sz) (sz_nd sz)
theorem rtextR {v : Value} {x : Rat} {w : World} {k : Nat} (h : Rr w v x.num x.den) (b : Bd9 k x) (hk : k ≤ 1000) : Calls Tryz.prog 80 #[v] w (PTr x.num x.den w) :=
  rtext_any v x.num x.den w h (grC_any _ (b.szn hk)) (sz_nd (b.szn hk)) (grC_any _ (b.szd hk)) (sz_nd (b.szd hk))
theorem toList_beq (a b : ByteArray) : (a.toList == b.toList) = decide (a = b) := by
  by_cases e : a = b
  · subst e; simp
  · have h2 : ¬ a.toList = b.toList := fun h => e (by rw [ByteArray.toList_eq, ByteArray.toList_eq] at h; exact ByteArray.ext (Array.ext' h))
    simp [e, h2]
theorem rn_eqlS {ρ : Operand → Value} {o : Oper} {w : World} {t c : Operand} {a b : ByteArray} {r : Bool} (ho : o.op = .binOp .eql 9 t c 9) (h1 : ρ t = .string a) (h2 : ρ c = .string b) (hc : decide (a = b) = r) : (execOp ρ o).run Tryz.prog w = .ok (.value (.bool r)) w := by
  subst hc; unfold execOp; rw [ho]; simp [go_sem, h1, h2, toList_beq]
theorem rn_eql4 {ρ : Operand → Value} {o : Oper} {w : World} {t c : Operand} {a b r : Bool} (ho : o.op = .binOp .eql 4 t c 4) (h1 : ρ t = .bool a) (h2 : ρ c = .bool b) (hc : (a == b) = r) : (execOp ρ o).run Tryz.prog w = .ok (.value (.bool r)) w := by
  subst hc; unfold execOp; rw [ho]; simp [go_sem, h1, h2]
theorem nd_lt {n k : Nat} (h : n < 10 ^ k) (hk : 1 ≤ k) : nd n ≤ k := by
  rcases (nd_spec n).2 with e | e
  · omega
  · have := (Nat.pow_lt_pow_iff_right (show 1 < 10 by omega)).1 (Nat.lt_of_le_of_lt e h)
    omega
theorem txt_sz {z : Int} (h : Wk 12 z) : (txt z).size ≤ 1000 := by
  have h1 := txt_size z
  have h2 : nd z.natAbs ≤ 240 := nd_lt (Nat.lt_of_lt_of_le h (by decide +kernel)) (by omega)
  omega
theorem txtR_sz {c : Rat} (h : Bd9 1 c) : (txtR c.num c.den).size ≤ 1000 := by
  have h1 := txt_size c.num
  have h2 := txt_size (c.den : Int)
  have h3 : nd c.num.natAbs ≤ 20 := nd_lt (Nat.lt_of_lt_of_le h.1 (by decide +kernel)) (by omega)
  have h4 : nd c.den ≤ 20 := nd_lt (Nat.lt_of_lt_of_le h.2 (by decide +kernel)) (by omega)
  rw [Int.natAbs_natCast] at h2
  by_cases e : c.den = 1
  · rw [e, txtR_one]; omega
  · rw [txtR_big _ e]
    show (txtL c.num ++ 47 :: txtL (c.den : Int)).toArray.size ≤ _
    have h5 : (txtL c.num).length = (txt c.num).size := by show _ = (txtL c.num).toArray.size; simp
    have h6 : (txtL (c.den : Int)).length = (txt (c.den : Int)).size := by show _ = (txtL (c.den : Int)).toArray.size; simp
    simp
    omega
theorem parseR {c : Rat} (w : World) (h : Bd9 1 c) : Calls Tryz.prog 13 #[.string (txtR c.num c.den)] w (PRe c.num c.den 0 w) :=
  parse_txt c.num c.den w (txtR_sz h) c.den_pos c.reduced (h.szn (by decide)) (h.szd (by decide)) fun W v1 v2 h1 h2 => by
    have p := ofzR v1 v2 c.num (c.den : Int) W h1 h2 (by have := c.den_pos; omega) (h.szn (by decide)) (by rw [Int.natAbs_natCast]; exact h.szd (by decide))
    rw [Rat.num_divInt_den] at p
    exact p
theorem sgnZ_eq (a b : Int) : (sgnZ a b == 0) = decide (a = b) := by
  unfold sgnZ
  by_cases h : a < b
  · rw [if_pos h]; have : ¬ a = b := by omega
    simp [this]
  · rw [if_neg h]
    by_cases e : a = b
    · rw [if_pos e]; simp [e]
    · rw [if_neg e]; simp [e]
theorem cmpQ_eq (a b : Rat) : (cmpQ a b == 0) = decide (a = b) := by
  unfold cmpQ
  by_cases h : a < b
  · rw [if_pos h]
    have : ¬ a = b := fun e => by subst e; exact Rat.lt_irrefl h
    simp [this]
  · rw [if_neg h]
    by_cases e : a = b
    · rw [if_pos e]; simp [e]
    · rw [if_neg e]; simp [e]
theorem txt_eq (a b : Int) : decide (txt a = txt b) = decide (a = b) := by
  by_cases e : a = b
  · subst e; simp
  · have : ¬ txt a = txt b := fun h => e (txt_inj h)
    simp [e, this]
theorem txtR_eq (a b : Rat) : decide (txtR a.num a.den = txtR b.num b.den) = decide (a = b) := by
  by_cases e : a = b
  · subst e; simp
  · have : ¬ txtR a.num a.den = txtR b.num b.den := fun h => e (Rat.ext (txtR_inj h).1 (txtR_inj h).2)
    simp [e, this]
structure T4s (w0 : World) (y z : Int) (c d : Rat) (Ta Tb Tc Td : Nat) (w : World) : Prop where
  k : Below w0.heap.size w0 w
  a : Hz Ta y w
  b : Hz Tb z w
  c : Hq Tc c.num c.den w
  d : Hq Td d.num d.den w
theorem T4s.keep {w0 : World} {y z : Int} {c d : Rat} {Ta Tb Tc Td : Nat} {w w' : World} (h : T4s w0 y z c d Ta Tb Tc Td w) (hb : Below w.heap.size w w') : T4s w0 y z c d Ta Tb Tc Td w' := ⟨Below.thru h.k h.k.size hb, h.a.keep hb, h.b.keep hb, h.c.keep hb, h.d.keep hb⟩
structure T6s (w0 : World) (y z : Int) (c d : Rat) (Ta Tb Tc Td Tp Tq : Nat) (w : World) : Prop where
  k : Below w0.heap.size w0 w
  a : Hz Ta y w
  b : Hz Tb z w
  p : Hz Tp y w
  q : Hq Tq c.num c.den w
  c : Hq Tc c.num c.den w
  d : Hq Td d.num d.den w
theorem T6s.keep {w0 : World} {y z : Int} {c d : Rat} {Ta Tb Tc Td Tp Tq : Nat} {w w' : World} (h : T6s w0 y z c d Ta Tb Tc Td Tp Tq w) (hb : Below w.heap.size w w') : T6s w0 y z c d Ta Tb Tc Td Tp Tq w' := ⟨Below.thru h.k h.k.size hb, h.a.keep hb, h.b.keep hb, h.p.keep hb, h.q.keep hb, h.c.keep hb, h.d.keep hb⟩
def tabR7 (y z : Int) (c d : Rat) (bz bq : Bool) (tt : Nat) : Kd := if tt = 8 then (.v (.bool true)) else [(ki 0), (.v (.bool true)), (.v (.bool true)), (ki 0), (.v (.bool true)), (.v (.bool true)), (.v (.bool true)), .z y, .z y, (ki (sgnZ y y)), (.v (.bool true)), (.v (.bool true)), (.v (.bool true)), .q c.num c.den, .q c.num c.den, (ki (cmpQ c c)), (.v (.bool true)), (.v (.bool true)), (.v (.bool true)), .z y, .z z, (ki (sgnZ y z)), (.v (.bool bz)), .z y, (.v (.string (txt y))), .z z, (.v (.string (txt z))), (.v (.bool bz)), (.v (.bool true)), (.v (.bool true)), (.v (.bool true)), .q c.num c.den, .q d.num d.den, (ki (cmpQ c d)), (.v (.bool bq)), .q c.num c.den, (.v (.string (txtR c.num c.den))), .q d.num d.den, (.v (.string (txtR d.num d.den))), (.v (.bool bq)), (.v (.bool true)), (.v (.bool true)), (.v (.bool true)), (.v (.bool true)), (.v (.bool true))].getD (tt - 53) .any
def DR7 (t : Nat) : Bool := Nat.beq t 8 || (Nat.ble 53 t && Nat.ble t 97)
set_option maxHeartbeats 6400000 in
theorem texts_any (A1 B1 C1 Q1 A2 B2 C2 Q2 N3 D3 N4 D4 : Int) (w : World) (hA1 : I64 A1) (hB1 : I64 B1) (hC1 : I64 C1) (hQ1 : 0 ≤ Q1 ∧ Q1 ≤ 255) (hA2 : I64 A2) (hB2 : I64 B2) (hC2 : I64 C2) (hQ2 : 0 ≤ Q2 ∧ Q2 ≤ 255) (hN3 : I64 N3) (hD3 : I64 D3) (hN4 : I64 N4) (hD4 : I64 D4) :
    Calls Tryz.prog 9 #[.agg #[.int .i64 A1, .int .i64 B1, .int .i64 C1, .int .u8 Q1], .agg #[.int .i64 A2, .int .i64 B2, .int .i64 C2, .int .u8 Q2], .agg #[.int .i64 N3, .int .i64 D3], .agg #[.int .i64 N4, .int .i64 D4]] w (PB true w) := by
  obtain ⟨y, Wy, cy⟩ := bothz_all A1 B1 C1 Q1 hA1 hB1 hC1 hQ1
  obtain ⟨z, Wz, cz⟩ := bothz_all A2 B2 C2 Q2 hA2 hB2 hC2 hQ2
  obtain ⟨c, Bc, cc⟩ := both_all N3 D3 hN3 hD3
  obtain ⟨d, Bd, cd⟩ := both_all N4 D4 hN4 hD4
  have CY := Lib.hid cy; have CZ := Lib.hid cz; have CC := Lib.hid cc; have CD := Lib.hid cd
  have k0 : Below w.heap.size w ((((w.alloc (.cells #[.int .i64 A1, .int .i64 B1, .int .i64 C1, .int .u8 Q1] 50)).alloc (.cells #[.int .i64 A2, .int .i64 B2, .int .i64 C2, .int .u8 Q2] 50)).alloc (.cells #[.int .i64 N3, .int .i64 D3] 65)).alloc (.cells #[.int .i64 N4, .int .i64 D4] 65)) := Below.thru (bl2 w (.cells #[.int .i64 A1, .int .i64 B1, .int .i64 C1, .int .u8 Q1] 50) (.cells #[.int .i64 A2, .int .i64 B2, .int .i64 C2, .int .u8 Q2] 50)) (by simp; omega) (bl2 ((w.alloc (.cells #[.int .i64 A1, .int .i64 B1, .int .i64 C1, .int .u8 Q1] 50)).alloc (.cells #[.int .i64 A2, .int .i64 B2, .int .i64 C2, .int .u8 Q2] 50)) (.cells #[.int .i64 N3, .int .i64 D3] 65) (.cells #[.int .i64 N4, .int .i64 D4] 65))
  have X2 : Xb (w.heap.size + 1) A2 B2 C2 Q2 ((((w.alloc (.cells #[.int .i64 A1, .int .i64 B1, .int .i64 C1, .int .u8 Q1] 50)).alloc (.cells #[.int .i64 A2, .int .i64 B2, .int .i64 C2, .int .u8 Q2] 50)).alloc (.cells #[.int .i64 N3, .int .i64 D3] 65)).alloc (.cells #[.int .i64 N4, .int .i64 D4] 65)) := blk_al (blk_al (xb_new (w.alloc (.cells #[.int .i64 A1, .int .i64 B1, .int .i64 C1, .int .u8 Q1] 50)) A2 B2 C2 Q2 (by simp)) _) _
  have X3 : Xn (w.heap.size + 1 + 1) N3 D3 ((((w.alloc (.cells #[.int .i64 A1, .int .i64 B1, .int .i64 C1, .int .u8 Q1] 50)).alloc (.cells #[.int .i64 A2, .int .i64 B2, .int .i64 C2, .int .u8 Q2] 50)).alloc (.cells #[.int .i64 N3, .int .i64 D3] 65)).alloc (.cells #[.int .i64 N4, .int .i64 D4] 65)) := blk_al (xn_new ((w.alloc (.cells #[.int .i64 A1, .int .i64 B1, .int .i64 C1, .int .u8 Q1] 50)).alloc (.cells #[.int .i64 A2, .int .i64 B2, .int .i64 C2, .int .u8 Q2] 50)) N3 D3 (by simp)) _
  have X4 : Xn (w.heap.size + 1 + 1 + 1) N4 D4 ((((w.alloc (.cells #[.int .i64 A1, .int .i64 B1, .int .i64 C1, .int .u8 Q1] 50)).alloc (.cells #[.int .i64 A2, .int .i64 B2, .int .i64 C2, .int .u8 Q2] 50)).alloc (.cells #[.int .i64 N3, .int .i64 D3] 65)).alloc (.cells #[.int .i64 N4, .int .i64 D4] 65)) := xn_new (((w.alloc (.cells #[.int .i64 A1, .int .i64 B1, .int .i64 C1, .int .u8 Q1] 50)).alloc (.cells #[.int .i64 A2, .int .i64 B2, .int .i64 C2, .int .u8 Q2] 50)).alloc (.cells #[.int .i64 N3, .int .i64 D3] 65)) N4 D4 (by simp)
  have KX := Lib.hid (And.intro k0 (And.intro X2 (And.intro X3 X4)))
  clear cy cz cc cd k0 X2 X3 X4
  go_enter Tryz.func9, Tryz.ntmps9
  go_wp2_with fail
  refine (CY.out _).mono ?_
  rintro e w1 ⟨hb, u, v, rfl, hu, hv⟩
  obtain ⟨k0, X2, X3, X4⟩ := KX.out
  obtain ⟨s1, x1, p1, _, rfl, -⟩ := id hu
  obtain ⟨f1, l1, c1, rfl⟩ := hv.agg
  have kk := bl2 w1 (.cells #[.bool s1, .int .u64 x1, .pointer p1] 28) (.cells #[.int .i64 y.sign, .slice f1 l1 c1] 41)
  have k1 := Below.thru k0 k0.size hb
  have H1 := Lib.hid ((Hz.new hu).keep (bl1 _ (.cells #[.int .i64 y.sign, .slice f1 l1 c1] 41)))
  have KX1 := Lib.hid (And.intro (Below.thru k1 k1.size kk) (And.intro ((X3.keep hb).keep kk) ((X4.keep hb).keep kk)))
  obtain ⟨d1, d2, d3, d4⟩ := ((X2.keep hb).keep kk).cells
  clear hu hv hb k0 k1 kk X2 X3 X4 KX
  go_wp2_with fail
  refine (CZ.out _).mono ?_
  rintro e w2 ⟨hb, u, v, rfl, hu, hv⟩
  obtain ⟨k1, X3, X4⟩ := KX1.out
  obtain ⟨s2, x2, p2, _, rfl, -⟩ := id hu
  obtain ⟨f2, l2, c2, rfl⟩ := hv.agg
  have kk := bl2 w2 (.cells #[.bool s2, .int .u64 x2, .pointer p2] 28) (.cells #[.int .i64 z.sign, .slice f2 l2 c2] 41)
  have k2 := Below.thru k1 k1.size hb
  have H2 := Lib.hid (And.intro ((H1.out.keep hb).keep kk) ((Hz.new hu).keep (bl1 _ (.cells #[.int .i64 z.sign, .slice f2 l2 c2] 41))))
  have KX2 := Lib.hid (And.intro (Below.thru k2 k2.size kk) ((X4.keep hb).keep kk))
  obtain ⟨d5, d6⟩ := ((X3.keep hb).keep kk).cells
  clear hu hv hb k1 k2 kk X3 X4 KX1 H1 d1 d2 d3 d4
  go_wp2_with fail
  refine (CC.out _).mono ?_
  rintro e w3 ⟨hb, u, v, rfl, hu, hv⟩
  obtain ⟨k2, X4⟩ := KX2.out
  obtain ⟨s3, x3, p3, y3, q3, rfl⟩ := hu.agg
  obtain ⟨t3, f3, l3, c3, u3, hh3, m3, cc3, rfl⟩ := hv.agg
  have kk := bl2 w3 (.cells #[.bool s3, .int .u64 x3, .pointer p3, .int .u64 y3, .pointer q3] 33) (.cells #[.int .i64 t3, .slice f3 l3 c3, .int .i64 u3, .slice hh3 m3 cc3] 44)
  have k3 := Below.thru k2 k2.size hb
  have H3 := Lib.hid (And.intro ((H2.out.1.keep hb).keep kk) (And.intro ((H2.out.2.keep hb).keep kk) ((Hq.new hu).keep (bl1 _ (.cells #[.int .i64 t3, .slice f3 l3 c3, .int .i64 u3, .slice hh3 m3 cc3] 44)))))
  have KX3 := Lib.hid (Below.thru k3 k3.size kk)
  obtain ⟨d1, d2⟩ := ((X4.keep hb).keep kk).cells
  clear hu hv hb k2 k3 kk X4 KX2 H2 d5 d6
  go_wp2_with fail
  refine (CD.out _).mono ?_
  rintro e w4 ⟨hb, u, v, rfl, hu, hv⟩
  obtain ⟨s4, x4, p4, y4, q4, rfl⟩ := hu.agg
  obtain ⟨t4, f4, l4, c4, u4, hh4, m4, cc4, rfl⟩ := hv.agg
  have kk := bl2 w4 (.cells #[.bool s4, .int .u64 x4, .pointer p4, .int .u64 y4, .pointer q4] 33) (.cells #[.int .i64 t4, .slice f4 l4 c4, .int .i64 u4, .slice hh4 m4 cc4] 44)
  have k4 := Below.thru KX3.out KX3.out.size hb
  have S : T4s w y z c d w1.heap.size w2.heap.size w3.heap.size w4.heap.size ((w4.alloc (.cells #[.bool s4, .int .u64 x4, .pointer p4, .int .u64 y4, .pointer q4] 33)).alloc (.cells #[.int .i64 t4, .slice f4 l4 c4, .int .i64 u4, .slice hh4 m4 cc4] 44)) :=
    ⟨Below.thru k4 k4.size kk, (H3.out.1.keep hb).keep kk, (H3.out.2.1.keep hb).keep kk, (H3.out.2.2.keep hb).keep kk, (Hq.new hu).keep (bl1 _ (.cells #[.int .i64 t4, .slice f4 l4 c4, .int .i64 u4, .slice hh4 m4 cc4] 44))⟩
  have S := Lib.hid S
  clear hu hv hb k4 kk KX3 H3 d1 d2
  obtain ⟨sa, xa, pa, ha, va⟩ := S.out.a
  obtain ⟨g1, g2, g3⟩ := b3_blk ha
  have VA := Lib.hid va
  clear ha va
  go_wp2_with fail
  refine (ztextR _ y _ VA.out (Wk.sz Wy (by decide))).mono ?_
  rintro e w5 ⟨hb, rfl⟩
  have S := Lib.hid (S.out.keep hb)
  clear hb VA g1 g2 g3
  go_wp2_with fail
  refine (parseZ_txt y _ (txt_sz Wy)).mono ?_
  rintro e w6 ⟨hb, v6, rfl, h6⟩
  obtain ⟨s6, x6, p6, _, rfl, -⟩ := id h6
  have S6 := S.out.keep hb
  have SP := Lib.hid (And.intro (S6.keep (bl1 _ (.cells #[.bool s6, .int .u64 x6, .pointer p6] 28))) (Hz.new h6))
  clear S S6 hb h6
  obtain ⟨sc, xc, yc, pc, qc, hc1, hc2⟩ := SP.out.1.c
  have g1 := cell_blk (i := 0) hc1
  have g2 := cell_blk (i := 1) hc1
  have g3 := cell_blk (i := 2) hc1
  have g4 := cell_blk (i := 3) hc1
  have g5 := cell_blk (i := 4) hc1
  have VC := Lib.hid hc2
  clear hc1 hc2
  go_wp2_with fail
  refine (rtextR (x := c) VC.out Bc (by decide)).mono ?_
  rintro e w7 ⟨hb, rfl⟩
  have SP := Lib.hid (And.intro (SP.out.1.keep hb) (SP.out.2.keep hb))
  clear hb VC g1 g2 g3 g4 g5
  go_wp2_with fail
  refine (parseR (c := c) _ Bc).mono ?_
  rintro e w8 ⟨hb, v8, rfl, h8⟩
  obtain ⟨s8, x8, p8, y8, q8, rfl⟩ := h8.agg
  have S1 := SP.out.1.keep hb
  have P1 := SP.out.2.keep hb
  have S := Lib.hid (show T6s w y z c d w1.heap.size w2.heap.size w3.heap.size w4.heap.size w6.heap.size w8.heap.size (w8.alloc (.cells #[.bool s8, .int .u64 x8, .pointer p8, .int .u64 y8, .pointer q8] 33)) from ⟨Below.thru S1.k S1.k.size (bl1 _ _), S1.a.keep (bl1 _ _), S1.b.keep (bl1 _ _), P1.keep (bl1 _ _), Hq.new h8, S1.c.keep (bl1 _ _), S1.d.keep (bl1 _ _)⟩)
  clear SP S1 P1 hb h8
  obtain ⟨bz, hbz⟩ : ∃ bz, bz = decide (y = z) := ⟨_, rfl⟩
  obtain ⟨bq, hbq⟩ : ∃ bq, bq = decide (c = d) := ⟨_, rfl⟩
  have HBZ := Lib.hid hbz; have HBQ := Lib.hid hbq
  clear hbz hbq
  go_upto_region 7 with fail
  go_cut [8] (fun v wc => v = .bool true ∧ T6s w y z c d w1.heap.size w2.heap.size w3.heap.size w4.heap.size w6.heap.size w8.heap.size wc)
  case first =>
    rename_i J K' hJ hK
    have T1 : (sgnZ y y == 0) = true := by rw [sgnZ_eq]; simp
    have T2 : (cmpQ c c == 0) = true := by rw [cmpQ_eq]; simp
    have T3 : (sgnZ y z == 0) = bz := by rw [sgnZ_eq, HBZ.out]
    have T4 : decide (txt y = txt z) = bz := by rw [txt_eq, HBZ.out]
    have T5 : (bz == bz) = true := by simp
    have T6 : (cmpQ c d == 0) = bq := by rw [cmpQ_eq, HBQ.out]
    have T7 : decide (txtR c.num c.den = txtR d.num d.den) = bq := by rw [txtR_eq, HBQ.out]
    have T8 : (bq == bq) = true := by simp
    refine wp_region_kd DR7 (tabR7 y z c d bz bq) (T6s w y z c d w1.heap.size w2.heap.size w3.heap.size w4.heap.size w6.heap.size w8.heap.size) (by kernel_rfl) (by kernel_rfl) (by kernel_rfl) (by kernel_rfl) (fun _ _ h hb => h.keep hb) (S.out.keep (Below.refl _ _).drew) ?_ ?_
    ·
      refine .cons (fun f w' hI hs => ⟨wanted_none rfl, _, rfl, .val (rn_move rfl) ⟨Below.refl _ _, fr_old rfl rfl⟩⟩) ?_
      refine .cons (fun f w' hI hs => ⟨wanted_none rfl, _, rfl, .val (rn_eqlO rfl ((fr_own rfl rfl).trans (hs 53 (by kernel_rfl))) rfl rfl) ⟨Below.refl _ _, rfl⟩⟩) ?_
      refine .cons (fun f w' hI hs => ⟨wanted_none rfl, _, rfl, .val (rn_move rfl) ⟨Below.refl _ _, ((fr_own rfl rfl).trans (hs 54 (by kernel_rfl)))⟩⟩) ?_
      refine .cons (fun f w' hI hs => ⟨wanted_some rfl (by kernel_rfl) rfl rfl (hs 55 (by kernel_rfl)), _, rfl, .val (rn_move rfl) ⟨Below.refl _ _, fr_old rfl rfl⟩⟩) ?_
      refine .cons (fun f w' hI hs => ⟨wanted_some rfl (by kernel_rfl) rfl rfl (hs 55 (by kernel_rfl)), _, rfl, .val (rn_eqlO rfl ((fr_own rfl rfl).trans (hs 56 (by kernel_rfl))) rfl rfl) ⟨Below.refl _ _, rfl⟩⟩) ?_
      refine .cons (fun f w' hI hs => ⟨wanted_none rfl, _, rfl, .val (rn_pick_t rfl ((fr_own rfl rfl).trans (hs 55 (by kernel_rfl)))) ⟨Below.refl _ _, ((fr_own rfl rfl).trans (hs 57 (by kernel_rfl)))⟩⟩) ?_
      refine .cons (fun f w' hI hs => ⟨wanted_none rfl, _, rfl, .val (rn_move rfl) ⟨Below.refl _ _, ((fr_own rfl rfl).trans (hs 58 (by kernel_rfl)))⟩⟩) ?_
      refine .cons (fun f w' hI hs => ?_) ?_
      · obtain ⟨s, x, p, h1, h2⟩ := hI.p
        exact ⟨wanted_some rfl (by kernel_rfl) rfl rfl (hs 59 (by kernel_rfl)), _, rfl, .val (rn_load29 rfl (fr_old rfl rfl) (b3_blk h1)) ⟨Below.refl _ _, h2⟩⟩
      refine .cons (fun f w' hI hs => ?_) ?_
      · obtain ⟨s, x, p, h1, h2⟩ := hI.a
        exact ⟨wanted_some rfl (by kernel_rfl) rfl rfl (hs 59 (by kernel_rfl)), _, rfl, .val (rn_load29 rfl (fr_old rfl rfl) (b3_blk h1)) ⟨Below.refl _ _, h2⟩⟩
      refine .cons (fun f w' hI hs => ⟨wanted_some rfl (by kernel_rfl) rfl rfl (hs 59 (by kernel_rfl)), _, rfl, .call2 rfl cf77 rfl rfl rfl rfl (PSg.kdn (zcmp_any _ _ y y _ (hs 60 (by kernel_rfl)) (hs 61 (by kernel_rfl))))⟩) ?_
      refine .cons (fun f w' hI hs => ⟨wanted_some rfl (by kernel_rfl) rfl rfl (hs 59 (by kernel_rfl)), _, rfl, .val (rn_eqlI rfl ((fr_own rfl rfl).trans (hs 62 (by kernel_rfl))) rfl T1) ⟨Below.refl _ _, rfl⟩⟩) ?_
      refine .cons (fun f w' hI hs => ⟨wanted_none rfl, _, rfl, .val (rn_pick_t rfl ((fr_own rfl rfl).trans (hs 59 (by kernel_rfl)))) ⟨Below.refl _ _, ((fr_own rfl rfl).trans (hs 63 (by kernel_rfl)))⟩⟩) ?_
      refine .cons (fun f w' hI hs => ⟨wanted_none rfl, _, rfl, .val (rn_move rfl) ⟨Below.refl _ _, ((fr_own rfl rfl).trans (hs 64 (by kernel_rfl)))⟩⟩) ?_
      refine .cons (fun f w' hI hs => ?_) ?_
      · obtain ⟨s, x, y, p, q, h1, h2⟩ := hI.q
        exact ⟨wanted_some rfl (by kernel_rfl) rfl rfl (hs 65 (by kernel_rfl)), _, rfl, .val (rn_load61 rfl (fr_old rfl rfl) h1) ⟨Below.refl _ _, h2⟩⟩
      refine .cons (fun f w' hI hs => ?_) ?_
      · obtain ⟨s, x, y, p, q, h1, h2⟩ := hI.c
        exact ⟨wanted_some rfl (by kernel_rfl) rfl rfl (hs 65 (by kernel_rfl)), _, rfl, .val (rn_load61 rfl (fr_old rfl rfl) h1) ⟨Below.refl _ _, h2⟩⟩
      refine .cons (fun f w' hI hs => ⟨wanted_some rfl (by kernel_rfl) rfl rfl (hs 65 (by kernel_rfl)), _, rfl, .call2 rfl cf52 rfl rfl rfl rfl (PCq.kd (rcmpR (a := c) (b := c) (hs 66 (by kernel_rfl)) (hs 67 (by kernel_rfl)) Bc Bc (by decide) (by decide)))⟩) ?_
      refine .cons (fun f w' hI hs => ⟨wanted_some rfl (by kernel_rfl) rfl rfl (hs 65 (by kernel_rfl)), _, rfl, .val (rn_eqlI rfl ((fr_own rfl rfl).trans (hs 68 (by kernel_rfl))) rfl T2) ⟨Below.refl _ _, rfl⟩⟩) ?_
      refine .cons (fun f w' hI hs => ⟨wanted_none rfl, _, rfl, .val (rn_pick_t rfl ((fr_own rfl rfl).trans (hs 65 (by kernel_rfl)))) ⟨Below.refl _ _, ((fr_own rfl rfl).trans (hs 69 (by kernel_rfl)))⟩⟩) ?_
      refine .cons (fun f w' hI hs => ⟨wanted_none rfl, _, rfl, .val (rn_move rfl) ⟨Below.refl _ _, ((fr_own rfl rfl).trans (hs 70 (by kernel_rfl)))⟩⟩) ?_
      refine .cons (fun f w' hI hs => ?_) ?_
      · obtain ⟨s, x, p, h1, h2⟩ := hI.a
        exact ⟨wanted_some rfl (by kernel_rfl) rfl rfl (hs 71 (by kernel_rfl)), _, rfl, .val (rn_load29 rfl (fr_old rfl rfl) (b3_blk h1)) ⟨Below.refl _ _, h2⟩⟩
      refine .cons (fun f w' hI hs => ?_) ?_
      · obtain ⟨s, x, p, h1, h2⟩ := hI.b
        exact ⟨wanted_some rfl (by kernel_rfl) rfl rfl (hs 71 (by kernel_rfl)), _, rfl, .val (rn_load29 rfl (fr_old rfl rfl) (b3_blk h1)) ⟨Below.refl _ _, h2⟩⟩
      refine .cons (fun f w' hI hs => ⟨wanted_some rfl (by kernel_rfl) rfl rfl (hs 71 (by kernel_rfl)), _, rfl, .call2 rfl cf77 rfl rfl rfl rfl (PSg.kdn (zcmp_any _ _ y z _ (hs 72 (by kernel_rfl)) (hs 73 (by kernel_rfl))))⟩) ?_
      refine .cons (fun f w' hI hs => ⟨wanted_some rfl (by kernel_rfl) rfl rfl (hs 71 (by kernel_rfl)), _, rfl, .val (rn_eqlI rfl ((fr_own rfl rfl).trans (hs 74 (by kernel_rfl))) rfl T3) ⟨Below.refl _ _, rfl⟩⟩) ?_
      refine .cons (fun f w' hI hs => ?_) ?_
      · obtain ⟨s, x, p, h1, h2⟩ := hI.a
        exact ⟨wanted_some rfl (by kernel_rfl) rfl rfl (hs 71 (by kernel_rfl)), _, rfl, .val (rn_load29 rfl (fr_old rfl rfl) (b3_blk h1)) ⟨Below.refl _ _, h2⟩⟩
      refine .cons (fun f w' hI hs => ⟨wanted_some rfl (by kernel_rfl) rfl rfl (hs 71 (by kernel_rfl)), _, rfl, .call1 rfl cf79 rfl rfl (PTx.kd (ztextR _ y _ (hs 76 (by kernel_rfl)) (Wk.sz Wy (by decide))))⟩) ?_
      refine .cons (fun f w' hI hs => ?_) ?_
      · obtain ⟨s, x, p, h1, h2⟩ := hI.b
        exact ⟨wanted_some rfl (by kernel_rfl) rfl rfl (hs 71 (by kernel_rfl)), _, rfl, .val (rn_load29 rfl (fr_old rfl rfl) (b3_blk h1)) ⟨Below.refl _ _, h2⟩⟩
      refine .cons (fun f w' hI hs => ⟨wanted_some rfl (by kernel_rfl) rfl rfl (hs 71 (by kernel_rfl)), _, rfl, .call1 rfl cf79 rfl rfl (PTx.kd (ztextR _ z _ (hs 78 (by kernel_rfl)) (Wk.sz Wz (by decide))))⟩) ?_
      refine .cons (fun f w' hI hs => ⟨wanted_some rfl (by kernel_rfl) rfl rfl (hs 71 (by kernel_rfl)), _, rfl, .val (rn_eqlS rfl ((fr_own rfl rfl).trans (hs 77 (by kernel_rfl))) ((fr_own rfl rfl).trans (hs 79 (by kernel_rfl))) T4) ⟨Below.refl _ _, rfl⟩⟩) ?_
      refine .cons (fun f w' hI hs => ⟨wanted_some rfl (by kernel_rfl) rfl rfl (hs 71 (by kernel_rfl)), _, rfl, .val (rn_eql4 rfl ((fr_own rfl rfl).trans (hs 75 (by kernel_rfl))) ((fr_own rfl rfl).trans (hs 80 (by kernel_rfl))) T5) ⟨Below.refl _ _, rfl⟩⟩) ?_
      refine .cons (fun f w' hI hs => ⟨wanted_none rfl, _, rfl, .val (rn_pick_t rfl ((fr_own rfl rfl).trans (hs 71 (by kernel_rfl)))) ⟨Below.refl _ _, ((fr_own rfl rfl).trans (hs 81 (by kernel_rfl)))⟩⟩) ?_
      refine .cons (fun f w' hI hs => ⟨wanted_none rfl, _, rfl, .val (rn_move rfl) ⟨Below.refl _ _, ((fr_own rfl rfl).trans (hs 82 (by kernel_rfl)))⟩⟩) ?_
      refine .cons (fun f w' hI hs => ?_) ?_
      · obtain ⟨s, x, y, p, q, h1, h2⟩ := hI.c
        exact ⟨wanted_some rfl (by kernel_rfl) rfl rfl (hs 83 (by kernel_rfl)), _, rfl, .val (rn_load61 rfl (fr_old rfl rfl) h1) ⟨Below.refl _ _, h2⟩⟩
      refine .cons (fun f w' hI hs => ?_) ?_
      · obtain ⟨s, x, y, p, q, h1, h2⟩ := hI.d
        exact ⟨wanted_some rfl (by kernel_rfl) rfl rfl (hs 83 (by kernel_rfl)), _, rfl, .val (rn_load61 rfl (fr_old rfl rfl) h1) ⟨Below.refl _ _, h2⟩⟩
      refine .cons (fun f w' hI hs => ⟨wanted_some rfl (by kernel_rfl) rfl rfl (hs 83 (by kernel_rfl)), _, rfl, .call2 rfl cf52 rfl rfl rfl rfl (PCq.kd (rcmpR (a := c) (b := d) (hs 84 (by kernel_rfl)) (hs 85 (by kernel_rfl)) Bc Bd (by decide) (by decide)))⟩) ?_
      refine .cons (fun f w' hI hs => ⟨wanted_some rfl (by kernel_rfl) rfl rfl (hs 83 (by kernel_rfl)), _, rfl, .val (rn_eqlI rfl ((fr_own rfl rfl).trans (hs 86 (by kernel_rfl))) rfl T6) ⟨Below.refl _ _, rfl⟩⟩) ?_
      refine .cons (fun f w' hI hs => ?_) ?_
      · obtain ⟨s, x, y, p, q, h1, h2⟩ := hI.c
        exact ⟨wanted_some rfl (by kernel_rfl) rfl rfl (hs 83 (by kernel_rfl)), _, rfl, .val (rn_load61 rfl (fr_old rfl rfl) h1) ⟨Below.refl _ _, h2⟩⟩
      refine .cons (fun f w' hI hs => ⟨wanted_some rfl (by kernel_rfl) rfl rfl (hs 83 (by kernel_rfl)), _, rfl, .call1 rfl cf80 rfl rfl (PTr.kd (rtextR (x := c) (hs 88 (by kernel_rfl)) Bc (by decide)))⟩) ?_
      refine .cons (fun f w' hI hs => ?_) ?_
      · obtain ⟨s, x, y, p, q, h1, h2⟩ := hI.d
        exact ⟨wanted_some rfl (by kernel_rfl) rfl rfl (hs 83 (by kernel_rfl)), _, rfl, .val (rn_load61 rfl (fr_old rfl rfl) h1) ⟨Below.refl _ _, h2⟩⟩
      refine .cons (fun f w' hI hs => ⟨wanted_some rfl (by kernel_rfl) rfl rfl (hs 83 (by kernel_rfl)), _, rfl, .call1 rfl cf80 rfl rfl (PTr.kd (rtextR (x := d) (hs 90 (by kernel_rfl)) Bd (by decide)))⟩) ?_
      refine .cons (fun f w' hI hs => ⟨wanted_some rfl (by kernel_rfl) rfl rfl (hs 83 (by kernel_rfl)), _, rfl, .val (rn_eqlS rfl ((fr_own rfl rfl).trans (hs 89 (by kernel_rfl))) ((fr_own rfl rfl).trans (hs 91 (by kernel_rfl))) T7) ⟨Below.refl _ _, rfl⟩⟩) ?_
      refine .cons (fun f w' hI hs => ⟨wanted_some rfl (by kernel_rfl) rfl rfl (hs 83 (by kernel_rfl)), _, rfl, .val (rn_eql4 rfl ((fr_own rfl rfl).trans (hs 87 (by kernel_rfl))) ((fr_own rfl rfl).trans (hs 92 (by kernel_rfl))) T8) ⟨Below.refl _ _, rfl⟩⟩) ?_
      refine .cons (fun f w' hI hs => ⟨wanted_none rfl, _, rfl, .val (rn_pick_t rfl ((fr_own rfl rfl).trans (hs 83 (by kernel_rfl)))) ⟨Below.refl _ _, ((fr_own rfl rfl).trans (hs 93 (by kernel_rfl)))⟩⟩) ?_
      refine .cons (fun f w' hI hs => ⟨wanted_none rfl, _, rfl, .val (rn_move rfl) ⟨Below.refl _ _, ((fr_own rfl rfl).trans (hs 94 (by kernel_rfl)))⟩⟩) ?_
      refine .cons (fun f w' hI hs => ⟨wanted_some rfl (by kernel_rfl) rfl rfl (hs 95 (by kernel_rfl)), _, rfl, .call0 rfl cf11 (PB.kd (awake_any _))⟩) ?_
      refine .cons (fun f w' hI hs => ⟨wanted_none rfl, _, rfl, .val (rn_pick_t rfl ((fr_own rfl rfl).trans (hs 95 (by kernel_rfl)))) ⟨Below.refl _ _, ((fr_own rfl rfl).trans (hs 96 (by kernel_rfl)))⟩⟩) ?_
      refine .cons (fun f w' hI hs => ⟨wanted_none rfl, _, rfl, .val (rn_assign rfl) ⟨Below.refl _ _, ((fr_own rfl rfl).trans (hs 97 (by kernel_rfl)))⟩⟩) ?_
      exact .nil
    · intro f w' hI hk
      have h8 : f 8 = .bool true := hk 8 (by kernel_rfl)
      refine hK _ _ (Met.intro (hJ _ _ ?_))
      (repeat apply Exists.intro)
      refine ⟨?_, rfl⟩
      exact ⟨h8, hI⟩
  case rest =>
    obtain ⟨rfl, S9⟩ := hcut
    have k9 := S9.k
    clear S9 S
    go_wp2
    go_ret
    exact ⟨k9, rfl⟩
end Go.Proofs.YtjjomjjgoceklaaGreat
