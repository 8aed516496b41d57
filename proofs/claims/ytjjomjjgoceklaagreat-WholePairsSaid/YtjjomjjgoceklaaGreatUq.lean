import Derived.Test.YtjjomjjgoceklaaGreatUp
namespace Go.Proofs.YtjjomjjgoceklaaGreat
set_option maxRecDepth 100000
open Go.RowKit

/-! the law WholePairs -/
theorem cf61 : CF 61 := fun W args => by go_simp
theorem cf62 : CF 62 := fun W args => by go_simp
theorem cf63 : CF 63 := fun W args => by go_simp
theorem cf64 : CF 64 := fun W args => by go_simp
theorem cf65 : CF 65 := fun W args => by go_simp
theorem cf66 : CF 66 := fun W args => by go_simp
theorem cf67 : CF 67 := fun W args => by go_simp
theorem cf68 : CF 68 := fun W args => by go_simp
theorem cf69 : CF 69 := fun W args => by go_simp
theorem cf70 : CF 70 := fun W args => by go_simp
theorem cf71 : CF 71 := fun W args => by go_simp
theorem cf72 : CF 72 := fun W args => by go_simp
theorem cf73 : CF 73 := fun W args => by go_simp
theorem cf74 : CF 74 := fun W args => by go_simp
theorem cf75 : CF 75 := fun W args => by go_simp
theorem PSt.kdp {b : ByteArray} {w : World} {g : FuncId} {args : Array Value} (h : Calls Tryz.prog g args w (PSt b w)) : Calls Tryz.prog g args w fun e w' => ∃ v, e = .returned v ∧ (Below w.heap.size w w' ∧ Go.Proofs.YtjjomjjgoceklaaGreat.kd (.v (.string b)) v w') := h.mono fun _ _ ⟨hb, he⟩ => ⟨_, he, hb, rfl⟩
theorem rn_eql4p {ρ : Operand → Value} {o : Oper} {w : World} {t c : Operand} {a b r : Bool} (ho : o.op = .binOp .eql 4 t c 4) (h1 : ρ t = .bool a) (h2 : ρ c = .bool b) (hc : (a == b) = r) : (execOp ρ o).run Tryz.prog w = .ok (.value (.bool r)) w := by
  subst hc; unfold execOp; rw [ho]; simp [go_sem, h1, h2]
theorem vtextq_any (v : Value) (a b : Rat) (k : Nat) (w : World) (h : Vv w v a b) (ba : Bd9 k a) (bb : Bd9 k b) (hk : k ≤ 1000) : Calls Tryz.prog 74 #[v] w (PSt (txtV a.num a.den b.num b.den) w) := by
  obtain ⟨s1, x1, p1, y1, q1, s2, x2, p2, y2, q2, rfl, h1, h2⟩ := h
  exact vtext_any _ _ _ _ _ _ _ _ _ _ a.num b.num a.den b.den w h1 h2 (grC_any _ (ba.szn hk)) (sz_nd (ba.szn hk)) (grC_any _ (ba.szd hk)) (sz_nd (ba.szd hk)) (grC_any _ (bb.szn hk)) (sz_nd (bb.szn hk)) (grC_any _ (bb.szd hk)) (sz_nd (bb.szd hk))
structure U6 (w0 : World) (a b c d k : Rat) (T1 T2 T3 : Nat) (w : World) : Prop where
  kb : Below w0.heap.size w0 w
  u : Hvv T1 a b w
  p : HVA (T1 + 1) a b w
  v : Hvv T2 c d w
  q : HVA (T2 + 1) c d w
  kq : Hq T3 k.num k.den w
  r : HA (T3 + 1) k w
theorem U6.keep {w0 : World} {a b c d k : Rat} {T1 T2 T3 : Nat} {w w' : World} (h : U6 w0 a b c d k T1 T2 T3 w) (hb : Below w.heap.size w w') : U6 w0 a b c d k T1 T2 T3 w' :=
  ⟨Below.thru h.kb h.kb.size hb, h.u.keep hb, h.p.keep hb, h.v.keep hb, h.q.keep hb, h.kq.keep hb, h.r.keep hb⟩
def tabI7 (a b c d k : Rat) (tt : Nat) : Kd := if tt = 10 then (.v (.bool true)) else [(kvv a b), (kvv c d), (kvv (a + c) (b + d)), (kva a b), (kva c d), (kva (a + c) (b + d)), (.v (.bool true)), (.v (.bool true)), (kvv a b), (kvv c d), (kvv (a - c) (b - d)), (kva a b), (kva c d), (kva (a - c) (b - d)), (.v (.bool true)), (.v (.bool true)), (.v (.bool true)), (kvv a b), .q k.num k.den, (kvv (a * k) (b * k)), (kva a b), (kra k), (kva (a * k) (b * k)), (.v (.bool true)), (.v (.bool true)), (.v (.bool true)), (kvv a b), (kvv c d), .q ((a * c) + (b * d)).num ((a * c) + (b * d)).den, (kva a b), (kva c d), (kra ((a * c) + (b * d))), (.v (.bool true)), (.v (.bool true)), (.v (.bool true)), (kvv a b), (kvv c d), .q ((a * d) - (b * c)).num ((a * d) - (b * c)).den, (kva a b), (kva c d), (kra ((a * d) - (b * c))), (.v (.bool true)), (.v (.bool true)), (.v (.bool true)), (kvv a b), (kvv c d), (.v (.bool ((cmpQ a c == 0) && (cmpQ b d == 0)))), (kva a b), (kva c d), (.v (.bool ((cmpQ a c == 0) && (cmpQ b d == 0)))), (.v (.bool true)), (.v (.bool true)), (.v (.bool true)), (kvv a b), (.v (.string (txtV a.num a.den b.num b.den))), (kva a b), (.v (.string (txtV a.num a.den b.num b.den))), (.v (.bool true)), (.v (.bool true)), (.v (.bool true)), (.v (.bool true)), (.v (.bool true))].getD (tt - 34) .any
def DI7 (t : Nat) : Bool := Nat.beq t 10 || (Nat.ble 34 t && Nat.ble t 95)
set_option maxHeartbeats 6400000 in
theorem pairs_any (N1 D1 N2 D2 N3 D3 N4 D4 N5 D5 : Int) (w : World) (hN1 : I64 N1) (hD1 : I64 D1) (hN2 : I64 N2) (hD2 : I64 D2) (hN3 : I64 N3) (hD3 : I64 D3) (hN4 : I64 N4) (hD4 : I64 D4) (hN5 : I64 N5) (hD5 : I64 D5) : Calls Tryz.prog 7 #[.agg #[.int .i64 N1, .int .i64 D1], .agg #[.int .i64 N2, .int .i64 D2], .agg #[.int .i64 N3, .int .i64 D3], .agg #[.int .i64 N4, .int .i64 D4], .agg #[.int .i64 N5, .int .i64 D5]] w (PB true w) := by
  obtain ⟨a, Ba, ca⟩ := both_all N1 D1 hN1 hD1
  obtain ⟨b, Bb, cb⟩ := both_all N2 D2 hN2 hD2
  obtain ⟨c, Bc, cc⟩ := both_all N3 D3 hN3 hD3
  obtain ⟨d, Bd, cd⟩ := both_all N4 D4 hN4 hD4
  obtain ⟨k, Bk, ck⟩ := both_all N5 D5 hN5 hD5
  have P1 := Lib.hid (fun W => pair_r N1 D1 N2 D2 a b W ca cb)
  have P2 := Lib.hid (fun W => pair_r N3 D3 N4 D4 c d W cc cd)
  have CK := Lib.hid ck
  have k0 : Below w.heap.size w (((((w.alloc (.cells #[.int .i64 N1, .int .i64 D1] 65)).alloc (.cells #[.int .i64 N2, .int .i64 D2] 65)).alloc (.cells #[.int .i64 N3, .int .i64 D3] 65)).alloc (.cells #[.int .i64 N4, .int .i64 D4] 65)).alloc (.cells #[.int .i64 N5, .int .i64 D5] 65)) := Below.thru (bl3 w (.cells #[.int .i64 N1, .int .i64 D1] 65) (.cells #[.int .i64 N2, .int .i64 D2] 65) (.cells #[.int .i64 N3, .int .i64 D3] 65)) (by simp; omega) (bl2 (((w.alloc (.cells #[.int .i64 N1, .int .i64 D1] 65)).alloc (.cells #[.int .i64 N2, .int .i64 D2] 65)).alloc (.cells #[.int .i64 N3, .int .i64 D3] 65)) (.cells #[.int .i64 N4, .int .i64 D4] 65) (.cells #[.int .i64 N5, .int .i64 D5] 65))
  have X3 : Xn (w.heap.size + 1 + 1) N3 D3 (((((w.alloc (.cells #[.int .i64 N1, .int .i64 D1] 65)).alloc (.cells #[.int .i64 N2, .int .i64 D2] 65)).alloc (.cells #[.int .i64 N3, .int .i64 D3] 65)).alloc (.cells #[.int .i64 N4, .int .i64 D4] 65)).alloc (.cells #[.int .i64 N5, .int .i64 D5] 65)) := blk_al (blk_al (xn_new ((w.alloc (.cells #[.int .i64 N1, .int .i64 D1] 65)).alloc (.cells #[.int .i64 N2, .int .i64 D2] 65)) N3 D3 (by simp)) _) _
  have X4 : Xn (w.heap.size + 1 + 1 + 1) N4 D4 (((((w.alloc (.cells #[.int .i64 N1, .int .i64 D1] 65)).alloc (.cells #[.int .i64 N2, .int .i64 D2] 65)).alloc (.cells #[.int .i64 N3, .int .i64 D3] 65)).alloc (.cells #[.int .i64 N4, .int .i64 D4] 65)).alloc (.cells #[.int .i64 N5, .int .i64 D5] 65)) := blk_al (xn_new (((w.alloc (.cells #[.int .i64 N1, .int .i64 D1] 65)).alloc (.cells #[.int .i64 N2, .int .i64 D2] 65)).alloc (.cells #[.int .i64 N3, .int .i64 D3] 65)) N4 D4 (by simp)) _
  have X5 : Xn (w.heap.size + 1 + 1 + 1 + 1) N5 D5 (((((w.alloc (.cells #[.int .i64 N1, .int .i64 D1] 65)).alloc (.cells #[.int .i64 N2, .int .i64 D2] 65)).alloc (.cells #[.int .i64 N3, .int .i64 D3] 65)).alloc (.cells #[.int .i64 N4, .int .i64 D4] 65)).alloc (.cells #[.int .i64 N5, .int .i64 D5] 65)) := xn_new ((((w.alloc (.cells #[.int .i64 N1, .int .i64 D1] 65)).alloc (.cells #[.int .i64 N2, .int .i64 D2] 65)).alloc (.cells #[.int .i64 N3, .int .i64 D3] 65)).alloc (.cells #[.int .i64 N4, .int .i64 D4] 65)) N5 D5 (by simp)
  have KX := Lib.hid (And.intro k0 (And.intro X3 (And.intro X4 X5)))
  clear ca cb cc cd ck k0 X3 X4 X5
  go_enter Tryz.func7, Tryz.ntmps7
  go_wp2_with fail
  refine (P1.out _).mono ?_
  rintro e w1 ⟨hb, u, v, rfl, hu, hv⟩
  obtain ⟨k0, X3, X4, X5⟩ := KX.out
  have hva := hv.va
  obtain ⟨s1, x1, p1, y1, q1, s2, x2, p2, y2, q2, rfl⟩ := hu.agg
  obtain ⟨t1, f1, l1, c1, u1, hh1, m1, cc1, t2, f2, l2, c2, u2, hh2, m2, cc2, rfl⟩ := hva.agg
  have kk := bl2 w1 (.cells #[.bool s1, .int .u64 x1, .pointer p1, .int .u64 y1, .pointer q1, .bool s2, .int .u64 x2, .pointer p2, .int .u64 y2, .pointer q2] 84) (.cells #[.int .i64 t1, .slice f1 l1 c1, .int .i64 u1, .slice hh1 m1 cc1, .int .i64 t2, .slice f2 l2 c2, .int .i64 u2, .slice hh2 m2 cc2] 86)
  have A2 := HVA.new (hva.keep (bl1 w1 (.cells #[.bool s1, .int .u64 x1, .pointer p1, .int .u64 y1, .pointer q1, .bool s2, .int .u64 x2, .pointer p2, .int .u64 y2, .pointer q2] 84)) (Nat.le_refl _))
  rw [World.size_alloc] at A2
  have U1 := Lib.hid (And.intro ((Hvv.new hu).keep (bl1 _ (.cells #[.int .i64 t1, .slice f1 l1 c1, .int .i64 u1, .slice hh1 m1 cc1, .int .i64 t2, .slice f2 l2 c2, .int .i64 u2, .slice hh2 m2 cc2] 86))) A2)
  have k1 := Below.thru k0 k0.size hb
  have KX1 := Lib.hid (And.intro (Below.thru k1 k1.size kk) (And.intro ((X4.keep hb).keep kk) ((X5.keep hb).keep kk)))
  obtain ⟨d1, d2⟩ := ((X3.keep hb).keep kk).cells
  obtain ⟨d3, d4⟩ := ((X4.keep hb).keep kk).cells
  clear hu hv hva hb k0 k1 kk X3 X4 X5 KX A2
  go_wp2_with fail
  refine (P2.out _).mono ?_
  rintro e w2 ⟨hb, u, v, rfl, hu, hv⟩
  obtain ⟨k1, X4, X5⟩ := KX1.out
  have hva := hv.va
  obtain ⟨s3, x3, p3, y3, q3, s4, x4, p4, y4, q4, rfl⟩ := hu.agg
  obtain ⟨t3, f3, l3, c3, u3, hh3, m3, cc3, t4, f4, l4, c4, u4, hh4, m4, cc4, rfl⟩ := hva.agg
  have kk := bl2 w2 (.cells #[.bool s3, .int .u64 x3, .pointer p3, .int .u64 y3, .pointer q3, .bool s4, .int .u64 x4, .pointer p4, .int .u64 y4, .pointer q4] 84) (.cells #[.int .i64 t3, .slice f3 l3 c3, .int .i64 u3, .slice hh3 m3 cc3, .int .i64 t4, .slice f4 l4 c4, .int .i64 u4, .slice hh4 m4 cc4] 86)
  have A2 := HVA.new (hva.keep (bl1 w2 (.cells #[.bool s3, .int .u64 x3, .pointer p3, .int .u64 y3, .pointer q3, .bool s4, .int .u64 x4, .pointer p4, .int .u64 y4, .pointer q4] 84)) (Nat.le_refl _))
  rw [World.size_alloc] at A2
  have U2 := Lib.hid (And.intro (And.intro ((U1.out.1.keep hb).keep kk) ((U1.out.2.keep hb).keep kk)) (And.intro ((Hvv.new hu).keep (bl1 _ (.cells #[.int .i64 t3, .slice f3 l3 c3, .int .i64 u3, .slice hh3 m3 cc3, .int .i64 t4, .slice f4 l4 c4, .int .i64 u4, .slice hh4 m4 cc4] 86))) A2))
  have k2 := Below.thru k1 k1.size hb
  have K2 := Lib.hid (Below.thru k2 k2.size kk)
  obtain ⟨d5, d6⟩ := ((X5.keep hb).keep kk).cells
  clear hu hv hva hb k1 k2 kk X4 X5 KX1 d1 d2 d3 d4 U1 A2
  go_wp2_with fail
  refine (CK.out _).mono ?_
  rintro e w3 ⟨hb, u, v, rfl, hu, hv⟩
  obtain ⟨s5, x5, p5, y5, q5, rfl⟩ := hu.agg
  obtain ⟨t5, f5, l5, c5, u5, hh5, m5, cc5, rfl⟩ := hv.agg
  have kk := bl2 w3 (.cells #[.bool s5, .int .u64 x5, .pointer p5, .int .u64 y5, .pointer q5] 33) (.cells #[.int .i64 t5, .slice f5 l5 c5, .int .i64 u5, .slice hh5 m5 cc5] 44)
  have k2 := Below.thru K2.out K2.out.size hb
  have A2 := HA.new (RA.of (hv.keep (bl1 w3 (.cells #[.bool s5, .int .u64 x5, .pointer p5, .int .u64 y5, .pointer q5] 33)) (Nat.le_refl _)))
  rw [World.size_alloc] at A2
  have S : U6 w a b c d k w1.heap.size w2.heap.size w3.heap.size ((w3.alloc (.cells #[.bool s5, .int .u64 x5, .pointer p5, .int .u64 y5, .pointer q5] 33)).alloc (.cells #[.int .i64 t5, .slice f5 l5 c5, .int .i64 u5, .slice hh5 m5 cc5] 44)) :=
    ⟨Below.thru k2 k2.size kk, (U2.out.1.1.keep hb).keep kk, (U2.out.1.2.keep hb).keep kk, (U2.out.2.1.keep hb).keep kk, (U2.out.2.2.keep hb).keep kk, (Hq.new hu).keep (bl1 _ _), A2⟩
  have S := Lib.hid S
  clear hu hv hb k2 kk K2 d5 d6 U2 A2
  go_upto_region 4 with fail
  go_cut [10] (fun v wc => v = .bool true ∧ Below w.heap.size w wc)
  case first =>
    rename_i J K' hJ hK
    have T1 : (((cmpQ a c == 0) && (cmpQ b d == 0)) == ((cmpQ a c == 0) && (cmpQ b d == 0))) = true := by simp
    have T2 : decide ((txtV a.num a.den b.num b.den) = (txtV a.num a.den b.num b.den)) = true := by simp
    refine wp_region_kd DI7 (tabI7 a b c d k) (U6 w a b c d k w1.heap.size w2.heap.size w3.heap.size) (by kernel_rfl) (by kernel_rfl) (by kernel_rfl) (by kernel_rfl) (fun _ _ h hb => h.keep hb) (S.out.keep (Below.refl _ _).drew) ?_ ?_
    ·
      refine .cons (fun f w' hI hs => ?_) ?_
      · obtain ⟨s1, x1, p1, y1, q1, s2, x2, p2, y2, q2, h1, h2⟩ := hI.u
        exact ⟨wanted_none rfl, _, rfl, .val (rn_load84 rfl (fr_old rfl rfl) h1) ⟨Below.refl _ _, h2⟩⟩
      refine .cons (fun f w' hI hs => ?_) ?_
      · obtain ⟨s1, x1, p1, y1, q1, s2, x2, p2, y2, q2, h1, h2⟩ := hI.v
        exact ⟨wanted_none rfl, _, rfl, .val (rn_load84 rfl (fr_old rfl rfl) h1) ⟨Below.refl _ _, h2⟩⟩
      refine .cons (fun f w' hI hs => ⟨wanted_none rfl, _, rfl, .call2 rfl cf62 rfl rfl rfl rfl (PVv.kd (vadd_any _ _ a b c d _ _ _ (hs 34 (by kernel_rfl)) (hs 35 (by kernel_rfl)) Ba Bb Bc Bd (by decide)))⟩) ?_
      refine .cons (fun f w' hI hs => ?_) ?_
      · obtain ⟨t1, f1, l1, c1, u1, hh1, m1, cc1, t2, f2, l2, c2, u2, hh2, m2, cc2, e1, e2, e3⟩ := hI.p
        exact ⟨wanted_none rfl, _, rfl, .val (rn_load86 rfl (fr_old rfl rfl) e1) ⟨Below.refl _ _, t1, f1, l1, c1, u1, hh1, m1, cc1, t2, f2, l2, c2, u2, hh2, m2, cc2, rfl, e2, e3⟩⟩
      refine .cons (fun f w' hI hs => ?_) ?_
      · obtain ⟨t1, f1, l1, c1, u1, hh1, m1, cc1, t2, f2, l2, c2, u2, hh2, m2, cc2, e1, e2, e3⟩ := hI.q
        exact ⟨wanted_none rfl, _, rfl, .val (rn_load86 rfl (fr_old rfl rfl) e1) ⟨Below.refl _ _, t1, f1, l1, c1, u1, hh1, m1, cc1, t2, f2, l2, c2, u2, hh2, m2, cc2, rfl, e2, e3⟩⟩
      refine .cons (fun f w' hI hs => ⟨wanted_none rfl, _, rfl, .call2 rfl cf63 rfl rfl rfl rfl (PVA.kd (vaddr_any _ _ a b c d _ _ _ (hs 37 (by kernel_rfl)) (hs 38 (by kernel_rfl)) Ba Bb Bc Bd (by decide)))⟩) ?_
      refine .cons (fun f w' hI hs => ⟨wanted_none rfl, _, rfl, .call2 rfl cf61 rfl rfl rfl rfl (PB.kd (samev_any _ _ (a + c) (b + d) _ _ (hs 36 (by kernel_rfl)) (hs 39 (by kernel_rfl)) (Bd9.add Ba Bc) (Bd9.add Bb Bd) (by decide)))⟩) ?_
      refine .cons (fun f w' hI hs => ⟨wanted_none rfl, _, rfl, .val (rn_move rfl) ⟨Below.refl _ _, ((fr_own rfl rfl).trans (hs 40 (by kernel_rfl)))⟩⟩) ?_
      refine .cons (fun f w' hI hs => ?_) ?_
      · obtain ⟨s1, x1, p1, y1, q1, s2, x2, p2, y2, q2, h1, h2⟩ := hI.u
        exact ⟨wanted_some rfl (by kernel_rfl) rfl rfl (hs 41 (by kernel_rfl)), _, rfl, .val (rn_load84 rfl (fr_old rfl rfl) h1) ⟨Below.refl _ _, h2⟩⟩
      refine .cons (fun f w' hI hs => ?_) ?_
      · obtain ⟨s1, x1, p1, y1, q1, s2, x2, p2, y2, q2, h1, h2⟩ := hI.v
        exact ⟨wanted_some rfl (by kernel_rfl) rfl rfl (hs 41 (by kernel_rfl)), _, rfl, .val (rn_load84 rfl (fr_old rfl rfl) h1) ⟨Below.refl _ _, h2⟩⟩
      refine .cons (fun f w' hI hs => ⟨wanted_some rfl (by kernel_rfl) rfl rfl (hs 41 (by kernel_rfl)), _, rfl, .call2 rfl cf64 rfl rfl rfl rfl (PVv.kd (vsub_any _ _ a b c d _ _ _ (hs 42 (by kernel_rfl)) (hs 43 (by kernel_rfl)) Ba Bb Bc Bd (by decide)))⟩) ?_
      refine .cons (fun f w' hI hs => ?_) ?_
      · obtain ⟨t1, f1, l1, c1, u1, hh1, m1, cc1, t2, f2, l2, c2, u2, hh2, m2, cc2, e1, e2, e3⟩ := hI.p
        exact ⟨wanted_some rfl (by kernel_rfl) rfl rfl (hs 41 (by kernel_rfl)), _, rfl, .val (rn_load86 rfl (fr_old rfl rfl) e1) ⟨Below.refl _ _, t1, f1, l1, c1, u1, hh1, m1, cc1, t2, f2, l2, c2, u2, hh2, m2, cc2, rfl, e2, e3⟩⟩
      refine .cons (fun f w' hI hs => ?_) ?_
      · obtain ⟨t1, f1, l1, c1, u1, hh1, m1, cc1, t2, f2, l2, c2, u2, hh2, m2, cc2, e1, e2, e3⟩ := hI.q
        exact ⟨wanted_some rfl (by kernel_rfl) rfl rfl (hs 41 (by kernel_rfl)), _, rfl, .val (rn_load86 rfl (fr_old rfl rfl) e1) ⟨Below.refl _ _, t1, f1, l1, c1, u1, hh1, m1, cc1, t2, f2, l2, c2, u2, hh2, m2, cc2, rfl, e2, e3⟩⟩
      refine .cons (fun f w' hI hs => ⟨wanted_some rfl (by kernel_rfl) rfl rfl (hs 41 (by kernel_rfl)), _, rfl, .call2 rfl cf65 rfl rfl rfl rfl (PVA.kd (vsubr_any _ _ a b c d _ _ _ (hs 45 (by kernel_rfl)) (hs 46 (by kernel_rfl)) Ba Bb Bc Bd (by decide)))⟩) ?_
      refine .cons (fun f w' hI hs => ⟨wanted_some rfl (by kernel_rfl) rfl rfl (hs 41 (by kernel_rfl)), _, rfl, .call2 rfl cf61 rfl rfl rfl rfl (PB.kd (samev_any _ _ (a - c) (b - d) _ _ (hs 44 (by kernel_rfl)) (hs 47 (by kernel_rfl)) (Bd9.sub Ba Bc) (Bd9.sub Bb Bd) (by decide)))⟩) ?_
      refine .cons (fun f w' hI hs => ⟨wanted_none rfl, _, rfl, .val (rn_pick_t rfl ((fr_own rfl rfl).trans (hs 41 (by kernel_rfl)))) ⟨Below.refl _ _, ((fr_own rfl rfl).trans (hs 48 (by kernel_rfl)))⟩⟩) ?_
      refine .cons (fun f w' hI hs => ⟨wanted_none rfl, _, rfl, .val (rn_move rfl) ⟨Below.refl _ _, ((fr_own rfl rfl).trans (hs 49 (by kernel_rfl)))⟩⟩) ?_
      refine .cons (fun f w' hI hs => ?_) ?_
      · obtain ⟨s1, x1, p1, y1, q1, s2, x2, p2, y2, q2, h1, h2⟩ := hI.u
        exact ⟨wanted_some rfl (by kernel_rfl) rfl rfl (hs 50 (by kernel_rfl)), _, rfl, .val (rn_load84 rfl (fr_old rfl rfl) h1) ⟨Below.refl _ _, h2⟩⟩
      refine .cons (fun f w' hI hs => ?_) ?_
      · obtain ⟨s, x, y, p, q, h1, h2⟩ := hI.kq
        exact ⟨wanted_some rfl (by kernel_rfl) rfl rfl (hs 50 (by kernel_rfl)), _, rfl, .val (rn_load61 rfl (fr_old rfl rfl) h1) ⟨Below.refl _ _, h2⟩⟩
      refine .cons (fun f w' hI hs => ⟨wanted_some rfl (by kernel_rfl) rfl rfl (hs 50 (by kernel_rfl)), _, rfl, .call2 rfl cf66 rfl rfl rfl rfl (PVv.kd (scale_any _ _ a b k _ _ _ (hs 51 (by kernel_rfl)) (hs 52 (by kernel_rfl)) Ba Bb Bk (by decide)))⟩) ?_
      refine .cons (fun f w' hI hs => ?_) ?_
      · obtain ⟨t1, f1, l1, c1, u1, hh1, m1, cc1, t2, f2, l2, c2, u2, hh2, m2, cc2, e1, e2, e3⟩ := hI.p
        exact ⟨wanted_some rfl (by kernel_rfl) rfl rfl (hs 50 (by kernel_rfl)), _, rfl, .val (rn_load86 rfl (fr_old rfl rfl) e1) ⟨Below.refl _ _, t1, f1, l1, c1, u1, hh1, m1, cc1, t2, f2, l2, c2, u2, hh2, m2, cc2, rfl, e2, e3⟩⟩
      refine .cons (fun f w' hI hs => ?_) ?_
      · obtain ⟨s1, p1, l1, c1, s2, p2, l2, c2, e1, e2, e3⟩ := hI.r
        exact ⟨wanted_some rfl (by kernel_rfl) rfl rfl (hs 50 (by kernel_rfl)), _, rfl, .val (rn_load44 rfl (fr_old rfl rfl) e1) ⟨Below.refl _ _, e2⟩⟩
      refine .cons (fun f w' hI hs => ⟨wanted_some rfl (by kernel_rfl) rfl rfl (hs 50 (by kernel_rfl)), _, rfl, .call2 rfl cf67 rfl rfl rfl rfl (PVA.kd (vscaler_any _ _ a b k _ _ _ (hs 54 (by kernel_rfl)) (hs 55 (by kernel_rfl)) Ba Bb Bk (by decide)))⟩) ?_
      refine .cons (fun f w' hI hs => ⟨wanted_some rfl (by kernel_rfl) rfl rfl (hs 50 (by kernel_rfl)), _, rfl, .call2 rfl cf61 rfl rfl rfl rfl (PB.kd (samev_any _ _ (a * k) (b * k) _ _ (hs 53 (by kernel_rfl)) (hs 56 (by kernel_rfl)) (Bd9.mul Ba Bk) (Bd9.mul Bb Bk) (by decide)))⟩) ?_
      refine .cons (fun f w' hI hs => ⟨wanted_none rfl, _, rfl, .val (rn_pick_t rfl ((fr_own rfl rfl).trans (hs 50 (by kernel_rfl)))) ⟨Below.refl _ _, ((fr_own rfl rfl).trans (hs 57 (by kernel_rfl)))⟩⟩) ?_
      refine .cons (fun f w' hI hs => ⟨wanted_none rfl, _, rfl, .val (rn_move rfl) ⟨Below.refl _ _, ((fr_own rfl rfl).trans (hs 58 (by kernel_rfl)))⟩⟩) ?_
      refine .cons (fun f w' hI hs => ?_) ?_
      · obtain ⟨s1, x1, p1, y1, q1, s2, x2, p2, y2, q2, h1, h2⟩ := hI.u
        exact ⟨wanted_some rfl (by kernel_rfl) rfl rfl (hs 59 (by kernel_rfl)), _, rfl, .val (rn_load84 rfl (fr_old rfl rfl) h1) ⟨Below.refl _ _, h2⟩⟩
      refine .cons (fun f w' hI hs => ?_) ?_
      · obtain ⟨s1, x1, p1, y1, q1, s2, x2, p2, y2, q2, h1, h2⟩ := hI.v
        exact ⟨wanted_some rfl (by kernel_rfl) rfl rfl (hs 59 (by kernel_rfl)), _, rfl, .val (rn_load84 rfl (fr_old rfl rfl) h1) ⟨Below.refl _ _, h2⟩⟩
      refine .cons (fun f w' hI hs => ⟨wanted_some rfl (by kernel_rfl) rfl rfl (hs 59 (by kernel_rfl)), _, rfl, .call2 rfl cf68 rfl rfl rfl rfl (PRq.kd (dotR (k := 1) (hs 60 (by kernel_rfl)) (hs 61 (by kernel_rfl)) Ba Bb Bc Bd (by decide)))⟩) ?_
      refine .cons (fun f w' hI hs => ?_) ?_
      · obtain ⟨t1, f1, l1, c1, u1, hh1, m1, cc1, t2, f2, l2, c2, u2, hh2, m2, cc2, e1, e2, e3⟩ := hI.p
        exact ⟨wanted_some rfl (by kernel_rfl) rfl rfl (hs 59 (by kernel_rfl)), _, rfl, .val (rn_load86 rfl (fr_old rfl rfl) e1) ⟨Below.refl _ _, t1, f1, l1, c1, u1, hh1, m1, cc1, t2, f2, l2, c2, u2, hh2, m2, cc2, rfl, e2, e3⟩⟩
      refine .cons (fun f w' hI hs => ?_) ?_
      · obtain ⟨t1, f1, l1, c1, u1, hh1, m1, cc1, t2, f2, l2, c2, u2, hh2, m2, cc2, e1, e2, e3⟩ := hI.q
        exact ⟨wanted_some rfl (by kernel_rfl) rfl rfl (hs 59 (by kernel_rfl)), _, rfl, .val (rn_load86 rfl (fr_old rfl rfl) e1) ⟨Below.refl _ _, t1, f1, l1, c1, u1, hh1, m1, cc1, t2, f2, l2, c2, u2, hh2, m2, cc2, rfl, e2, e3⟩⟩
      refine .cons (fun f w' hI hs => ⟨wanted_some rfl (by kernel_rfl) rfl rfl (hs 59 (by kernel_rfl)), _, rfl, .call2 rfl cf69 rfl rfl rfl rfl (PRA.kd (vdotr_any _ _ a b c d _ _ _ (hs 63 (by kernel_rfl)) (hs 64 (by kernel_rfl)) Ba Bb Bc Bd (by decide)))⟩) ?_
      refine .cons (fun f w' hI hs => ⟨wanted_some rfl (by kernel_rfl) rfl rfl (hs 59 (by kernel_rfl)), _, rfl, .call2 rfl cf20 rfl rfl rfl rfl (PB.kd (same_any _ _ ((a * c) + (b * d)) _ _ (hs 62 (by kernel_rfl)) (hs 65 (by kernel_rfl)) (Bd9.add (Bd9.mul Ba Bc) (Bd9.mul Bb Bd)) (by decide)))⟩) ?_
      refine .cons (fun f w' hI hs => ⟨wanted_none rfl, _, rfl, .val (rn_pick_t rfl ((fr_own rfl rfl).trans (hs 59 (by kernel_rfl)))) ⟨Below.refl _ _, ((fr_own rfl rfl).trans (hs 66 (by kernel_rfl)))⟩⟩) ?_
      refine .cons (fun f w' hI hs => ⟨wanted_none rfl, _, rfl, .val (rn_move rfl) ⟨Below.refl _ _, ((fr_own rfl rfl).trans (hs 67 (by kernel_rfl)))⟩⟩) ?_
      refine .cons (fun f w' hI hs => ?_) ?_
      · obtain ⟨s1, x1, p1, y1, q1, s2, x2, p2, y2, q2, h1, h2⟩ := hI.u
        exact ⟨wanted_some rfl (by kernel_rfl) rfl rfl (hs 68 (by kernel_rfl)), _, rfl, .val (rn_load84 rfl (fr_old rfl rfl) h1) ⟨Below.refl _ _, h2⟩⟩
      refine .cons (fun f w' hI hs => ?_) ?_
      · obtain ⟨s1, x1, p1, y1, q1, s2, x2, p2, y2, q2, h1, h2⟩ := hI.v
        exact ⟨wanted_some rfl (by kernel_rfl) rfl rfl (hs 68 (by kernel_rfl)), _, rfl, .val (rn_load84 rfl (fr_old rfl rfl) h1) ⟨Below.refl _ _, h2⟩⟩
      refine .cons (fun f w' hI hs => ⟨wanted_some rfl (by kernel_rfl) rfl rfl (hs 68 (by kernel_rfl)), _, rfl, .call2 rfl cf70 rfl rfl rfl rfl (PRq.kd (crossR (k := 1) (hs 69 (by kernel_rfl)) (hs 70 (by kernel_rfl)) Ba Bb Bc Bd (by decide)))⟩) ?_
      refine .cons (fun f w' hI hs => ?_) ?_
      · obtain ⟨t1, f1, l1, c1, u1, hh1, m1, cc1, t2, f2, l2, c2, u2, hh2, m2, cc2, e1, e2, e3⟩ := hI.p
        exact ⟨wanted_some rfl (by kernel_rfl) rfl rfl (hs 68 (by kernel_rfl)), _, rfl, .val (rn_load86 rfl (fr_old rfl rfl) e1) ⟨Below.refl _ _, t1, f1, l1, c1, u1, hh1, m1, cc1, t2, f2, l2, c2, u2, hh2, m2, cc2, rfl, e2, e3⟩⟩
      refine .cons (fun f w' hI hs => ?_) ?_
      · obtain ⟨t1, f1, l1, c1, u1, hh1, m1, cc1, t2, f2, l2, c2, u2, hh2, m2, cc2, e1, e2, e3⟩ := hI.q
        exact ⟨wanted_some rfl (by kernel_rfl) rfl rfl (hs 68 (by kernel_rfl)), _, rfl, .val (rn_load86 rfl (fr_old rfl rfl) e1) ⟨Below.refl _ _, t1, f1, l1, c1, u1, hh1, m1, cc1, t2, f2, l2, c2, u2, hh2, m2, cc2, rfl, e2, e3⟩⟩
      refine .cons (fun f w' hI hs => ⟨wanted_some rfl (by kernel_rfl) rfl rfl (hs 68 (by kernel_rfl)), _, rfl, .call2 rfl cf71 rfl rfl rfl rfl (PRA.kd (vcrossr_any _ _ a b c d _ _ _ (hs 72 (by kernel_rfl)) (hs 73 (by kernel_rfl)) Ba Bb Bc Bd (by decide)))⟩) ?_
      refine .cons (fun f w' hI hs => ⟨wanted_some rfl (by kernel_rfl) rfl rfl (hs 68 (by kernel_rfl)), _, rfl, .call2 rfl cf20 rfl rfl rfl rfl (PB.kd (same_any _ _ ((a * d) - (b * c)) _ _ (hs 71 (by kernel_rfl)) (hs 74 (by kernel_rfl)) (Bd9.sub (Bd9.mul Ba Bd) (Bd9.mul Bb Bc)) (by decide)))⟩) ?_
      refine .cons (fun f w' hI hs => ⟨wanted_none rfl, _, rfl, .val (rn_pick_t rfl ((fr_own rfl rfl).trans (hs 68 (by kernel_rfl)))) ⟨Below.refl _ _, ((fr_own rfl rfl).trans (hs 75 (by kernel_rfl)))⟩⟩) ?_
      refine .cons (fun f w' hI hs => ⟨wanted_none rfl, _, rfl, .val (rn_move rfl) ⟨Below.refl _ _, ((fr_own rfl rfl).trans (hs 76 (by kernel_rfl)))⟩⟩) ?_
      refine .cons (fun f w' hI hs => ?_) ?_
      · obtain ⟨s1, x1, p1, y1, q1, s2, x2, p2, y2, q2, h1, h2⟩ := hI.u
        exact ⟨wanted_some rfl (by kernel_rfl) rfl rfl (hs 77 (by kernel_rfl)), _, rfl, .val (rn_load84 rfl (fr_old rfl rfl) h1) ⟨Below.refl _ _, h2⟩⟩
      refine .cons (fun f w' hI hs => ?_) ?_
      · obtain ⟨s1, x1, p1, y1, q1, s2, x2, p2, y2, q2, h1, h2⟩ := hI.v
        exact ⟨wanted_some rfl (by kernel_rfl) rfl rfl (hs 77 (by kernel_rfl)), _, rfl, .val (rn_load84 rfl (fr_old rfl rfl) h1) ⟨Below.refl _ _, h2⟩⟩
      refine .cons (fun f w' hI hs => ⟨wanted_some rfl (by kernel_rfl) rfl rfl (hs 77 (by kernel_rfl)), _, rfl, .call2 rfl cf72 rfl rfl rfl rfl (PB.kd (vsame_any _ _ a b c d _ _ _ (hs 78 (by kernel_rfl)) (hs 79 (by kernel_rfl)) Ba Bb Bc Bd (by decide)))⟩) ?_
      refine .cons (fun f w' hI hs => ?_) ?_
      · obtain ⟨t1, f1, l1, c1, u1, hh1, m1, cc1, t2, f2, l2, c2, u2, hh2, m2, cc2, e1, e2, e3⟩ := hI.p
        exact ⟨wanted_some rfl (by kernel_rfl) rfl rfl (hs 77 (by kernel_rfl)), _, rfl, .val (rn_load86 rfl (fr_old rfl rfl) e1) ⟨Below.refl _ _, t1, f1, l1, c1, u1, hh1, m1, cc1, t2, f2, l2, c2, u2, hh2, m2, cc2, rfl, e2, e3⟩⟩
      refine .cons (fun f w' hI hs => ?_) ?_
      · obtain ⟨t1, f1, l1, c1, u1, hh1, m1, cc1, t2, f2, l2, c2, u2, hh2, m2, cc2, e1, e2, e3⟩ := hI.q
        exact ⟨wanted_some rfl (by kernel_rfl) rfl rfl (hs 77 (by kernel_rfl)), _, rfl, .val (rn_load86 rfl (fr_old rfl rfl) e1) ⟨Below.refl _ _, t1, f1, l1, c1, u1, hh1, m1, cc1, t2, f2, l2, c2, u2, hh2, m2, cc2, rfl, e2, e3⟩⟩
      refine .cons (fun f w' hI hs => ⟨wanted_some rfl (by kernel_rfl) rfl rfl (hs 77 (by kernel_rfl)), _, rfl, .call2 rfl cf73 rfl rfl rfl rfl (PB.kd (nsame_any _ _ a b c d _ _ _ (hs 81 (by kernel_rfl)) (hs 82 (by kernel_rfl)) Ba Bb Bc Bd (by decide)))⟩) ?_
      refine .cons (fun f w' hI hs => ⟨wanted_some rfl (by kernel_rfl) rfl rfl (hs 77 (by kernel_rfl)), _, rfl, .val (rn_eql4p rfl ((fr_own rfl rfl).trans (hs 80 (by kernel_rfl))) ((fr_own rfl rfl).trans (hs 83 (by kernel_rfl))) T1) ⟨Below.refl _ _, rfl⟩⟩) ?_
      refine .cons (fun f w' hI hs => ⟨wanted_none rfl, _, rfl, .val (rn_pick_t rfl ((fr_own rfl rfl).trans (hs 77 (by kernel_rfl)))) ⟨Below.refl _ _, ((fr_own rfl rfl).trans (hs 84 (by kernel_rfl)))⟩⟩) ?_
      refine .cons (fun f w' hI hs => ⟨wanted_none rfl, _, rfl, .val (rn_move rfl) ⟨Below.refl _ _, ((fr_own rfl rfl).trans (hs 85 (by kernel_rfl)))⟩⟩) ?_
      refine .cons (fun f w' hI hs => ?_) ?_
      · obtain ⟨s1, x1, p1, y1, q1, s2, x2, p2, y2, q2, h1, h2⟩ := hI.u
        exact ⟨wanted_some rfl (by kernel_rfl) rfl rfl (hs 86 (by kernel_rfl)), _, rfl, .val (rn_load84 rfl (fr_old rfl rfl) h1) ⟨Below.refl _ _, h2⟩⟩
      refine .cons (fun f w' hI hs => ⟨wanted_some rfl (by kernel_rfl) rfl rfl (hs 86 (by kernel_rfl)), _, rfl, .call1 rfl cf74 rfl rfl (PSt.kdp (vtextq_any _ a b _ _ (hs 87 (by kernel_rfl)) Ba Bb (by decide)))⟩) ?_
      refine .cons (fun f w' hI hs => ?_) ?_
      · obtain ⟨t1, f1, l1, c1, u1, hh1, m1, cc1, t2, f2, l2, c2, u2, hh2, m2, cc2, e1, e2, e3⟩ := hI.p
        exact ⟨wanted_some rfl (by kernel_rfl) rfl rfl (hs 86 (by kernel_rfl)), _, rfl, .val (rn_load86 rfl (fr_old rfl rfl) e1) ⟨Below.refl _ _, t1, f1, l1, c1, u1, hh1, m1, cc1, t2, f2, l2, c2, u2, hh2, m2, cc2, rfl, e2, e3⟩⟩
      refine .cons (fun f w' hI hs => ⟨wanted_some rfl (by kernel_rfl) rfl rfl (hs 86 (by kernel_rfl)), _, rfl, .call1 rfl cf75 rfl rfl (PSt.kdp (vtextr_any _ a b _ _ (hs 89 (by kernel_rfl)) Ba Bb (by decide)))⟩) ?_
      refine .cons (fun f w' hI hs => ⟨wanted_some rfl (by kernel_rfl) rfl rfl (hs 86 (by kernel_rfl)), _, rfl, .val (rn_eqlT rfl ((fr_own rfl rfl).trans (hs 88 (by kernel_rfl))) ((fr_own rfl rfl).trans (hs 90 (by kernel_rfl))) T2) ⟨Below.refl _ _, rfl⟩⟩) ?_
      refine .cons (fun f w' hI hs => ⟨wanted_none rfl, _, rfl, .val (rn_pick_t rfl ((fr_own rfl rfl).trans (hs 86 (by kernel_rfl)))) ⟨Below.refl _ _, ((fr_own rfl rfl).trans (hs 91 (by kernel_rfl)))⟩⟩) ?_
      refine .cons (fun f w' hI hs => ⟨wanted_none rfl, _, rfl, .val (rn_move rfl) ⟨Below.refl _ _, ((fr_own rfl rfl).trans (hs 92 (by kernel_rfl)))⟩⟩) ?_
      refine .cons (fun f w' hI hs => ⟨wanted_some rfl (by kernel_rfl) rfl rfl (hs 93 (by kernel_rfl)), _, rfl, .call0 rfl cf11 (PB.kd (awake_any _))⟩) ?_
      refine .cons (fun f w' hI hs => ⟨wanted_none rfl, _, rfl, .val (rn_pick_t rfl ((fr_own rfl rfl).trans (hs 93 (by kernel_rfl)))) ⟨Below.refl _ _, ((fr_own rfl rfl).trans (hs 94 (by kernel_rfl)))⟩⟩) ?_
      refine .cons (fun f w' hI hs => ⟨wanted_none rfl, _, rfl, .val (rn_assign rfl) ⟨Below.refl _ _, ((fr_own rfl rfl).trans (hs 95 (by kernel_rfl)))⟩⟩) ?_
      exact .nil
    · intro f w' hI hk
      have h10 : f 10 = .bool true := hk 10 (by kernel_rfl)
      refine hK _ _ (Met.intro (hJ _ _ ?_))
      (repeat apply Exists.intro)
      refine ⟨?_, rfl⟩
      exact ⟨h10, hI.kb⟩
  case rest =>
    obtain ⟨rfl, k9⟩ := hcut
    clear S
    go_wp2
    go_ret
    exact ⟨k9, rfl⟩
end Go.Proofs.YtjjomjjgoceklaaGreat
