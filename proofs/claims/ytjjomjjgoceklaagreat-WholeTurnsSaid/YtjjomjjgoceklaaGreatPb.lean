import Derived.Test.YtjjomjjgoceklaaGreatKdg
import Derived.Test.YtjjomjjgoceklaaGreatKcg
namespace Go.Proofs.YtjjomjjgoceklaaGreat
set_option maxRecDepth 100000
open Go.RowKit

/-! the law WholeTurns -/
theorem bd_one : Bd9 1 (1 : Rat) := ⟨by decide, by decide⟩
theorem cf15 : CF 15 := fun W args => by go_simp
theorem cf22 : CF 22 := fun W args => by go_simp
theorem cf34 : CF 34 := fun W args => by go_simp
theorem cf36 : CF 36 := fun W args => by go_simp
theorem cf66 : CF 66 := fun W args => by go_simp
theorem cf68 : CF 68 := fun W args => by go_simp
theorem cf70 : CF 70 := fun W args => by go_simp
theorem ofR1 (w : World) : Calls Tryz.prog 22 #[.int .i64 1] w (PRq 1 w) := of_any 1 w (by unfold I64; omega)
theorem floorR {v : Value} {x : Rat} {w : World} {k : Nat} (h : Rr w v x.num x.den) (b : Bd9 k x) (hk : k ≤ 1000) : Calls Tryz.prog 34 #[v] w (PZ (x.num / (x.den : Int)) w) :=
  floor_any v x.num x.den w h (over_all _ _ (b.szn hk) (by have := x.den_pos; omega)) (b.szn hk) (b.szd hk)
theorem ceilR {v : Value} {x : Rat} {w : World} {k : Nat} (h : Rr w v x.num x.den) (b : Bd9 k x) (hk : k ≤ 1000) : Calls Tryz.prog 36 #[v] w (PZ (-(-x.num / (x.den : Int))) w) :=
  ceil_any v x.num x.den w h (over_all _ _ (b.szn hk) (by have := x.den_pos; omega)) (b.szn hk) (b.szd hk)
theorem Ks5.kvv {a b : Rat} : Ks5 (kvv a b) := fun hT h => Vv.store h hT.odd (grown5 _ _ _ _ _ _ _)
theorem cmpQ_le {a b : Rat} (h : a ≤ b) : cmpQ a b ≤ 0 := by
  unfold cmpQ
  split
  · omega
  · split
    · omega
    · rename_i h1 h2
      exact absurd (Rat.lt_iff_le_and_ne.2 ⟨h, h2⟩) h1
theorem cmpQ_lt {a b : Rat} (h : a < b) : cmpQ a b < 0 := by unfold cmpQ; rw [if_pos h]; omega
theorem floor_le (x : Rat) : ((x.num / (x.den : Int) : Int) : Rat) ≤ x := by
  rw [Rat.le_iff]
  have := x.den_pos
  have h := Int.ediv_mul_le x.num (show (x.den : Int) ≠ 0 by omega)
  simpa using h
theorem lt_floor (x : Rat) : x < ((x.num / (x.den : Int) : Int) : Rat) + 1 := by
  have e : ((x.num / (x.den : Int) : Int) : Rat) + 1 = ((x.num / (x.den : Int) + 1 : Int) : Rat) := by simp
  rw [e, Rat.lt_iff]
  have := x.den_pos
  have h := Int.lt_ediv_add_one_mul_self x.num (show 0 < (x.den : Int) by omega)
  show x.num * ((1 : Nat) : Int) < (x.num / (x.den : Int) + 1) * (x.den : Int)
  omega
/-- what WholeTurns keeps in boxes -/
structure U5 (w0 : World) (B : Nat) (a b c d k : Rat) (Ta Tb Tc : Nat) (w : World) : Prop where
  kb : Below w0.heap.size w0 w
  kW : B ≤ w.heap.size ∧ w0.heap.size ≤ B ∧ Ta < B ∧ Tb < B ∧ Tc < B
  u : Hvv Ta a b w
  v : Hvv Tb c d w
  q : Hq Tc k.num k.den w
theorem U5.keep {w0 : World} {B : Nat} {a b c d k : Rat} {Ta Tb Tc : Nat} {w w' : World} (h : U5 w0 B a b c d k Ta Tb Tc w) (hb : Below w.heap.size w w') : U5 w0 B a b c d k Ta Tb Tc w' :=
  ⟨Below.thru h.kb h.kb.size hb, ⟨Nat.le_trans h.kW.1 hb.size, h.kW.2⟩, h.u.keep hb, h.v.keep hb, h.q.keep hb⟩
theorem U5.put {w0 : World} {B : Nat} {a b c d k : Rat} {Ta Tb Tc T : Nat} {w : World} (h : U5 w0 B a b c d k Ta Tb Tc w) (hT : B ≤ T) (hq : Rq T w) (v0 v1 v2 v3 v4 : Value) : U5 w0 B a b c d k Ta Tb Tc (st5 w T v0 v1 v2 v3 v4) := by
  have hg := grown5 w T v0 v1 v2 v3 v4
  have := h.kW
  exact ⟨below5 h.kb (by omega) _ _ _ _ _, ⟨Nat.le_trans h.kW.1 hg.size, h.kW.2⟩, h.u.st hq.odd hg (by omega), h.v.st hq.odd hg (by omega), h.q.st hq.odd hg (by omega)⟩
structure U7 (w0 : World) (B : Nat) (a b c d k D E : Rat) (Ta Tb Tc T1 T2 : Nat) (w : World) : Prop where
  f : U5 w0 B a b c d k Ta Tb Tc w
  d : Hq T1 D.num D.den w
  e : Hq T2 E.num E.den w
theorem U7.keep {w0 : World} {B : Nat} {a b c d k D E : Rat} {Ta Tb Tc T1 T2 : Nat} {w w' : World} (h : U7 w0 B a b c d k D E Ta Tb Tc T1 T2 w) (hb : Below w.heap.size w w') : U7 w0 B a b c d k D E Ta Tb Tc T1 T2 w' := ⟨h.f.keep hb, h.d.keep hb, h.e.keep hb⟩
structure U8 (w0 : World) (B : Nat) (a b c d k h0 : Rat) (Ta Tb Tc T : Nat) (w : World) : Prop where
  f : U5 w0 B a b c d k Ta Tb Tc w
  h : Hq T h0.num h0.den w
theorem U8.keep {w0 : World} {B : Nat} {a b c d k h0 : Rat} {Ta Tb Tc T : Nat} {w w' : World} (h : U8 w0 B a b c d k h0 Ta Tb Tc T w) (hb : Below w.heap.size w w') : U8 w0 B a b c d k h0 Ta Tb Tc T w' := ⟨h.f.keep hb, h.h.keep hb⟩
def alO4 (t : Nat) : Bool := Nat.beq t 17 || Nat.beq t 18
def tabO4 (B : Nat) (a b c d : Rat) (tt : Nat) : Kd := if tt = 17 then (kbq B) else if tt = 18 then (kbq B) else [kvv a b, kvv c d, .q ((a * c) + (b * d)).num ((a * c) + (b * d)).den, kvv a b, kvv c d, .q ((a * d) - (b * c)).num ((a * d) - (b * c)).den].getD (tt - 37) .any
def DO4 (t : Nat) : Bool := Nat.beq t 17 || Nat.beq t 18 || (Nat.ble 37 t && Nat.ble t 42)
def tabO5 (a b c d k : Rat) (tt : Nat) : Kd := [.q ((a * c) + (b * d)).num ((a * c) + (b * d)).den, .q ((a * c) + (b * d)).num ((a * c) + (b * d)).den, .q (((a * c) + (b * d)) * ((a * c) + (b * d))).num (((a * c) + (b * d)) * ((a * c) + (b * d))).den, .q ((a * d) - (b * c)).num ((a * d) - (b * c)).den, .q ((a * d) - (b * c)).num ((a * d) - (b * c)).den, .q (((a * d) - (b * c)) * ((a * d) - (b * c))).num (((a * d) - (b * c)) * ((a * d) - (b * c))).den, .q ((((a * c) + (b * d)) * ((a * c) + (b * d))) + (((a * d) - (b * c)) * ((a * d) - (b * c)))).num ((((a * c) + (b * d)) * ((a * c) + (b * d))) + (((a * d) - (b * c)) * ((a * d) - (b * c)))).den, kvv a b, kvv a b, .q ((a * a) + (b * b)).num ((a * a) + (b * b)).den, kvv c d, kvv c d, .q ((c * c) + (d * d)).num ((c * c) + (d * d)).den, .q (((a * a) + (b * b)) * ((c * c) + (d * d))).num (((a * a) + (b * b)) * ((c * c) + (d * d))).den, (ki (cmpQ ((((a * c) + (b * d)) * ((a * c) + (b * d))) + (((a * d) - (b * c)) * ((a * d) - (b * c)))) (((a * a) + (b * b)) * ((c * c) + (d * d))))), (.v (.bool false)), (.v (.bool false)), kvv a b, kvv a b, .q k.num k.den, kvv (a * k) (b * k), .q ((a * (b * k)) - (b * (a * k))).num ((a * (b * k)) - (b * (a * k))).den, (ki ((a * (b * k)) - (b * (a * k))).num.sign), (.v (.bool false)), (.v (.bool false)), (.v (.bool false)), .q ((a * d) - (b * c)).num ((a * d) - (b * c)).den, kvv c d, kvv a b, .q ((c * b) - (d * a)).num ((c * b) - (d * a)).den, .q (-((c * b) - (d * a))).num (-((c * b) - (d * a))).den, (ki (cmpQ ((a * d) - (b * c)) (-((c * b) - (d * a))))), (.v (.bool false)), (.v (.bool false))].getD (tt - 43) .any
def DO5 (t : Nat) : Bool := (Nat.ble 43 t && Nat.ble t 76)
def tabO8 (k fl : Rat) (tt : Nat) : Kd := if tt = 10 then (.v (.bool true)) else [.q fl.num fl.den, .q k.num k.den, (ki (cmpQ fl k)), (.v (.bool true)), (.v (.bool true)), .q k.num k.den, .q fl.num fl.den, .q (1 : Rat).num (1 : Rat).den, .q (fl + (1 : Rat)).num (fl + (1 : Rat)).den, (ki (cmpQ k (fl + (1 : Rat)))), (.v (.bool true)), (.v (.bool true)), (.v (.bool true)), .q k.num k.den, .z (-(-k.num / (k.den : Int))), .q k.num k.den, .q (-k).num (-k).den, .z ((-k).num / ((-k).den : Int)), .z (-((-k).num / ((-k).den : Int))), (ki (sgnZ (-(-k.num / (k.den : Int))) (-((-k).num / ((-k).den : Int))))), (.v (.bool true)), (.v (.bool true)), (.v (.bool true)), (.v (.bool true)), (.v (.bool true))].getD (tt - 80) .any
def DO8 (t : Nat) : Bool := Nat.beq t 10 || (Nat.ble 80 t && Nat.ble t 104)
theorem kO4 {B : Nat} {a b c d : Rat} (t : Nat) : Ks5 (tabO4 B a b c d t) := by
  unfold tabO4
  split
  · exact Ks5.kbq
  · split
    · exact Ks5.kbq
    · exact Ks5.getD (by simp only [List.forall_mem_cons]; exact ⟨Ks5.kvv, Ks5.kvv, Ks5.q, Ks5.kvv, Ks5.kvv, Ks5.q, fun _ h => by cases h⟩) _
set_option maxHeartbeats 6400000 in
theorem turns_any (N1 D1 N2 D2 N3 D3 N4 D4 N5 D5 : Int) (w : World) (hN1 : I64 N1) (hD1 : I64 D1) (hN2 : I64 N2) (hD2 : I64 D2) (hN3 : I64 N3) (hD3 : I64 D3) (hN4 : I64 N4) (hD4 : I64 D4) (hN5 : I64 N5) (hD5 : I64 D5) : Calls Tryz.prog 10 #[.agg #[.int .i64 N1, .int .i64 D1], .agg #[.int .i64 N2, .int .i64 D2], .agg #[.int .i64 N3, .int .i64 D3], .agg #[.int .i64 N4, .int .i64 D4], .agg #[.int .i64 N5, .int .i64 D5]] w (PB true w) := by
  obtain ⟨a, Ba, ca⟩ := both_all N1 D1 hN1 hD1
  obtain ⟨b, Bb, cb⟩ := both_all N2 D2 hN2 hD2
  obtain ⟨c, Bc, cc⟩ := both_all N3 D3 hN3 hD3
  obtain ⟨d, Bd, cd⟩ := both_all N4 D4 hN4 hD4
  obtain ⟨k, Bk, ck⟩ := both_all N5 D5 hN5 hD5
  have P1 := Lib.hid (fun W => pair_r N1 D1 N2 D2 a b W ca cb)
  have P2 := Lib.hid (fun W => pair_r N3 D3 N4 D4 c d W cc cd)
  have CK := Lib.hid ck
  have k0 : Below w.heap.size w (((((w.alloc (.cells #[.int .i64 N1, .int .i64 D1] 65)).alloc (.cells #[.int .i64 N2, .int .i64 D2] 65)).alloc (.cells #[.int .i64 N3, .int .i64 D3] 65)).alloc (.cells #[.int .i64 N4, .int .i64 D4] 65)).alloc (.cells #[.int .i64 N5, .int .i64 D5] 65)) := Below.thru (bl3 w (.cells #[.int .i64 N1, .int .i64 D1] 65) (.cells #[.int .i64 N2, .int .i64 D2] 65) (.cells #[.int .i64 N3, .int .i64 D3] 65)) (by simp; omega) (bl2 (((w.alloc (.cells #[.int .i64 N1, .int .i64 D1] 65)).alloc (.cells #[.int .i64 N2, .int .i64 D2] 65)).alloc (.cells #[.int .i64 N3, .int .i64 D3] 65)) (.cells #[.int .i64 N4, .int .i64 D4] 65) (.cells #[.int .i64 N5, .int .i64 D5] 65))
  have X3 : Xn (w.heap.size + 1 + 1) N3 D3 (((((w.alloc (.cells #[.int .i64 N1, .int .i64 D1] 65)).alloc (.cells #[.int .i64 N2, .int .i64 D2] 65)).alloc (.cells #[.int .i64 N3, .int .i64 D3] 65)).alloc (.cells #[.int .i64 N4, .int .i64 D4] 65)).alloc (.cells #[.int .i64 N5, .int .i64 D5] 65)) := blk_al (blk_al (xn_new ((w.alloc (.cells #[.int .i64 N1, .int .i64 D1] 65)).alloc (.cells #[.int .i64 N2, .int .i64 D2] 65)) N3 D3 (by simp)) _) _
  have X4 : Xn (w.heap.size + 1 + 1 + 1) N4 D4 (((((w.alloc (.cells #[.int .i64 N1, .int .i64 D1] 65)).alloc (.cells #[.int .i64 N2, .int .i64 D2] 65)).alloc (.cells #[.int .i64 N3, .int .i64 D3] 65)).alloc (.cells #[.int .i64 N4, .int .i64 D4] 65)).alloc (.cells #[.int .i64 N5, .int .i64 D5] 65)) := blk_al (xn_new (((w.alloc (.cells #[.int .i64 N1, .int .i64 D1] 65)).alloc (.cells #[.int .i64 N2, .int .i64 D2] 65)).alloc (.cells #[.int .i64 N3, .int .i64 D3] 65)) N4 D4 (by simp)) _
  have X5 : Xn (w.heap.size + 1 + 1 + 1 + 1) N5 D5 (((((w.alloc (.cells #[.int .i64 N1, .int .i64 D1] 65)).alloc (.cells #[.int .i64 N2, .int .i64 D2] 65)).alloc (.cells #[.int .i64 N3, .int .i64 D3] 65)).alloc (.cells #[.int .i64 N4, .int .i64 D4] 65)).alloc (.cells #[.int .i64 N5, .int .i64 D5] 65)) := xn_new ((((w.alloc (.cells #[.int .i64 N1, .int .i64 D1] 65)).alloc (.cells #[.int .i64 N2, .int .i64 D2] 65)).alloc (.cells #[.int .i64 N3, .int .i64 D3] 65)).alloc (.cells #[.int .i64 N4, .int .i64 D4] 65)) N5 D5 (by simp)
  have KX := Lib.hid (And.intro k0 (And.intro X3 (And.intro X4 X5)))
  clear ca cb cc cd ck k0 X3 X4 X5
  go_enter Tryz.func10, Tryz.ntmps10
  go_wp2_with fail
  refine (P1.out _).mono ?_
  rintro e w1 ⟨hb, u, v, rfl, hu, hv⟩
  obtain ⟨k0, X3, X4, X5⟩ := KX.out
  obtain ⟨s1, x1, p1, y1, q1, s2, x2, p2, y2, q2, rfl⟩ := hu.agg
  obtain ⟨t1, f1, l1, c1, u1, hh1, m1, cc1, t2, f2, l2, c2, u2, hh2, m2, cc2, rfl⟩ := hv.agg
  have kk := bl2 w1 (.cells #[.bool s1, .int .u64 x1, .pointer p1, .int .u64 y1, .pointer q1, .bool s2, .int .u64 x2, .pointer p2, .int .u64 y2, .pointer q2] 84) (.cells #[.int .i64 t1, .slice f1 l1 c1, .int .i64 u1, .slice hh1 m1 cc1, .int .i64 t2, .slice f2 l2 c2, .int .i64 u2, .slice hh2 m2 cc2] 86)
  have U1 := Lib.hid ((Hvv.new hu).keep (bl1 _ (.cells #[.int .i64 t1, .slice f1 l1 c1, .int .i64 u1, .slice hh1 m1 cc1, .int .i64 t2, .slice f2 l2 c2, .int .i64 u2, .slice hh2 m2 cc2] 86)))
  have k1 := Below.thru k0 k0.size hb
  have KX1 := Lib.hid (And.intro (Below.thru k1 k1.size kk) (And.intro ((X4.keep hb).keep kk) ((X5.keep hb).keep kk)))
  obtain ⟨d1, d2⟩ := ((X3.keep hb).keep kk).cells
  obtain ⟨d3, d4⟩ := ((X4.keep hb).keep kk).cells
  clear hu hv hb k0 k1 kk X3 X4 X5 KX
  go_wp2_with fail
  refine (P2.out _).mono ?_
  rintro e w2 ⟨hb, u, v, rfl, hu, hv⟩
  obtain ⟨k1, X4, X5⟩ := KX1.out
  obtain ⟨s3, x3, p3, y3, q3, s4, x4, p4, y4, q4, rfl⟩ := hu.agg
  obtain ⟨t3, f3, l3, c3, u3, hh3, m3, cc3, t4, f4, l4, c4, u4, hh4, m4, cc4, rfl⟩ := hv.agg
  have kk := bl2 w2 (.cells #[.bool s3, .int .u64 x3, .pointer p3, .int .u64 y3, .pointer q3, .bool s4, .int .u64 x4, .pointer p4, .int .u64 y4, .pointer q4] 84) (.cells #[.int .i64 t3, .slice f3 l3 c3, .int .i64 u3, .slice hh3 m3 cc3, .int .i64 t4, .slice f4 l4 c4, .int .i64 u4, .slice hh4 m4 cc4] 86)
  have z2 : w1.heap.size < w2.heap.size := by have := (U1.out.keep hb).bx.lt; omega
  have U2 := Lib.hid (And.intro ((U1.out.keep hb).keep kk) ((Hvv.new hu).keep (bl1 _ (.cells #[.int .i64 t3, .slice f3 l3 c3, .int .i64 u3, .slice hh3 m3 cc3, .int .i64 t4, .slice f4 l4 c4, .int .i64 u4, .slice hh4 m4 cc4] 86))))
  have k2 := Below.thru k1 k1.size hb
  have K2 := Lib.hid (Below.thru k2 k2.size kk)
  obtain ⟨d5, d6⟩ := ((X5.keep hb).keep kk).cells
  clear hu hv hb k1 k2 kk X4 X5 KX1 d1 d2 d3 d4 U1
  go_wp2_with fail
  refine (CK.out _).mono ?_
  rintro e w3 ⟨hb, u, v, rfl, hu, hv⟩
  obtain ⟨s5, x5, p5, y5, q5, rfl⟩ := hu.agg
  obtain ⟨t5, f5, l5, c5, u5, hh5, m5, cc5, rfl⟩ := hv.agg
  have kk := bl2 w3 (.cells #[.bool s5, .int .u64 x5, .pointer p5, .int .u64 y5, .pointer q5] 33) (.cells #[.int .i64 t5, .slice f5 l5 c5, .int .i64 u5, .slice hh5 m5 cc5] 44)
  have z3 : w2.heap.size < w3.heap.size := by have := (U2.out.2.keep hb).bx.lt; omega
  have k2 := Below.thru K2.out K2.out.size hb
  have S : U5 w (w3.heap.size + 2) a b c d k w1.heap.size w2.heap.size w3.heap.size ((w3.alloc (.cells #[.bool s5, .int .u64 x5, .pointer p5, .int .u64 y5, .pointer q5] 33)).alloc (.cells #[.int .i64 t5, .slice f5 l5 c5, .int .i64 u5, .slice hh5 m5 cc5] 44)) :=
    ⟨Below.thru k2 k2.size kk, ⟨by simp, by have := k2.size; omega, by omega, by omega, by omega⟩, (U2.out.1.keep hb).keep kk, (U2.out.2.keep hb).keep kk, (Hq.new hu).keep (bl1 _ _)⟩
  have S := Lib.hid S
  clear hu hv hb k2 kk K2 d5 d6 U2
  generalize hB : w3.heap.size + 2 = B at S
  have HBS : Hid (∀ {n : Nat}, B ≤ n → B ≤ n) := fun h => h
  go_upto_region 4 with fail
  go_cut [17, 18] (fun u v wc => ∃ T1 T2, u = .pointer (some ⟨T1, 0, none⟩) ∧ v = .pointer (some ⟨T2, 0, none⟩) ∧ U7 w B a b c d k ((a * c) + (b * d)) ((a * d) - (b * c)) w1.heap.size w2.heap.size w3.heap.size T1 T2 wc)
  case first =>
    rename_i J K' hJ hK
    refine wp_region_alf DO4 (tabO4 B a b c d) alO4 8 (fun i f w' => U5 w B a b c d k w1.heap.size w2.heap.size w3.heap.size w' ∧ (9 ≤ i → ∃ T, f 17 = .pointer (some ⟨T, 0, none⟩) ∧ Hq T ((a * c) + (b * d)).num ((a * c) + (b * d)).den w') ∧ (10 ≤ i → ∃ T, f 18 = .pointer (some ⟨T, 0, none⟩) ∧ Hq T ((a * d) - (b * c)).num ((a * d) - (b * c)).den w')) (by kernel_rfl) (by kernel_rfl) (by kernel_rfl) (by kernel_rfl) (by decide) (by kernel_rfl) (fun i f f' w' w'' hI hb he => ⟨hI.1.keep hb, fun h => by
      obtain ⟨T, h1, h2⟩ := hI.2.1 h
      rcases he with he | he
      · omega
      · exact ⟨T, (he 17 rfl).trans h1, h2.keep hb⟩, fun h => by
      obtain ⟨T, h1, h2⟩ := hI.2.2 h
      rcases he with he | he
      · omega
      · exact ⟨T, (he 18 rfl).trans h1, h2.keep hb⟩⟩) (by kernel_rfl) (fun f => ⟨S.out.keep (Below.refl _ _).drew, fun h => absurd h (by decide), fun h => absurd h (by decide)⟩) ?_ ?_ ?_
    ·
      refine .cons (fun j f w' hj hI hs => ?_) ?_
      · obtain ⟨s1, x1, p1, y1, q1, s2, x2, p2, y2, q2, h1, h2⟩ := hI.1.u
        exact ⟨wanted_none rfl, _, rfl, .val (rn_load84 rfl (fr_old rfl rfl) h1) ⟨⟨Below.refl _ _, h2⟩, (fun h => by cases h)⟩⟩
      refine .cons (fun j f w' hj hI hs => ?_) ?_
      · obtain ⟨s1, x1, p1, y1, q1, s2, x2, p2, y2, q2, h1, h2⟩ := hI.1.v
        exact ⟨wanted_none rfl, _, rfl, .val (rn_load84 rfl (fr_old rfl rfl) h1) ⟨⟨Below.refl _ _, h2⟩, (fun h => by cases h)⟩⟩
      refine .cons (fun j f w' hj hI hs => ⟨wanted_none rfl, _, rfl, .call2 rfl cf68 rfl rfl rfl rfl ((PRq.kd (dotR (k := 1) (hs 37 (by kernel_rfl)) (hs 38 (by kernel_rfl)) (Bd9.mono Ba (by decide : 1 ≤ 1)) (Bd9.mono Bb (by decide : 1 ≤ 1)) (Bd9.mono Bc (by decide : 1 ≤ 1)) (Bd9.mono Bd (by decide : 1 ≤ 1)) (by decide))).mono fun _ _ ⟨v, he, hr⟩ => ⟨v, he, hr, (fun h => by cases h)⟩)⟩) ?_
      refine .cons (fun j f w' hj hI hs => ?_) ?_
      · obtain ⟨s1, x1, p1, y1, q1, s2, x2, p2, y2, q2, h1, h2⟩ := hI.1.u
        exact ⟨wanted_none rfl, _, rfl, .val (rn_load84 rfl (fr_old rfl rfl) h1) ⟨⟨Below.refl _ _, h2⟩, (fun h => by cases h)⟩⟩
      refine .cons (fun j f w' hj hI hs => ?_) ?_
      · obtain ⟨s1, x1, p1, y1, q1, s2, x2, p2, y2, q2, h1, h2⟩ := hI.1.v
        exact ⟨wanted_none rfl, _, rfl, .val (rn_load84 rfl (fr_old rfl rfl) h1) ⟨⟨Below.refl _ _, h2⟩, (fun h => by cases h)⟩⟩
      refine .cons (fun j f w' hj hI hs => ⟨wanted_none rfl, _, rfl, .call2 rfl cf70 rfl rfl rfl rfl ((PRq.kd (crossR (k := 1) (hs 40 (by kernel_rfl)) (hs 41 (by kernel_rfl)) (Bd9.mono Ba (by decide : 1 ≤ 1)) (Bd9.mono Bb (by decide : 1 ≤ 1)) (Bd9.mono Bc (by decide : 1 ≤ 1)) (Bd9.mono Bd (by decide : 1 ≤ 1)) (by decide))).mono fun _ _ ⟨v, he, hr⟩ => ⟨v, he, hr, (fun h => by cases h)⟩)⟩) ?_
      refine .cons (fun j f w' hj hI hs => ⟨wanted_none rfl, _, rfl, .val (rn_alloc61 rfl) ⟨⟨bl1 _ _, _, rfl, HBS.out hI.1.kW.1, rq_new _ rfl⟩, fun _ => ⟨rfl, by simp⟩⟩⟩) ?_
      refine .cons (fun j f w' hj hI hs => ⟨wanted_none rfl, _, rfl, .val (rn_alloc61 rfl) ⟨⟨bl1 _ _, _, rfl, HBS.out hI.1.kW.1, rq_new _ rfl⟩, fun _ => ⟨rfl, by simp⟩⟩⟩) ?_
      exact .nil
    · refine .cons (fun f w' hI hs hne => ⟨wanted_none rfl, rfl, ?_⟩) ?_
      · have h1 : Rr w' (f 39) ((a * c) + (b * d)).num ((a * c) + (b * d)).den := (hs 39 (by kernel_rfl))
        obtain ⟨T, e, hT, hz⟩ : ∃ T, f 17 = .pointer (some ⟨T, 0, none⟩) ∧ B ≤ T ∧ Rq T w' := (hs 17 (by kernel_rfl))
        obtain ⟨s8, x8, p8, y8, q8, e1⟩ := h1.agg
        rw [e1] at h1
        exact .skip (rn_store61 rfl ((fr_own rfl rfl).trans e) ((fr_own rfl rfl).trans e1) hz) ⟨⟨⟨hI.1.put hT hz _ _ _ _ _, fun _ => ⟨T, e, Hq.stored hz h1⟩, fun h => absurd h (by decide)⟩, fun t v => (kO4 t) hz⟩, by simp [World.setCell]⟩
      refine .cons (fun f w' hI hs hne => ⟨wanted_none rfl, rfl, ?_⟩) .nil
      have h1 : Rr w' (f 42) ((a * d) - (b * c)).num ((a * d) - (b * c)).den := (hs 42 (by kernel_rfl))
      obtain ⟨T, e, hT, hz⟩ : ∃ T, f 18 = .pointer (some ⟨T, 0, none⟩) ∧ B ≤ T ∧ Rq T w' := (hs 18 (by kernel_rfl))
      obtain ⟨T3, e3, h3⟩ := hI.2.1 (by decide)
      have hne2 : T3 ≠ T := by
        intro e9
        have := hne 17 18 (by kernel_rfl) (by kernel_rfl) rfl rfl (by decide)
        rw [e3, e, e9] at this
        exact this rfl
      obtain ⟨s8, x8, p8, y8, q8, e1⟩ := h1.agg
      rw [e1] at h1
      exact .skip (rn_store61 rfl ((fr_own rfl rfl).trans e) ((fr_own rfl rfl).trans e1) hz) ⟨⟨⟨hI.1.put hT hz _ _ _ _ _, fun _ => ⟨T3, e3, h3.st hz.odd (grown5 _ _ _ _ _ _ _) hne2⟩, fun _ => ⟨T, e, Hq.stored hz h1⟩⟩, fun t v => (kO4 t) hz⟩, by simp [World.setCell]⟩
    · intro f w' hI _
      obtain ⟨T1, e1, h1⟩ := hI.2.1 (by decide)
      obtain ⟨T2, e2, h2⟩ := hI.2.2 (by decide)
      refine hK _ _ (Met.intro (hJ _ _ ?_))
      (repeat apply Exists.intro)
      refine ⟨?_, rfl⟩
      exact ⟨T1, T2, e1, e2, hI.1, h1, h2⟩
  case rest =>
    obtain ⟨T1, T2, rfl, rfl, S1⟩ := hcut
    clear S
    have S := Lib.hid S1
    clear S1
    go_upto_region 5 with fail
    go_cut [76] (fun v wc => v = .bool false ∧ U5 w B a b c d k w1.heap.size w2.heap.size w3.heap.size wc)
    case first =>
      rename_i J K' hJ hK
      have T1' : ((((a * c) + (b * d)) * ((a * c) + (b * d))) + (((a * d) - (b * c)) * ((a * d) - (b * c)))) = (((a * a) + (b * b)) * ((c * c) + (d * d))) := by grind
      have T1 : ((cmpQ ((((a * c) + (b * d)) * ((a * c) + (b * d))) + (((a * d) - (b * c)) * ((a * d) - (b * c)))) (((a * a) + (b * b)) * ((c * c) + (d * d)))) != 0) = false := by rw [T1', cmpQ_self]; rfl
      have T2' : ((a * (b * k)) - (b * (a * k))) = 0 := by grind
      have T2 : (((a * (b * k)) - (b * (a * k))).num.sign != 0) = false := by rw [T2']; rfl
      have T3' : (-((c * b) - (d * a))) = ((a * d) - (b * c)) := by grind
      have T3 : ((cmpQ ((a * d) - (b * c)) (-((c * b) - (d * a)))) != 0) = false := by rw [T3', cmpQ_self]; rfl
      refine wp_region_kd DO5 (tabO5 a b c d k) (U7 w B a b c d k ((a * c) + (b * d)) ((a * d) - (b * c)) w1.heap.size w2.heap.size w3.heap.size _ _) (by kernel_rfl) (by kernel_rfl) (by kernel_rfl) (by kernel_rfl) (fun _ _ h hb => h.keep hb) (S.out.keep (Below.refl _ _).drew) ?_ ?_
      ·
        refine .cons (fun f w' hI hs => ?_) ?_
        · obtain ⟨s, x, y, p, q, h1, h2⟩ := hI.d
          exact ⟨wanted_none rfl, _, rfl, .val (rn_load61 rfl (fr_old rfl rfl) h1) ⟨Below.refl _ _, h2⟩⟩
        refine .cons (fun f w' hI hs => ?_) ?_
        · obtain ⟨s, x, y, p, q, h1, h2⟩ := hI.d
          exact ⟨wanted_none rfl, _, rfl, .val (rn_load61 rfl (fr_old rfl rfl) h1) ⟨Below.refl _ _, h2⟩⟩
        refine .cons (fun f w' hI hs => ⟨wanted_none rfl, _, rfl, .call2 rfl cf46 rfl rfl rfl rfl (PRq.kd (rmulR (a := ((a * c) + (b * d))) (b := ((a * c) + (b * d))) (hs 43 (by kernel_rfl)) (hs 44 (by kernel_rfl)) (Bd9.add (Bd9.mul Ba Bc) (Bd9.mul Bb Bd)) (Bd9.add (Bd9.mul Ba Bc) (Bd9.mul Bb Bd)) (by decide)))⟩) ?_
        refine .cons (fun f w' hI hs => ?_) ?_
        · obtain ⟨s, x, y, p, q, h1, h2⟩ := hI.e
          exact ⟨wanted_none rfl, _, rfl, .val (rn_load61 rfl (fr_old rfl rfl) h1) ⟨Below.refl _ _, h2⟩⟩
        refine .cons (fun f w' hI hs => ?_) ?_
        · obtain ⟨s, x, y, p, q, h1, h2⟩ := hI.e
          exact ⟨wanted_none rfl, _, rfl, .val (rn_load61 rfl (fr_old rfl rfl) h1) ⟨Below.refl _ _, h2⟩⟩
        refine .cons (fun f w' hI hs => ⟨wanted_none rfl, _, rfl, .call2 rfl cf46 rfl rfl rfl rfl (PRq.kd (rmulR (a := ((a * d) - (b * c))) (b := ((a * d) - (b * c))) (hs 46 (by kernel_rfl)) (hs 47 (by kernel_rfl)) (Bd9.sub (Bd9.mul Ba Bd) (Bd9.mul Bb Bc)) (Bd9.sub (Bd9.mul Ba Bd) (Bd9.mul Bb Bc)) (by decide)))⟩) ?_
        refine .cons (fun f w' hI hs => ⟨wanted_none rfl, _, rfl, .call2 rfl cf42 rfl rfl rfl rfl (PRq.kd (raddR (a := (((a * c) + (b * d)) * ((a * c) + (b * d)))) (b := (((a * d) - (b * c)) * ((a * d) - (b * c)))) (hs 45 (by kernel_rfl)) (hs 48 (by kernel_rfl)) (Bd9.mul (Bd9.add (Bd9.mul Ba Bc) (Bd9.mul Bb Bd)) (Bd9.add (Bd9.mul Ba Bc) (Bd9.mul Bb Bd))) (Bd9.mul (Bd9.sub (Bd9.mul Ba Bd) (Bd9.mul Bb Bc)) (Bd9.sub (Bd9.mul Ba Bd) (Bd9.mul Bb Bc))) (by decide)))⟩) ?_
        refine .cons (fun f w' hI hs => ?_) ?_
        · obtain ⟨s1, x1, p1, y1, q1, s2, x2, p2, y2, q2, h1, h2⟩ := hI.f.u
          exact ⟨wanted_none rfl, _, rfl, .val (rn_load84 rfl (fr_old rfl rfl) h1) ⟨Below.refl _ _, h2⟩⟩
        refine .cons (fun f w' hI hs => ?_) ?_
        · obtain ⟨s1, x1, p1, y1, q1, s2, x2, p2, y2, q2, h1, h2⟩ := hI.f.u
          exact ⟨wanted_none rfl, _, rfl, .val (rn_load84 rfl (fr_old rfl rfl) h1) ⟨Below.refl _ _, h2⟩⟩
        refine .cons (fun f w' hI hs => ⟨wanted_none rfl, _, rfl, .call2 rfl cf68 rfl rfl rfl rfl (PRq.kd (dotR (k := 1) (hs 50 (by kernel_rfl)) (hs 51 (by kernel_rfl)) (Bd9.mono Ba (by decide : 1 ≤ 1)) (Bd9.mono Bb (by decide : 1 ≤ 1)) (Bd9.mono Ba (by decide : 1 ≤ 1)) (Bd9.mono Bb (by decide : 1 ≤ 1)) (by decide)))⟩) ?_
        refine .cons (fun f w' hI hs => ?_) ?_
        · obtain ⟨s1, x1, p1, y1, q1, s2, x2, p2, y2, q2, h1, h2⟩ := hI.f.v
          exact ⟨wanted_none rfl, _, rfl, .val (rn_load84 rfl (fr_old rfl rfl) h1) ⟨Below.refl _ _, h2⟩⟩
        refine .cons (fun f w' hI hs => ?_) ?_
        · obtain ⟨s1, x1, p1, y1, q1, s2, x2, p2, y2, q2, h1, h2⟩ := hI.f.v
          exact ⟨wanted_none rfl, _, rfl, .val (rn_load84 rfl (fr_old rfl rfl) h1) ⟨Below.refl _ _, h2⟩⟩
        refine .cons (fun f w' hI hs => ⟨wanted_none rfl, _, rfl, .call2 rfl cf68 rfl rfl rfl rfl (PRq.kd (dotR (k := 1) (hs 53 (by kernel_rfl)) (hs 54 (by kernel_rfl)) (Bd9.mono Bc (by decide : 1 ≤ 1)) (Bd9.mono Bd (by decide : 1 ≤ 1)) (Bd9.mono Bc (by decide : 1 ≤ 1)) (Bd9.mono Bd (by decide : 1 ≤ 1)) (by decide)))⟩) ?_
        refine .cons (fun f w' hI hs => ⟨wanted_none rfl, _, rfl, .call2 rfl cf46 rfl rfl rfl rfl (PRq.kd (rmulR (a := ((a * a) + (b * b))) (b := ((c * c) + (d * d))) (hs 52 (by kernel_rfl)) (hs 55 (by kernel_rfl)) (Bd9.add (Bd9.mul Ba Ba) (Bd9.mul Bb Bb)) (Bd9.add (Bd9.mul Bc Bc) (Bd9.mul Bd Bd)) (by decide)))⟩) ?_
        refine .cons (fun f w' hI hs => ⟨wanted_none rfl, _, rfl, .call2 rfl cf52 rfl rfl rfl rfl (PCq.kd (rcmpR (a := ((((a * c) + (b * d)) * ((a * c) + (b * d))) + (((a * d) - (b * c)) * ((a * d) - (b * c))))) (b := (((a * a) + (b * b)) * ((c * c) + (d * d)))) (hs 49 (by kernel_rfl)) (hs 56 (by kernel_rfl)) (Bd9.add (Bd9.mul (Bd9.add (Bd9.mul Ba Bc) (Bd9.mul Bb Bd)) (Bd9.add (Bd9.mul Ba Bc) (Bd9.mul Bb Bd))) (Bd9.mul (Bd9.sub (Bd9.mul Ba Bd) (Bd9.mul Bb Bc)) (Bd9.sub (Bd9.mul Ba Bd) (Bd9.mul Bb Bc)))) (Bd9.mul (Bd9.add (Bd9.mul Ba Ba) (Bd9.mul Bb Bb)) (Bd9.add (Bd9.mul Bc Bc) (Bd9.mul Bd Bd))) (by decide) (by decide)))⟩) ?_
        refine .cons (fun f w' hI hs => ⟨wanted_none rfl, _, rfl, .val (rn_neqI rfl ((fr_own rfl rfl).trans (hs 57 (by kernel_rfl))) rfl T1) ⟨Below.refl _ _, rfl⟩⟩) ?_
        refine .cons (fun f w' hI hs => ⟨wanted_none rfl, _, rfl, .val (rn_move rfl) ⟨Below.refl _ _, ((fr_own rfl rfl).trans (hs 58 (by kernel_rfl)))⟩⟩) ?_
        refine .cons (fun f w' hI hs => ?_) ?_
        · obtain ⟨s1, x1, p1, y1, q1, s2, x2, p2, y2, q2, h1, h2⟩ := hI.f.u
          exact ⟨wanted_some rfl (by kernel_rfl) rfl rfl (hs 59 (by kernel_rfl)), _, rfl, .val (rn_load84 rfl (fr_old rfl rfl) h1) ⟨Below.refl _ _, h2⟩⟩
        refine .cons (fun f w' hI hs => ?_) ?_
        · obtain ⟨s1, x1, p1, y1, q1, s2, x2, p2, y2, q2, h1, h2⟩ := hI.f.u
          exact ⟨wanted_some rfl (by kernel_rfl) rfl rfl (hs 59 (by kernel_rfl)), _, rfl, .val (rn_load84 rfl (fr_old rfl rfl) h1) ⟨Below.refl _ _, h2⟩⟩
        refine .cons (fun f w' hI hs => ?_) ?_
        · obtain ⟨s, x, y, p, q, h1, h2⟩ := hI.f.q
          exact ⟨wanted_some rfl (by kernel_rfl) rfl rfl (hs 59 (by kernel_rfl)), _, rfl, .val (rn_load61 rfl (fr_old rfl rfl) h1) ⟨Below.refl _ _, h2⟩⟩
        refine .cons (fun f w' hI hs => ⟨wanted_some rfl (by kernel_rfl) rfl rfl (hs 59 (by kernel_rfl)), _, rfl, .call2 rfl cf66 rfl rfl rfl rfl (PVv.kd (scale_any _ _ a b k 1 1 _ (hs 61 (by kernel_rfl)) (hs 62 (by kernel_rfl)) Ba Bb Bk (by decide)))⟩) ?_
        refine .cons (fun f w' hI hs => ⟨wanted_some rfl (by kernel_rfl) rfl rfl (hs 59 (by kernel_rfl)), _, rfl, .call2 rfl cf70 rfl rfl rfl rfl (PRq.kd (crossR (k := 2) (hs 60 (by kernel_rfl)) (hs 63 (by kernel_rfl)) (Bd9.mono Ba (by decide : 1 ≤ 2)) (Bd9.mono Bb (by decide : 1 ≤ 2)) (Bd9.mono (Bd9.mul Ba Bk) (by decide : 2 ≤ 2)) (Bd9.mono (Bd9.mul Bb Bk) (by decide : 2 ≤ 2)) (by decide)))⟩) ?_
        refine .cons (fun f w' hI hs => ⟨wanted_some rfl (by kernel_rfl) rfl rfl (hs 59 (by kernel_rfl)), _, rfl, .call1 rfl cf15 rfl rfl (PSi.kdn (rsign_any _ ((a * (b * k)) - (b * (a * k))).num ((a * (b * k)) - (b * (a * k))).den _ (hs 64 (by kernel_rfl))))⟩) ?_
        refine .cons (fun f w' hI hs => ⟨wanted_some rfl (by kernel_rfl) rfl rfl (hs 59 (by kernel_rfl)), _, rfl, .val (rn_neqI rfl ((fr_own rfl rfl).trans (hs 65 (by kernel_rfl))) rfl T2) ⟨Below.refl _ _, rfl⟩⟩) ?_
        refine .cons (fun f w' hI hs => ⟨wanted_none rfl, _, rfl, .val (rn_pick_f rfl ((fr_own rfl rfl).trans (hs 59 (by kernel_rfl)))) ⟨Below.refl _ _, ((fr_own rfl rfl).trans (hs 66 (by kernel_rfl)))⟩⟩) ?_
        refine .cons (fun f w' hI hs => ⟨wanted_none rfl, _, rfl, .val (rn_move rfl) ⟨Below.refl _ _, ((fr_own rfl rfl).trans (hs 67 (by kernel_rfl)))⟩⟩) ?_
        refine .cons (fun f w' hI hs => ?_) ?_
        · obtain ⟨s, x, y, p, q, h1, h2⟩ := hI.e
          exact ⟨wanted_some rfl (by kernel_rfl) rfl rfl (hs 68 (by kernel_rfl)), _, rfl, .val (rn_load61 rfl (fr_old rfl rfl) h1) ⟨Below.refl _ _, h2⟩⟩
        refine .cons (fun f w' hI hs => ?_) ?_
        · obtain ⟨s1, x1, p1, y1, q1, s2, x2, p2, y2, q2, h1, h2⟩ := hI.f.v
          exact ⟨wanted_some rfl (by kernel_rfl) rfl rfl (hs 68 (by kernel_rfl)), _, rfl, .val (rn_load84 rfl (fr_old rfl rfl) h1) ⟨Below.refl _ _, h2⟩⟩
        refine .cons (fun f w' hI hs => ?_) ?_
        · obtain ⟨s1, x1, p1, y1, q1, s2, x2, p2, y2, q2, h1, h2⟩ := hI.f.u
          exact ⟨wanted_some rfl (by kernel_rfl) rfl rfl (hs 68 (by kernel_rfl)), _, rfl, .val (rn_load84 rfl (fr_old rfl rfl) h1) ⟨Below.refl _ _, h2⟩⟩
        refine .cons (fun f w' hI hs => ⟨wanted_some rfl (by kernel_rfl) rfl rfl (hs 68 (by kernel_rfl)), _, rfl, .call2 rfl cf70 rfl rfl rfl rfl (PRq.kd (crossR (k := 1) (hs 70 (by kernel_rfl)) (hs 71 (by kernel_rfl)) (Bd9.mono Bc (by decide : 1 ≤ 1)) (Bd9.mono Bd (by decide : 1 ≤ 1)) (Bd9.mono Ba (by decide : 1 ≤ 1)) (Bd9.mono Bb (by decide : 1 ≤ 1)) (by decide)))⟩) ?_
        refine .cons (fun f w' hI hs => ⟨wanted_some rfl (by kernel_rfl) rfl rfl (hs 68 (by kernel_rfl)), _, rfl, .call1 rfl cf48 rfl rfl (PRq.kd (rnegR (a := ((c * b) - (d * a))) (hs 72 (by kernel_rfl))))⟩) ?_
        refine .cons (fun f w' hI hs => ⟨wanted_some rfl (by kernel_rfl) rfl rfl (hs 68 (by kernel_rfl)), _, rfl, .call2 rfl cf52 rfl rfl rfl rfl (PCq.kd (rcmpR (a := ((a * d) - (b * c))) (b := (-((c * b) - (d * a)))) (hs 69 (by kernel_rfl)) (hs 73 (by kernel_rfl)) (Bd9.sub (Bd9.mul Ba Bd) (Bd9.mul Bb Bc)) (Bd9.neg (Bd9.sub (Bd9.mul Bc Bb) (Bd9.mul Bd Ba))) (by decide) (by decide)))⟩) ?_
        refine .cons (fun f w' hI hs => ⟨wanted_some rfl (by kernel_rfl) rfl rfl (hs 68 (by kernel_rfl)), _, rfl, .val (rn_neqI rfl ((fr_own rfl rfl).trans (hs 74 (by kernel_rfl))) rfl T3) ⟨Below.refl _ _, rfl⟩⟩) ?_
        refine .cons (fun f w' hI hs => ⟨wanted_none rfl, _, rfl, .val (rn_pick_f rfl ((fr_own rfl rfl).trans (hs 68 (by kernel_rfl)))) ⟨Below.refl _ _, ((fr_own rfl rfl).trans (hs 75 (by kernel_rfl)))⟩⟩) ?_
        exact .nil
      · intro f w' hI hk
        have h76 : f 76 = .bool false := hk 76 (by kernel_rfl)
        refine hK _ _ (Met.intro (hJ _ _ ?_))
        (repeat apply Exists.intro)
        refine ⟨?_, rfl⟩
        exact ⟨h76, hI.f⟩
    case rest =>
      obtain ⟨rfl, S1⟩ := hcut
      clear S
      obtain ⟨sk, xk, yk, pk, qk, hk1, hk2⟩ := S1.q
      have g1 := cell_blk (i := 0) hk1
      have g2 := cell_blk (i := 1) hk1
      have g3 := cell_blk (i := 2) hk1
      have g4 := cell_blk (i := 3) hk1
      have g5 := cell_blk (i := 4) hk1
      have VK := Lib.hid hk2
      have S := Lib.hid S1
      clear hk1 hk2 S1
      go_wp2_with fail
      refine (floorR (x := k) VK.out Bk (by decide)).mono ?_
      rintro e w5 ⟨hb5, v5, rfl, h5⟩
      have S := Lib.hid (S.out.keep hb5)
      clear hb5 g1 g2 g3 g4 g5 VK
      go_wp2_with fail
      refine (whole_any _ _ _ h5).mono ?_
      rintro e w6 ⟨hb6, v6, rfl, h6⟩
      obtain ⟨fl, hfl⟩ : ∃ fl : Rat, fl = ((k.num / (k.den : Int) : Int) : Rat) := ⟨_, rfl⟩
      have h6 : Rr w6 v6 fl.num fl.den := by rw [hfl]; exact h6
      obtain ⟨s6, x6, p6, y6, q6, rfl⟩ := h6.agg
      have S := Lib.hid (show U8 w B a b c d k fl w1.heap.size w2.heap.size w3.heap.size w6.heap.size (w6.alloc (.cells #[.bool s6, .int .u64 x6, .pointer p6, .int .u64 y6, .pointer q6] 33)) from ⟨(S.out.keep hb6).keep (bl1 _ _), Hq.new h6⟩)
      have Bf : Bd9 1 fl := by
        rw [hfl]
        refine ⟨Nat.lt_of_le_of_lt (Int.natAbs_ediv_le_natAbs k.num (k.den : Int)) Bk.1, bd_one.2⟩
      have HFL := Lib.hid hfl
      clear hb6 h5 h6 hfl
      go_upto_region 8 with fail
      go_cut [10] (fun v wc => v = .bool true ∧ U8 w B a b c d k fl w1.heap.size w2.heap.size w3.heap.size w6.heap.size wc)
      case first =>
        rename_i J K' hJ hK
        have T4 : decide (cmpQ fl k ≤ 0) = true := by
          rw [decide_eq_true_eq, HFL.out]
          exact cmpQ_le (floor_le k)
        have T5 : decide (cmpQ k (fl + (1 : Rat)) < 0) = true := by
          rw [decide_eq_true_eq, HFL.out]
          exact cmpQ_lt (lt_floor k)
        have T6 : ((sgnZ (-(-k.num / (k.den : Int))) (-((-k).num / ((-k).den : Int)))) == 0) = true := by
          rw [Rat.neg_num, Rat.neg_den, sgnZ_self]; rfl
        refine wp_region_kd DO8 (tabO8 k fl) (U8 w B a b c d k fl w1.heap.size w2.heap.size w3.heap.size w6.heap.size) (by kernel_rfl) (by kernel_rfl) (by kernel_rfl) (by kernel_rfl) (fun _ _ h hb => h.keep hb) (S.out.keep (Below.refl _ _).drew) ?_ ?_
        ·
          refine .cons (fun f w' hI hs => ?_) ?_
          · obtain ⟨s, x, y, p, q, h1, h2⟩ := hI.h
            exact ⟨wanted_none rfl, _, rfl, .val (rn_load61 rfl (fr_old rfl rfl) h1) ⟨Below.refl _ _, h2⟩⟩
          refine .cons (fun f w' hI hs => ?_) ?_
          · obtain ⟨s, x, y, p, q, h1, h2⟩ := hI.f.q
            exact ⟨wanted_none rfl, _, rfl, .val (rn_load61 rfl (fr_old rfl rfl) h1) ⟨Below.refl _ _, h2⟩⟩
          refine .cons (fun f w' hI hs => ⟨wanted_none rfl, _, rfl, .call2 rfl cf52 rfl rfl rfl rfl (PCq.kd (rcmpR (a := fl) (b := k) (hs 80 (by kernel_rfl)) (hs 81 (by kernel_rfl)) Bf Bk (by decide) (by decide)))⟩) ?_
          refine .cons (fun f w' hI hs => ⟨wanted_none rfl, _, rfl, .val (rn_leqI rfl ((fr_own rfl rfl).trans (hs 82 (by kernel_rfl))) rfl T4) ⟨Below.refl _ _, rfl⟩⟩) ?_
          refine .cons (fun f w' hI hs => ⟨wanted_none rfl, _, rfl, .val (rn_move rfl) ⟨Below.refl _ _, ((fr_own rfl rfl).trans (hs 83 (by kernel_rfl)))⟩⟩) ?_
          refine .cons (fun f w' hI hs => ?_) ?_
          · obtain ⟨s, x, y, p, q, h1, h2⟩ := hI.f.q
            exact ⟨wanted_some rfl (by kernel_rfl) rfl rfl (hs 84 (by kernel_rfl)), _, rfl, .val (rn_load61 rfl (fr_old rfl rfl) h1) ⟨Below.refl _ _, h2⟩⟩
          refine .cons (fun f w' hI hs => ?_) ?_
          · obtain ⟨s, x, y, p, q, h1, h2⟩ := hI.h
            exact ⟨wanted_some rfl (by kernel_rfl) rfl rfl (hs 84 (by kernel_rfl)), _, rfl, .val (rn_load61 rfl (fr_old rfl rfl) h1) ⟨Below.refl _ _, h2⟩⟩
          refine .cons (fun f w' hI hs => ⟨wanted_some rfl (by kernel_rfl) rfl rfl (hs 84 (by kernel_rfl)), _, rfl, .callk rfl cf22 (PRq.kd (ofR1 _))⟩) ?_
          refine .cons (fun f w' hI hs => ⟨wanted_some rfl (by kernel_rfl) rfl rfl (hs 84 (by kernel_rfl)), _, rfl, .call2 rfl cf42 rfl rfl rfl rfl (PRq.kd (raddR (a := fl) (b := (1 : Rat)) (hs 86 (by kernel_rfl)) (hs 87 (by kernel_rfl)) Bf bd_one (by decide)))⟩) ?_
          refine .cons (fun f w' hI hs => ⟨wanted_some rfl (by kernel_rfl) rfl rfl (hs 84 (by kernel_rfl)), _, rfl, .call2 rfl cf52 rfl rfl rfl rfl (PCq.kd (rcmpR (a := k) (b := (fl + (1 : Rat))) (hs 85 (by kernel_rfl)) (hs 88 (by kernel_rfl)) Bk (Bd9.add Bf bd_one) (by decide) (by decide)))⟩) ?_
          refine .cons (fun f w' hI hs => ⟨wanted_some rfl (by kernel_rfl) rfl rfl (hs 84 (by kernel_rfl)), _, rfl, .val (rn_lssI rfl ((fr_own rfl rfl).trans (hs 89 (by kernel_rfl))) rfl T5) ⟨Below.refl _ _, rfl⟩⟩) ?_
          refine .cons (fun f w' hI hs => ⟨wanted_none rfl, _, rfl, .val (rn_pick_t rfl ((fr_own rfl rfl).trans (hs 84 (by kernel_rfl)))) ⟨Below.refl _ _, ((fr_own rfl rfl).trans (hs 90 (by kernel_rfl)))⟩⟩) ?_
          refine .cons (fun f w' hI hs => ⟨wanted_none rfl, _, rfl, .val (rn_move rfl) ⟨Below.refl _ _, ((fr_own rfl rfl).trans (hs 91 (by kernel_rfl)))⟩⟩) ?_
          refine .cons (fun f w' hI hs => ?_) ?_
          · obtain ⟨s, x, y, p, q, h1, h2⟩ := hI.f.q
            exact ⟨wanted_some rfl (by kernel_rfl) rfl rfl (hs 92 (by kernel_rfl)), _, rfl, .val (rn_load61 rfl (fr_old rfl rfl) h1) ⟨Below.refl _ _, h2⟩⟩
          refine .cons (fun f w' hI hs => ⟨wanted_some rfl (by kernel_rfl) rfl rfl (hs 92 (by kernel_rfl)), _, rfl, .call1 rfl cf36 rfl rfl (PZ.kd (ceilR (x := k) (hs 93 (by kernel_rfl)) Bk (by decide)))⟩) ?_
          refine .cons (fun f w' hI hs => ?_) ?_
          · obtain ⟨s, x, y, p, q, h1, h2⟩ := hI.f.q
            exact ⟨wanted_some rfl (by kernel_rfl) rfl rfl (hs 92 (by kernel_rfl)), _, rfl, .val (rn_load61 rfl (fr_old rfl rfl) h1) ⟨Below.refl _ _, h2⟩⟩
          refine .cons (fun f w' hI hs => ⟨wanted_some rfl (by kernel_rfl) rfl rfl (hs 92 (by kernel_rfl)), _, rfl, .call1 rfl cf48 rfl rfl (PRq.kd (rnegR (a := k) (hs 95 (by kernel_rfl))))⟩) ?_
          refine .cons (fun f w' hI hs => ⟨wanted_some rfl (by kernel_rfl) rfl rfl (hs 92 (by kernel_rfl)), _, rfl, .call1 rfl cf34 rfl rfl (PZ.kd (floorR (x := (-k)) (hs 96 (by kernel_rfl)) (Bd9.neg Bk) (by decide)))⟩) ?_
          refine .cons (fun f w' hI hs => ⟨wanted_some rfl (by kernel_rfl) rfl rfl (hs 92 (by kernel_rfl)), _, rfl, .call1 rfl cf81 rfl rfl (PZ.kd (neg_any _ ((-k).num / ((-k).den : Int)) _ (hs 97 (by kernel_rfl))))⟩) ?_
          refine .cons (fun f w' hI hs => ⟨wanted_some rfl (by kernel_rfl) rfl rfl (hs 92 (by kernel_rfl)), _, rfl, .call2 rfl cf77 rfl rfl rfl rfl (PSg.kdn (zcmp_any _ _ (-(-k.num / (k.den : Int))) (-((-k).num / ((-k).den : Int))) _ (hs 94 (by kernel_rfl)) (hs 98 (by kernel_rfl))))⟩) ?_
          refine .cons (fun f w' hI hs => ⟨wanted_some rfl (by kernel_rfl) rfl rfl (hs 92 (by kernel_rfl)), _, rfl, .val (rn_eqlI rfl ((fr_own rfl rfl).trans (hs 99 (by kernel_rfl))) rfl T6) ⟨Below.refl _ _, rfl⟩⟩) ?_
          refine .cons (fun f w' hI hs => ⟨wanted_none rfl, _, rfl, .val (rn_pick_t rfl ((fr_own rfl rfl).trans (hs 92 (by kernel_rfl)))) ⟨Below.refl _ _, ((fr_own rfl rfl).trans (hs 100 (by kernel_rfl)))⟩⟩) ?_
          refine .cons (fun f w' hI hs => ⟨wanted_none rfl, _, rfl, .val (rn_move rfl) ⟨Below.refl _ _, ((fr_own rfl rfl).trans (hs 101 (by kernel_rfl)))⟩⟩) ?_
          refine .cons (fun f w' hI hs => ⟨wanted_some rfl (by kernel_rfl) rfl rfl (hs 102 (by kernel_rfl)), _, rfl, .call0 rfl cf11 (PB.kd (awake_any _))⟩) ?_
          refine .cons (fun f w' hI hs => ⟨wanted_none rfl, _, rfl, .val (rn_pick_t rfl ((fr_own rfl rfl).trans (hs 102 (by kernel_rfl)))) ⟨Below.refl _ _, ((fr_own rfl rfl).trans (hs 103 (by kernel_rfl)))⟩⟩) ?_
          refine .cons (fun f w' hI hs => ⟨wanted_none rfl, _, rfl, .val (rn_assign rfl) ⟨Below.refl _ _, ((fr_own rfl rfl).trans (hs 104 (by kernel_rfl)))⟩⟩) ?_
          exact .nil
        · intro f w' hI hk
          have h10 : f 10 = .bool true := hk 10 (by kernel_rfl)
          refine hK _ _ (Met.intro (hJ _ _ ?_))
          (repeat apply Exists.intro)
          refine ⟨?_, rfl⟩
          exact ⟨h10, hI⟩
      case rest =>
        obtain ⟨rfl, S9⟩ := hcut
        have k9 := S9.f.kb
        clear S9 S
        go_wp2
        go_ret
        exact ⟨k9, rfl⟩
end Go.Proofs.YtjjomjjgoceklaaGreat
