import Derived.Test.YtjjomjjgoceklaaGreatTm
import Derived.Test.YtjjomjjgoceklaaGreatKca
import Derived.Test.YtjjomjjgoceklaaGreatTn
import Derived.Test.YtjjomjjgoceklaaGreatTd
import Derived.Test.YtjjomjjgoceklaaGreatTb
namespace Go.Proofs.YtjjomjjgoceklaaGreat
set_option maxRecDepth 100000
open Go.RowKit
section
variable {P : Program} {ops : Array Oper} {Q : Exit → Act → World → Prop}
theorem wp_region_kds {id : Nat} {a0 : Act} {w : World} (D : Nat → Bool) (tab : Nat → Kd) (I : World → Prop) (hm : P.follows .mixedOrders = true) (hback : backB .any ops = true) (hu : uniqB ops = true)
    (hD : (ops.toList.filterMap (·.dst)).all D = true) (hI : ∀ w w', I w → Below w.heap.size w w' → I w') (h0 : I { w with drawn := w.drawn + 1 })
    (hstep : AllFrom (fun i o => ∀ f w, I w → (∀ d, (predD ops i).contains d = true → kd (tab d) (f d) w) → ∃ d, o.dst = some d ∧
      ((Region.wanted o (yielded ops (fr a0 D f).tmps) = true ∧ OpR P o (fr a0 D f) w fun v w' => Below w.heap.size w w' ∧ kd (tab d) v w') ∨
        (Region.wanted o (yielded ops (fr a0 D f).tmps) = false ∧ kd (tab d) undef w))) 0 ops.toList)
    (hend : ∀ f w, I w → (∀ d, (ops.toList.filterMap (·.dst)).contains d = true → kd (tab d) (f d) w) → Q .normal (fr a0 D f) w) : (Code.region id ops true).wp P Q a0 w :=
  kd_core D tab I hu hD hI h0 (fun Φ a b c => wp_region_inv hm hback Φ a b c) hstep hend
end

/-! the law WholeRatios -/
theorem wanted_un {ops : Array Oper} {o : Oper} {a0 : Act} {D : Nat → Bool} {f : Nat → Value} {g d : Nat} {b : Bool} (h : o.guard = some (g, b)) (hg : (ops[g]?).bind (·.dst) = some d) (hD : D d = true) (hs : (a0.tmps[d]?).isSome = true) (hf : f d = undef) :
    Region.wanted o (yielded ops (fr a0 D f).tmps) = false := by
  obtain ⟨v, hv⟩ := Option.isSome_iff_exists.1 hs
  have := fr_get a0 D f d
  rw [hv] at this
  simp only [Option.map_some, hD, hf] at this
  unfold Region.wanted yielded
  rw [h]
  simp [hg, this, undef]
theorem rn_not4' {ρ : Operand → Value} {o : Oper} {w : World} {t : Operand} {b r : Bool} (ho : o.op = .unOp .not 4 t) (h1 : ρ t = .bool b) (hc : (!b) = r) : (execOp ρ o).run Tryz.prog w = .ok (.value (.bool r)) w := by
  subst hc; unfold execOp; rw [ho]; simp [go_sem, h1]
section
variable {ρ : Operand → Value} {o : Oper} {w : World} {t c : Operand} {n m : Int} {r : Bool}
theorem rn_eqlL (ho : o.op = .binOp .eql 2 t c 2) (h1 : ρ t = .int .i64 n) (h2 : ρ c = .int .i64 m) (hc : (n == m) = r) : (execOp ρ o).run Tryz.prog w = .ok (.value (.bool r)) w := by
  subst hc; unfold execOp; rw [ho]; simp [go_sem, h1, h2]
theorem rn_neqL (ho : o.op = .binOp .neq 2 t c 2) (h1 : ρ t = .int .i64 n) (h2 : ρ c = .int .i64 m) (hc : (n != m) = r) : (execOp ρ o).run Tryz.prog w = .ok (.value (.bool r)) w := by
  subst hc; unfold execOp; rw [ho]; simp [go_sem, h1, h2, bne]
end
theorem cf15'' : CF 15 := fun W args => by go_simp
theorem Wk.divv {k : Nat} {y z : Int} (hy : Wk k y) : Wk k (y / z) := Nat.lt_of_le_of_lt (Int.natAbs_ediv_le_natAbs y z) hy
theorem cf22' : CF 22 := fun W args => by go_simp
theorem cf24' : CF 24 := fun W args => by go_simp
theorem cf34' : CF 34 := fun W args => by go_simp
theorem cf36' : CF 36 := fun W args => by go_simp
theorem ofRn (n : Int) (w : World) (h : I64 n) : Calls Tryz.prog 22 #[.int .i64 n] w (PRq (n : Rat) w) := of_any n w h
theorem wholeR (v : Value) (z : Int) (w : World) (h : Zr w v z) : Calls Tryz.prog 24 #[v] w (PRq (z : Rat) w) := whole_any v z w h
theorem floorRr {v : Value} {x : Rat} {w : World} {k : Nat} (h : Rr w v x.num x.den) (b : Bd9 k x) (hk : k ≤ 1000) : Calls Tryz.prog 34 #[v] w (PZ (x.num / (x.den : Int)) w) :=
  floor_any v x.num x.den w h (over_all _ _ (b.szn hk) (by have := x.den_pos; omega)) (b.szn hk) (b.szd hk)
theorem ceilRr {v : Value} {x : Rat} {w : World} {k : Nat} (h : Rr w v x.num x.den) (b : Bd9 k x) (hk : k ≤ 1000) : Calls Tryz.prog 36 #[v] w (PZ (-(-x.num / (x.den : Int))) w) :=
  ceil_any v x.num x.den w h (over_all _ _ (b.szn hk) (by have := x.den_pos; omega)) (b.szn hk) (b.szd hk)
theorem bd_int {k : Nat} {z : Int} (h : Wk k z) (hk : 1 ≤ k) : Bd9 k (z : Rat) := ⟨h, by
  show 1 < WB ^ k
  exact Nat.one_lt_pow (by omega) (by unfold WB; omega)⟩
theorem ratio_both (n d : Int) (hn : I64 n) (hd : I64 d) : ∃ (r : Rat) (er : Int), Bd9 1 r ∧ ((d = 0 ∧ r = 0 ∧ er = 9) ∨ (d ≠ 0 ∧ r = Rat.divInt n d ∧ er = 0)) ∧ ∀ W, Calls Tryz.prog 26 #[.int .i64 n, .int .i64 d] W (PRe r.num r.den er W) := by
  by_cases h : d = 0
  · subst h
    exact ⟨0, 9, ⟨by decide, by decide⟩, .inl ⟨rfl, rfl, rfl⟩, fun W => ratio_any n 0 0 9 1 W hn hd fun W v1 v2 h1 h2 => ofZ_zero v1 v2 n W h1 h2⟩
  · exact ⟨_, 0, bd9_div h (Wk.i64 hn) (Wk.i64 hd), .inr ⟨h, rfl, rfl⟩, fun W => ratioR n d W hn hd h⟩
theorem ofz_both (y z : Int) (Wy : Wk 12 y) (Wz : Wk 12 z) : ∃ (q : Rat) (er : Int), Bd9 12 q ∧ ((z = 0 ∧ q = 0 ∧ er = 9) ∨ (z ≠ 0 ∧ q = Rat.divInt y z ∧ er = 0)) ∧ ∀ W v1 v2, Zr W v1 y → Zr W v2 z → Calls Tryz.prog 28 #[v1, v2] W (PRe q.num q.den er W) := by
  by_cases h : z = 0
  · subst h
    exact ⟨0, 9, ⟨by decide +kernel, by decide +kernel⟩, .inl ⟨rfl, rfl, rfl⟩, fun W v1 v2 h1 h2 => ofZ_zero v1 v2 y W h1 h2⟩
  · exact ⟨_, 0, bd9_div h Wy Wz, .inr ⟨h, rfl, rfl⟩, fun W v1 v2 h1 h2 => ofzR v1 v2 y z W h1 h2 h (Wk.sz Wy (by decide)) (Wk.sz Wz (by decide))⟩
structure V4 (w0 : World) (y z : Int) (T1 T2 T3 T4 : Nat) (w : World) : Prop where
  k : Below w0.heap.size w0 w
  a : Hz T1 y w
  ra : Hr T2 y w
  b : Hz T3 z w
  rb : Hr T4 z w
theorem V4.keep {w0 w w' : World} {y z : Int} {T1 T2 T3 T4 : Nat} (h : V4 w0 y z T1 T2 T3 T4 w) (hb : Below w.heap.size w w') : V4 w0 y z T1 T2 T3 T4 w' := ⟨Below.thru h.k h.k.size hb, h.a.keep hb, h.ra.keep hb, h.b.keep hb, h.rb.keep hb⟩
structure V5 (w0 : World) (y z : Int) (r : Rat) (T1 T2 T3 T4 T5 : Nat) (w : World) : Prop where
  s : V4 w0 y z T1 T2 T3 T4 w
  r : Hq T5 r.num r.den w
theorem V5.keep {w0 w w' : World} {y z : Int} {r : Rat} {T1 T2 T3 T4 T5 : Nat} (h : V5 w0 y z r T1 T2 T3 T4 T5 w) (hb : Below w.heap.size w w') : V5 w0 y z r T1 T2 T3 T4 T5 w' := ⟨h.s.keep hb, h.r.keep hb⟩
structure V6 (w0 : World) (y z : Int) (q : Rat) (T1 T2 T3 T4 T5 : Nat) (w : World) : Prop where
  s : V4 w0 y z T1 T2 T3 T4 w
  q : Hq T5 q.num q.den w
theorem V6.keep {w0 w w' : World} {y z : Int} {q : Rat} {T1 T2 T3 T4 T5 : Nat} (h : V6 w0 y z q T1 T2 T3 T4 T5 w) (hb : Below w.heap.size w w') : V6 w0 y z q T1 T2 T3 T4 T5 w' := ⟨h.s.keep hb, h.q.keep hb⟩
structure V7 (w0 : World) (y z : Int) (q : Rat) (T1 T2 T3 T4 T5 T6 : Nat) (w : World) : Prop where
  s : V6 w0 y z q T1 T2 T3 T4 T5 w
  rq : HA T6 q w
theorem V7.keep {w0 w w' : World} {y z : Int} {q : Rat} {T1 T2 T3 T4 T5 T6 : Nat} (h : V7 w0 y z q T1 T2 T3 T4 T5 T6 w) (hb : Below w.heap.size w w') : V7 w0 y z q T1 T2 T3 T4 T5 T6 w' := ⟨h.s.keep hb, h.rq.keep hb⟩
def tabY3 (y n : Int) (tt : Nat) : Kd := [(ki n), .q (n : Rat).num (n : Rat).den, (ki n), (kra (n : Rat)), (.v (.bool true)), (.v (.bool false)), (.v (.bool false)), .z y, .q (y : Rat).num (y : Rat).den, .r y, (kra (y : Rat)), (.v (.bool true)), (.v (.bool false)), (.v (.bool false))].getD (tt - 28) .any
def DY3 (t : Nat) : Bool := (Nat.ble 28 t && Nat.ble t 41)
def tabY6a (_n : Int) (r : Rat) (tt : Nat) : Kd := [(ki 0), (.v (.bool true)), (.v (.bool true)), (ki 9), (.v (.bool false)), (.v (.bool false)), .q r.num r.den, (ki r.num.sign), (.v (.bool false)), (.v (.bool false)), (.v (.bool false)), (.v (.bool false)), (ki 0), (.v (.bool false)), (.v (.bool false)), (.v undef), (.v undef), (.v undef), (.v undef), (.v undef), (.v undef), (.v undef), (.v undef), (.v undef), (.v undef), (.v (.bool false)), (.v (.bool false))].getD (tt - 48) .any
def tabY6b (n d : Int) (r : Rat) (tt : Nat) : Kd := [(ki d), (.v (.bool false)), (.v (.bool false)), (.v undef), (.v undef), (.v undef), (.v undef), (.v undef), (.v undef), (.v undef), (.v (.bool false)), (.v (.bool false)), (ki d), (.v (.bool true)), (.v (.bool true)), (ki 0), (.v (.bool false)), (.v (.bool false)), .q r.num r.den, (ki n), (ki d), (kra r), (.v (.bool true)), (.v (.bool false)), (.v (.bool false)), (.v (.bool false)), (.v (.bool false))].getD (tt - 48) .any
def DY6 (t : Nat) : Bool := (Nat.ble 48 t && Nat.ble t 74)
def tabY12 (q : Rat) (tt : Nat) : Kd := if tt = 8 then (.v (.bool true)) else [(ki 0), (.v (.bool true)), (.v (.bool true)), .q q.num q.den, (kra q), (.v (.bool true)), (.v (.bool true)), (.v (.bool true)), .q q.num q.den, .z q.num, (kra q), .r q.num, (.v (.bool true)), (.v (.bool true)), (.v (.bool true)), .q q.num q.den, .z (q.den : Int), (kra q), .r (q.den : Int), (.v (.bool true)), (.v (.bool true)), (.v (.bool true)), .q q.num q.den, .z (q.num / (q.den : Int)), (kra q), .r (q.num / (q.den : Int)), (.v (.bool true)), (.v (.bool true)), (.v (.bool true)), .q q.num q.den, .z (-(-q.num / (q.den : Int))), (kra q), .r (-(-q.num / (q.den : Int))), (.v (.bool true)), (.v (.bool true)), (.v (.bool true)), (.v (.bool true)), (.v (.bool true))].getD (tt - 97) .any
def DY12 (t : Nat) : Bool := Nat.beq t 8 || (Nat.ble 97 t && Nat.ble t 134)
set_option maxHeartbeats 6400000 in
theorem ratios_any (A1 B1 C1 Q1 A2 B2 C2 Q2 n d : Int) (w : World) (hA1 : I64 A1) (hB1 : I64 B1) (hC1 : I64 C1) (hQ1 : 0 ≤ Q1 ∧ Q1 ≤ 255) (hA2 : I64 A2) (hB2 : I64 B2) (hC2 : I64 C2) (hQ2 : 0 ≤ Q2 ∧ Q2 ≤ 255) (hn : I64 n) (hd : I64 d) :
    Calls Tryz.prog 4 #[.agg #[.int .i64 A1, .int .i64 B1, .int .i64 C1, .int .u8 Q1], .agg #[.int .i64 A2, .int .i64 B2, .int .i64 C2, .int .u8 Q2], .int .i64 n, .int .i64 d] w (PB true w) := by
  obtain ⟨y, Wy, cy⟩ := bothz_all A1 B1 C1 Q1 hA1 hB1 hC1 hQ1
  obtain ⟨z, Wz, cz⟩ := bothz_all A2 B2 C2 Q2 hA2 hB2 hC2 hQ2
  obtain ⟨r, er, Br, hr, cr⟩ := ratio_both n d hn hd
  obtain ⟨q, eq, Bq, hq, cq⟩ := ofz_both y z Wy Wz
  have Bn : Bd9 1 (n : Rat) := bd_int (Wk.i64 hn) (by omega)
  have By : Bd9 12 (y : Rat) := bd_int Wy (by omega)
  have HN := Lib.hid hn; have HD := Lib.hid hd; have HRR := Lib.hid hr; have HQQ := Lib.hid hq
  have CY := Lib.hid cy; have CZ := Lib.hid cz; have CR := Lib.hid cr; have CQ := Lib.hid cq
  have KX := Lib.hid (And.intro (bl2 w (.cells #[.int .i64 A1, .int .i64 B1, .int .i64 C1, .int .u8 Q1] 50) (.cells #[.int .i64 A2, .int .i64 B2, .int .i64 C2, .int .u8 Q2] 50)) (show Xb (w.heap.size + 1) A2 B2 C2 Q2 ((w.alloc (.cells #[.int .i64 A1, .int .i64 B1, .int .i64 C1, .int .u8 Q1] 50)).alloc (.cells #[.int .i64 A2, .int .i64 B2, .int .i64 C2, .int .u8 Q2] 50)) from xb_new _ A2 B2 C2 Q2 (by simp)))
  obtain ⟨bd, hbd⟩ : ∃ bd, (d == 0) = bd := ⟨_, rfl⟩
  have HBD := Lib.hid hbd
  clear cy cz cr cq hn hd hr hq hbd
  go_enter Tryz.func4, Tryz.ntmps4
  go_wp2_with fail
  refine (CY.out _).mono ?_
  rintro e w1 ⟨hb, u, v, rfl, hu, hv⟩
  obtain ⟨k0, X2⟩ := KX.out
  obtain ⟨s1, x1, p1, _, rfl, -⟩ := id hu
  obtain ⟨f1, l1, c1, rfl⟩ := hv.agg
  have kk := bl2 w1 (.cells #[.bool s1, .int .u64 x1, .pointer p1] 28) (.cells #[.int .i64 y.sign, .slice f1 l1 c1] 41)
  have k1 := Below.thru k0 k0.size hb
  have R1 := Hr.new (hv.keep (bl1 w1 (.cells #[.bool s1, .int .u64 x1, .pointer p1] 28)) (Nat.le_refl _))
  rw [World.size_alloc] at R1
  have H1 := Lib.hid (And.intro ((Hz.new hu).keep (bl1 _ (.cells #[.int .i64 y.sign, .slice f1 l1 c1] 41))) R1)
  have KX1 := Lib.hid (Below.thru k1 k1.size kk)
  obtain ⟨d1, d2, d3, d4⟩ := ((X2.keep hb).keep kk).cells
  clear hu hv hb k0 k1 kk X2 KX R1
  go_wp2_with fail
  refine (CZ.out _).mono ?_
  rintro e w2 ⟨hb, u, v, rfl, hu, hv⟩
  obtain ⟨s2, x2, p2, _, rfl, -⟩ := id hu
  obtain ⟨f2, l2, c2, rfl⟩ := hv.agg
  have kk := bl2 w2 (.cells #[.bool s2, .int .u64 x2, .pointer p2] 28) (.cells #[.int .i64 z.sign, .slice f2 l2 c2] 41)
  have k2 := Below.thru KX1.out KX1.out.size hb
  have R2 := Hr.new (hv.keep (bl1 w2 (.cells #[.bool s2, .int .u64 x2, .pointer p2] 28)) (Nat.le_refl _))
  rw [World.size_alloc] at R2
  have S := Lib.hid (show V4 w y z w1.heap.size (w1.heap.size + 1) w2.heap.size (w2.heap.size + 1) _ from ⟨Below.thru k2 k2.size kk, (H1.out.1.keep hb).keep kk, (H1.out.2.keep hb).keep kk, (Hz.new hu).keep (bl1 _ (.cells #[.int .i64 z.sign, .slice f2 l2 c2] 41)), R2⟩)
  clear hu hv hb k2 kk KX1 H1 d1 d2 d3 d4 R2
  go_upto_region 3 with fail
  go_cut [41] (fun v wc => v = .bool false ∧ V4 w y z w1.heap.size (w1.heap.size + 1) w2.heap.size (w2.heap.size + 1) wc)
  case first =>
    rename_i J K' hJ hK
    refine wp_region_kd DY3 (tabY3 y n) (V4 w y z w1.heap.size (w1.heap.size + 1) w2.heap.size (w2.heap.size + 1)) (by kernel_rfl) (by kernel_rfl) (by kernel_rfl) (by kernel_rfl) (fun _ _ h hb => h.keep hb) (S.out.keep (Below.refl _ _).drew) ?_ ?_
    ·
      refine .cons (fun f w' hI hs => ⟨wanted_none rfl, _, rfl, .val (rn_move rfl) ⟨Below.refl _ _, fr_old rfl rfl⟩⟩) ?_
      refine .cons (fun f w' hI hs => ⟨wanted_none rfl, _, rfl, .call1 rfl cf22' rfl rfl (by rw [show f 28 = Value.int .i64 n from (hs 28 (by kernel_rfl))]; exact PRq.kd (ofRn n _ HN.out))⟩) ?_
      refine .cons (fun f w' hI hs => ⟨wanted_none rfl, _, rfl, .val (rn_move rfl) ⟨Below.refl _ _, fr_old rfl rfl⟩⟩) ?_
      refine .cons (fun f w' hI hs => ⟨wanted_none rfl, _, rfl, .call1 rfl cf23 rfl rfl (by rw [show f 30 = Value.int .i64 n from (hs 30 (by kernel_rfl))]; exact PRA.kd (rof_any n _ HN.out))⟩) ?_
      refine .cons (fun f w' hI hs => ⟨wanted_none rfl, _, rfl, .call2 rfl cf20 rfl rfl rfl rfl (PB.kd (same_any _ _ (n : Rat) _ _ (hs 29 (by kernel_rfl)) (hs 31 (by kernel_rfl)) Bn (by decide)))⟩) ?_
      refine .cons (fun f w' hI hs => ⟨wanted_none rfl, _, rfl, .val (rn_not4' rfl ((fr_own rfl rfl).trans (hs 32 (by kernel_rfl))) rfl) ⟨Below.refl _ _, rfl⟩⟩) ?_
      refine .cons (fun f w' hI hs => ⟨wanted_none rfl, _, rfl, .val (rn_move rfl) ⟨Below.refl _ _, ((fr_own rfl rfl).trans (hs 33 (by kernel_rfl)))⟩⟩) ?_
      refine .cons (fun f w' hI hs => ?_) ?_
      · obtain ⟨s, x, p, h1, h2⟩ := hI.a
        exact ⟨wanted_some rfl (by kernel_rfl) rfl rfl (hs 34 (by kernel_rfl)), _, rfl, .val (rn_load29 rfl (fr_old rfl rfl) (b3_blk h1)) ⟨Below.refl _ _, h2⟩⟩
      refine .cons (fun f w' hI hs => ⟨wanted_some rfl (by kernel_rfl) rfl rfl (hs 34 (by kernel_rfl)), _, rfl, .call1 rfl cf24' rfl rfl (PRq.kd (wholeR _ y _ (hs 35 (by kernel_rfl))))⟩) ?_
      refine .cons (fun f w' hI hs => ?_) ?_
      · obtain ⟨s, p, l, c, h1, h2⟩ := hI.ra
        exact ⟨wanted_some rfl (by kernel_rfl) rfl rfl (hs 34 (by kernel_rfl)), _, rfl, .val (rn_load32 rfl (fr_old rfl rfl) h1) ⟨Below.refl _ _, h2⟩⟩
      refine .cons (fun f w' hI hs => ⟨wanted_some rfl (by kernel_rfl) rfl rfl (hs 34 (by kernel_rfl)), _, rfl, .call1 rfl cf25 rfl rfl (PRA.kd (rwhole_any _ y _ (hs 37 (by kernel_rfl))))⟩) ?_
      refine .cons (fun f w' hI hs => ⟨wanted_some rfl (by kernel_rfl) rfl rfl (hs 34 (by kernel_rfl)), _, rfl, .call2 rfl cf20 rfl rfl rfl rfl (PB.kd (same_any _ _ (y : Rat) _ _ (hs 36 (by kernel_rfl)) (hs 38 (by kernel_rfl)) By (by decide)))⟩) ?_
      refine .cons (fun f w' hI hs => ⟨wanted_some rfl (by kernel_rfl) rfl rfl (hs 34 (by kernel_rfl)), _, rfl, .val (rn_not4' rfl ((fr_own rfl rfl).trans (hs 39 (by kernel_rfl))) rfl) ⟨Below.refl _ _, rfl⟩⟩) ?_
      refine .cons (fun f w' hI hs => ⟨wanted_none rfl, _, rfl, .val (rn_pick_f rfl ((fr_own rfl rfl).trans (hs 34 (by kernel_rfl)))) ⟨Below.refl _ _, ((fr_own rfl rfl).trans (hs 40 (by kernel_rfl)))⟩⟩) ?_
      exact .nil
    · intro f w' hI hk
      have h41 : f 41 = .bool false := hk 41 (by kernel_rfl)
      refine hK _ _ (Met.intro (hJ _ _ ?_))
      (repeat apply Exists.intro)
      refine ⟨?_, rfl⟩
      exact ⟨h41, hI⟩
  case rest =>
    obtain ⟨rfl, S1⟩ := hcut
    clear S
    have S := Lib.hid S1
    clear S1
    go_wp2_with fail
    refine (CR.out _).mono ?_
    rintro e w3 ⟨hb, v, rfl, hv⟩
    obtain ⟨s3, x3, p3, y3, q3, rfl⟩ := hv.agg
    have S5 := Lib.hid (show V5 w y z r w1.heap.size (w1.heap.size + 1) w2.heap.size (w2.heap.size + 1) w3.heap.size (w3.alloc (.cells #[.bool s3, .int .u64 x3, .pointer p3, .int .u64 y3, .pointer q3] 33)) from ⟨(S.out.keep hb).keep (bl1 _ _), Hq.new hv⟩)
    clear hb hv S
    go_upto_region 6 with fail
    go_cut [74] (fun v wc => v = .bool false ∧ V4 w y z w1.heap.size (w1.heap.size + 1) w2.heap.size (w2.heap.size + 1) wc)
    case first =>
      rename_i J K' hJ hK
      rcases HRR.out with h | h
      · obtain ⟨rfl, h2, rfl⟩ := h
        have T1 : (r.num.sign != 0) = false := by rw [h2]; rfl
        clear h2
        refine wp_region_kds DY6 (tabY6a n r) (V5 w y z r w1.heap.size (w1.heap.size + 1) w2.heap.size (w2.heap.size + 1) w3.heap.size) (by kernel_rfl) (by kernel_rfl) (by kernel_rfl) (by kernel_rfl) (fun _ _ h hb => h.keep hb) (S5.out.keep (Below.refl _ _).drew) ?_ ?_
        ·
          refine .cons (fun f w' hI hs => ⟨_, rfl, .inl ⟨wanted_none rfl, .val (rn_move rfl) ⟨Below.refl _ _, fr_old rfl rfl⟩⟩⟩) ?_
          refine .cons (fun f w' hI hs => ⟨_, rfl, .inl ⟨wanted_none rfl, .val (rn_eqlL rfl ((fr_own rfl rfl).trans (hs 48 (by kernel_rfl))) rfl rfl) ⟨Below.refl _ _, rfl⟩⟩⟩) ?_
          refine .cons (fun f w' hI hs => ⟨_, rfl, .inl ⟨wanted_none rfl, .val (rn_move rfl) ⟨Below.refl _ _, ((fr_own rfl rfl).trans (hs 49 (by kernel_rfl)))⟩⟩⟩) ?_
          refine .cons (fun f w' hI hs => ⟨_, rfl, .inl ⟨wanted_some rfl (by kernel_rfl) rfl rfl (hs 50 (by kernel_rfl)), .val (rn_move rfl) ⟨Below.refl _ _, fr_old rfl rfl⟩⟩⟩) ?_
          refine .cons (fun f w' hI hs => ⟨_, rfl, .inl ⟨wanted_some rfl (by kernel_rfl) rfl rfl (hs 50 (by kernel_rfl)), .val (rn_neq29 rfl ((fr_own rfl rfl).trans (hs 51 (by kernel_rfl))) rfl rfl) ⟨Below.refl _ _, rfl⟩⟩⟩) ?_
          refine .cons (fun f w' hI hs => ⟨_, rfl, .inl ⟨wanted_some rfl (by kernel_rfl) rfl rfl (hs 50 (by kernel_rfl)), .val (rn_move rfl) ⟨Below.refl _ _, ((fr_own rfl rfl).trans (hs 52 (by kernel_rfl)))⟩⟩⟩) ?_
          refine .cons (fun f w' hI hs => ?_) ?_
          · obtain ⟨s, x, y, p, q, h1, h2⟩ := hI.r
            exact ⟨_, rfl, .inl ⟨wanted_some rfl (by kernel_rfl) rfl rfl (hs 53 (by kernel_rfl)), .val (rn_load61 rfl (fr_old rfl rfl) h1) ⟨Below.refl _ _, h2⟩⟩⟩
          refine .cons (fun f w' hI hs => ⟨_, rfl, .inl ⟨wanted_some rfl (by kernel_rfl) rfl rfl (hs 53 (by kernel_rfl)), .call1 rfl cf15'' rfl rfl (PSi.kdn (rsign_any _ r.num r.den _ (hs 54 (by kernel_rfl))))⟩⟩) ?_
          refine .cons (fun f w' hI hs => ⟨_, rfl, .inl ⟨wanted_some rfl (by kernel_rfl) rfl rfl (hs 53 (by kernel_rfl)), .val (rn_neqI rfl ((fr_own rfl rfl).trans (hs 55 (by kernel_rfl))) rfl T1) ⟨Below.refl _ _, rfl⟩⟩⟩) ?_
          refine .cons (fun f w' hI hs => ⟨_, rfl, .inl ⟨wanted_some rfl (by kernel_rfl) rfl rfl (hs 50 (by kernel_rfl)), .val (rn_pick_f rfl ((fr_own rfl rfl).trans (hs 53 (by kernel_rfl)))) ⟨Below.refl _ _, ((fr_own rfl rfl).trans (hs 56 (by kernel_rfl)))⟩⟩⟩) ?_
          refine .cons (fun f w' hI hs => ⟨_, rfl, .inl ⟨wanted_none rfl, .val (rn_pick_t rfl ((fr_own rfl rfl).trans (hs 50 (by kernel_rfl)))) ⟨Below.refl _ _, ((fr_own rfl rfl).trans (hs 57 (by kernel_rfl)))⟩⟩⟩) ?_
          refine .cons (fun f w' hI hs => ⟨_, rfl, .inl ⟨wanted_none rfl, .val (rn_move rfl) ⟨Below.refl _ _, ((fr_own rfl rfl).trans (hs 58 (by kernel_rfl)))⟩⟩⟩) ?_
          refine .cons (fun f w' hI hs => ⟨_, rfl, .inl ⟨wanted_some rfl (by kernel_rfl) rfl rfl (hs 59 (by kernel_rfl)), .val (rn_move rfl) ⟨Below.refl _ _, fr_old rfl rfl⟩⟩⟩) ?_
          refine .cons (fun f w' hI hs => ⟨_, rfl, .inl ⟨wanted_some rfl (by kernel_rfl) rfl rfl (hs 59 (by kernel_rfl)), .val (rn_neqL rfl ((fr_own rfl rfl).trans (hs 60 (by kernel_rfl))) rfl rfl) ⟨Below.refl _ _, rfl⟩⟩⟩) ?_
          refine .cons (fun f w' hI hs => ⟨_, rfl, .inl ⟨wanted_some rfl (by kernel_rfl) rfl rfl (hs 59 (by kernel_rfl)), .val (rn_move rfl) ⟨Below.refl _ _, ((fr_own rfl rfl).trans (hs 61 (by kernel_rfl)))⟩⟩⟩) ?_
          refine .cons (fun f w' hI hs => ⟨_, rfl, .inr ⟨wanted_not rfl (by kernel_rfl) rfl rfl (hs 62 (by kernel_rfl)) rfl, rfl⟩⟩) ?_
          refine .cons (fun f w' hI hs => ⟨_, rfl, .inr ⟨wanted_not rfl (by kernel_rfl) rfl rfl (hs 62 (by kernel_rfl)) rfl, rfl⟩⟩) ?_
          refine .cons (fun f w' hI hs => ⟨_, rfl, .inr ⟨wanted_not rfl (by kernel_rfl) rfl rfl (hs 62 (by kernel_rfl)) rfl, rfl⟩⟩) ?_
          refine .cons (fun f w' hI hs => ⟨_, rfl, .inr ⟨wanted_un rfl (by kernel_rfl) rfl rfl (hs 65 (by kernel_rfl)), rfl⟩⟩) ?_
          refine .cons (fun f w' hI hs => ⟨_, rfl, .inr ⟨wanted_un rfl (by kernel_rfl) rfl rfl (hs 65 (by kernel_rfl)), rfl⟩⟩) ?_
          refine .cons (fun f w' hI hs => ⟨_, rfl, .inr ⟨wanted_un rfl (by kernel_rfl) rfl rfl (hs 65 (by kernel_rfl)), rfl⟩⟩) ?_
          refine .cons (fun f w' hI hs => ⟨_, rfl, .inr ⟨wanted_un rfl (by kernel_rfl) rfl rfl (hs 65 (by kernel_rfl)), rfl⟩⟩) ?_
          refine .cons (fun f w' hI hs => ⟨_, rfl, .inr ⟨wanted_un rfl (by kernel_rfl) rfl rfl (hs 65 (by kernel_rfl)), rfl⟩⟩) ?_
          refine .cons (fun f w' hI hs => ⟨_, rfl, .inr ⟨wanted_un rfl (by kernel_rfl) rfl rfl (hs 65 (by kernel_rfl)), rfl⟩⟩) ?_
          refine .cons (fun f w' hI hs => ⟨_, rfl, .inr ⟨wanted_not rfl (by kernel_rfl) rfl rfl (hs 62 (by kernel_rfl)) rfl, rfl⟩⟩) ?_
          refine .cons (fun f w' hI hs => ⟨_, rfl, .inl ⟨wanted_some rfl (by kernel_rfl) rfl rfl (hs 59 (by kernel_rfl)), .val (rn_pick_f rfl ((fr_own rfl rfl).trans (hs 62 (by kernel_rfl)))) ⟨Below.refl _ _, rfl⟩⟩⟩) ?_
          refine .cons (fun f w' hI hs => ⟨_, rfl, .inl ⟨wanted_none rfl, .val (rn_pick_f rfl ((fr_own rfl rfl).trans (hs 59 (by kernel_rfl)))) ⟨Below.refl _ _, ((fr_own rfl rfl).trans (hs 73 (by kernel_rfl)))⟩⟩⟩) ?_
          exact .nil
        · intro f w' hI hk
          have h74 : f 74 = .bool false := hk 74 (by kernel_rfl)
          refine hK _ _ (Met.intro (hJ _ _ ?_))
          (repeat apply Exists.intro)
          refine ⟨?_, rfl⟩
          exact ⟨h74, hI.s⟩
      · obtain ⟨h1, h2, rfl⟩ := h
        have HD0 := Lib.hid h1
        have HR := Lib.hid h2
        have T1 : (d == 0) = false := by rw [beq_eq_false_iff_ne]; exact h1
        have T2 : (d != 0) = true := by rw [bne_iff_ne]; exact h1
        clear h1 h2
        refine wp_region_kds DY6 (tabY6b n d r) (V5 w y z r w1.heap.size (w1.heap.size + 1) w2.heap.size (w2.heap.size + 1) w3.heap.size) (by kernel_rfl) (by kernel_rfl) (by kernel_rfl) (by kernel_rfl) (fun _ _ h hb => h.keep hb) (S5.out.keep (Below.refl _ _).drew) ?_ ?_
        ·
          refine .cons (fun f w' hI hs => ⟨_, rfl, .inl ⟨wanted_none rfl, .val (rn_move rfl) ⟨Below.refl _ _, fr_old rfl rfl⟩⟩⟩) ?_
          refine .cons (fun f w' hI hs => ⟨_, rfl, .inl ⟨wanted_none rfl, .val (rn_eqlL rfl ((fr_own rfl rfl).trans (hs 48 (by kernel_rfl))) rfl T1) ⟨Below.refl _ _, rfl⟩⟩⟩) ?_
          refine .cons (fun f w' hI hs => ⟨_, rfl, .inl ⟨wanted_none rfl, .val (rn_move rfl) ⟨Below.refl _ _, ((fr_own rfl rfl).trans (hs 49 (by kernel_rfl)))⟩⟩⟩) ?_
          refine .cons (fun f w' hI hs => ⟨_, rfl, .inr ⟨wanted_not rfl (by kernel_rfl) rfl rfl (hs 50 (by kernel_rfl)) rfl, rfl⟩⟩) ?_
          refine .cons (fun f w' hI hs => ⟨_, rfl, .inr ⟨wanted_not rfl (by kernel_rfl) rfl rfl (hs 50 (by kernel_rfl)) rfl, rfl⟩⟩) ?_
          refine .cons (fun f w' hI hs => ⟨_, rfl, .inr ⟨wanted_not rfl (by kernel_rfl) rfl rfl (hs 50 (by kernel_rfl)) rfl, rfl⟩⟩) ?_
          refine .cons (fun f w' hI hs => ⟨_, rfl, .inr ⟨wanted_un rfl (by kernel_rfl) rfl rfl (hs 53 (by kernel_rfl)), rfl⟩⟩) ?_
          refine .cons (fun f w' hI hs => ⟨_, rfl, .inr ⟨wanted_un rfl (by kernel_rfl) rfl rfl (hs 53 (by kernel_rfl)), rfl⟩⟩) ?_
          refine .cons (fun f w' hI hs => ⟨_, rfl, .inr ⟨wanted_un rfl (by kernel_rfl) rfl rfl (hs 53 (by kernel_rfl)), rfl⟩⟩) ?_
          refine .cons (fun f w' hI hs => ⟨_, rfl, .inr ⟨wanted_not rfl (by kernel_rfl) rfl rfl (hs 50 (by kernel_rfl)) rfl, rfl⟩⟩) ?_
          refine .cons (fun f w' hI hs => ⟨_, rfl, .inl ⟨wanted_none rfl, .val (rn_pick_f rfl ((fr_own rfl rfl).trans (hs 50 (by kernel_rfl)))) ⟨Below.refl _ _, rfl⟩⟩⟩) ?_
          refine .cons (fun f w' hI hs => ⟨_, rfl, .inl ⟨wanted_none rfl, .val (rn_move rfl) ⟨Below.refl _ _, ((fr_own rfl rfl).trans (hs 58 (by kernel_rfl)))⟩⟩⟩) ?_
          refine .cons (fun f w' hI hs => ⟨_, rfl, .inl ⟨wanted_some rfl (by kernel_rfl) rfl rfl (hs 59 (by kernel_rfl)), .val (rn_move rfl) ⟨Below.refl _ _, fr_old rfl rfl⟩⟩⟩) ?_
          refine .cons (fun f w' hI hs => ⟨_, rfl, .inl ⟨wanted_some rfl (by kernel_rfl) rfl rfl (hs 59 (by kernel_rfl)), .val (rn_neqL rfl ((fr_own rfl rfl).trans (hs 60 (by kernel_rfl))) rfl T2) ⟨Below.refl _ _, rfl⟩⟩⟩) ?_
          refine .cons (fun f w' hI hs => ⟨_, rfl, .inl ⟨wanted_some rfl (by kernel_rfl) rfl rfl (hs 59 (by kernel_rfl)), .val (rn_move rfl) ⟨Below.refl _ _, ((fr_own rfl rfl).trans (hs 61 (by kernel_rfl)))⟩⟩⟩) ?_
          refine .cons (fun f w' hI hs => ⟨_, rfl, .inl ⟨wanted_some rfl (by kernel_rfl) rfl rfl (hs 62 (by kernel_rfl)), .val (rn_move rfl) ⟨Below.refl _ _, fr_old rfl rfl⟩⟩⟩) ?_
          refine .cons (fun f w' hI hs => ⟨_, rfl, .inl ⟨wanted_some rfl (by kernel_rfl) rfl rfl (hs 62 (by kernel_rfl)), .val (rn_neq29 rfl ((fr_own rfl rfl).trans (hs 63 (by kernel_rfl))) rfl rfl) ⟨Below.refl _ _, rfl⟩⟩⟩) ?_
          refine .cons (fun f w' hI hs => ⟨_, rfl, .inl ⟨wanted_some rfl (by kernel_rfl) rfl rfl (hs 62 (by kernel_rfl)), .val (rn_move rfl) ⟨Below.refl _ _, ((fr_own rfl rfl).trans (hs 64 (by kernel_rfl)))⟩⟩⟩) ?_
          refine .cons (fun f w' hI hs => ?_) ?_
          · obtain ⟨s, x, y, p, q, h1, h2⟩ := hI.r
            exact ⟨_, rfl, .inl ⟨wanted_some rfl (by kernel_rfl) rfl rfl (hs 65 (by kernel_rfl)), .val (rn_load61 rfl (fr_old rfl rfl) h1) ⟨Below.refl _ _, h2⟩⟩⟩
          refine .cons (fun f w' hI hs => ⟨_, rfl, .inl ⟨wanted_some rfl (by kernel_rfl) rfl rfl (hs 65 (by kernel_rfl)), .val (rn_move rfl) ⟨Below.refl _ _, fr_old rfl rfl⟩⟩⟩) ?_
          refine .cons (fun f w' hI hs => ⟨_, rfl, .inl ⟨wanted_some rfl (by kernel_rfl) rfl rfl (hs 65 (by kernel_rfl)), .val (rn_move rfl) ⟨Below.refl _ _, fr_old rfl rfl⟩⟩⟩) ?_
          refine .cons (fun f w' hI hs => ⟨_, rfl, .inl ⟨wanted_some rfl (by kernel_rfl) rfl rfl (hs 65 (by kernel_rfl)), .call2 rfl cf27 rfl rfl rfl rfl (by rw [show f 67 = Value.int .i64 n from (hs 67 (by kernel_rfl)), show f 68 = Value.int .i64 d from (hs 68 (by kernel_rfl))]; exact PRA.kd (PRR.ra (rratio_any n d _ HN.out HD.out HD0.out) (by rw [HR.out]) (by rw [HR.out])))⟩⟩) ?_
          refine .cons (fun f w' hI hs => ⟨_, rfl, .inl ⟨wanted_some rfl (by kernel_rfl) rfl rfl (hs 65 (by kernel_rfl)), .call2 rfl cf20 rfl rfl rfl rfl (PB.kd (same_any _ _ r _ _ (hs 66 (by kernel_rfl)) (hs 69 (by kernel_rfl)) Br (by decide)))⟩⟩) ?_
          refine .cons (fun f w' hI hs => ⟨_, rfl, .inl ⟨wanted_some rfl (by kernel_rfl) rfl rfl (hs 65 (by kernel_rfl)), .val (rn_not4' rfl ((fr_own rfl rfl).trans (hs 70 (by kernel_rfl))) rfl) ⟨Below.refl _ _, rfl⟩⟩⟩) ?_
          refine .cons (fun f w' hI hs => ⟨_, rfl, .inl ⟨wanted_some rfl (by kernel_rfl) rfl rfl (hs 62 (by kernel_rfl)), .val (rn_pick_f rfl ((fr_own rfl rfl).trans (hs 65 (by kernel_rfl)))) ⟨Below.refl _ _, ((fr_own rfl rfl).trans (hs 71 (by kernel_rfl)))⟩⟩⟩) ?_
          refine .cons (fun f w' hI hs => ⟨_, rfl, .inl ⟨wanted_some rfl (by kernel_rfl) rfl rfl (hs 59 (by kernel_rfl)), .val (rn_pick_t rfl ((fr_own rfl rfl).trans (hs 62 (by kernel_rfl)))) ⟨Below.refl _ _, ((fr_own rfl rfl).trans (hs 72 (by kernel_rfl)))⟩⟩⟩) ?_
          refine .cons (fun f w' hI hs => ⟨_, rfl, .inl ⟨wanted_none rfl, .val (rn_pick_f rfl ((fr_own rfl rfl).trans (hs 59 (by kernel_rfl)))) ⟨Below.refl _ _, ((fr_own rfl rfl).trans (hs 73 (by kernel_rfl)))⟩⟩⟩) ?_
          exact .nil
        · intro f w' hI hk
          have h74 : f 74 = .bool false := hk 74 (by kernel_rfl)
          refine hK _ _ (Met.intro (hJ _ _ ?_))
          (repeat apply Exists.intro)
          refine ⟨?_, rfl⟩
          exact ⟨h74, hI.s⟩
    case rest =>
      obtain ⟨rfl, S1⟩ := hcut
      clear S5
      have S := Lib.hid S1
      clear S1
      obtain ⟨sa, xa, pa, ha, va⟩ := S.out.a
      obtain ⟨sb, xb, pb, hb, vb⟩ := S.out.b
      obtain ⟨a1, a2, a3⟩ := b3_blk ha
      obtain ⟨b1, b2, b3⟩ := b3_blk hb
      have VA := Lib.hid va; have VB := Lib.hid vb
      clear ha hb va vb
      go_wp2_with fail
      refine (CQ.out _ _ _ VA.out VB.out).mono ?_
      rintro e w4 ⟨hb, v, rfl, hv⟩
      obtain ⟨s4, x4, p4, y4, q4, rfl⟩ := hv.agg
      have S6 := Lib.hid (show V6 w y z q w1.heap.size (w1.heap.size + 1) w2.heap.size (w2.heap.size + 1) w4.heap.size (w4.alloc (.cells #[.bool s4, .int .u64 x4, .pointer p4, .int .u64 y4, .pointer q4] 33)) from ⟨(S.out.keep hb).keep (bl1 _ _), Hq.new hv⟩)
      clear hb hv S a1 a2 a3 b1 b2 b3 VA VB
      obtain ⟨s8, p8, l8, c8, j1, j2⟩ := S6.out.s.rb
      have e8 : s8 = z.sign := by
        obtain ⟨_, _, _, e⟩ := j2.agg
        simp at e
        exact e.1
      obtain ⟨i1, i2, _, _⟩ := j1.cells
      obtain ⟨bs, hbs⟩ : ∃ bs, (s8 == 0) = bs := ⟨_, rfl⟩
      have HBS := Lib.hid hbs; have HE8 := Lib.hid e8
      clear j1 j2 e8
      go_upto_if 83 with fail
      clear i1 i2 hbs
      cases bs with
      | true =>
        have hz0 : z = 0 := by
          have h := HBS.out
          rw [beq_iff_eq, HE8.out] at h
          exact Int.sign_eq_zero_iff_zero.1 h
        have he : q = 0 ∧ eq = 9 := by
          rcases HQQ.out with h | h
          · exact h.2
          · exact absurd hz0 h.1
        obtain ⟨hq0, rfl⟩ := he
        have HQ0 : Hid (q.num.sign = 0) := by show _ = _; rw [hq0]; rfl
        clear hq0 hz0
        obtain ⟨s5, x5, p5, y5, q5, e1, e2⟩ := S6.out.q
        have g1 := cell_blk (i := 0) e1
        have g2 := cell_blk (i := 1) e1
        have g3 := cell_blk (i := 2) e1
        have g4 := cell_blk (i := 3) e1
        have g5 := cell_blk (i := 4) e1
        have VD := Lib.hid e2
        clear e1 e2
        go_wp2_with fail
        refine (rsign_any _ q.num q.den _ VD.out).mono ?_
        rintro e w5 ⟨hb, rfl⟩
        have S6 := Lib.hid (S6.out.keep hb)
        rw [HQ0.out]
        clear hb g1 g2 g3 g4 g5 VD
        go_wp2_with fail
        refine (awake_any _).mono ?_
        rintro e w6 ⟨hb, rfl⟩
        have k9 := Below.thru S6.out.s.k S6.out.s.k.size hb
        clear hb S6
        go_wp2
        go_ret
        exact ⟨k9, rfl⟩
      | false =>
        have hz0 : z ≠ 0 := by
          intro h
          have h2 := HBS.out
          rw [HE8.out, h] at h2
          exact absurd h2 (by decide)
        have he : q = Rat.divInt y z ∧ eq = 0 := by
          rcases HQQ.out with h | h
          · exact absurd h.1 hz0
          · exact h.2
        obtain ⟨hq0, rfl⟩ := he
        have HQ0 := Lib.hid hq0; have HZ0 := Lib.hid hz0
        clear hq0 hz0
        obtain ⟨sa, pa, la, ca, ha, va⟩ := S6.out.s.ra
        obtain ⟨sb, pb, lb, cb, hb, vb⟩ := S6.out.s.rb
        obtain ⟨a1, a2, _, _⟩ := ha.cells
        obtain ⟨b1, b2, _, _⟩ := hb.cells
        have VA := Lib.hid va; have VB := Lib.hid vb
        clear ha hb va vb
        go_wp2_with fail
        refine (PRR.ra (a := q) (rofz_any _ _ y z _ VA.out VB.out (Wk.sr Wy (by decide)) (Wk.sr Wz (by decide)) HZ0.out) (by rw [← HQ0.out]) (by rw [← HQ0.out])).mono ?_
        rintro e w5 ⟨hb, v, rfl, hv⟩
        obtain ⟨t1, f1, l1, c1, u1, hh1, m1, cc1, rfl⟩ := hv.agg
        have S7 := Lib.hid (show V7 w y z q w1.heap.size (w1.heap.size + 1) w2.heap.size (w2.heap.size + 1) w4.heap.size w5.heap.size (w5.alloc (.cells #[.int .i64 t1, .slice f1 l1 c1, .int .i64 u1, .slice hh1 m1 cc1] 44)) from ⟨(S6.out.keep hb).keep (bl1 _ _), HA.new hv⟩)
        clear hb hv S6 a1 a2 b1 b2 VA VB
        go_upto_region 12 with fail
        go_cut [8] (fun v wc => v = .bool true ∧ V7 w y z q w1.heap.size (w1.heap.size + 1) w2.heap.size (w2.heap.size + 1) w4.heap.size w5.heap.size wc)
        case first =>
          rename_i J K' hJ hK
          refine wp_region_kd DY12 (tabY12 q) (V7 w y z q w1.heap.size (w1.heap.size + 1) w2.heap.size (w2.heap.size + 1) w4.heap.size w5.heap.size) (by kernel_rfl) (by kernel_rfl) (by kernel_rfl) (by kernel_rfl) (fun _ _ h hb => h.keep hb) (S7.out.keep (Below.refl _ _).drew) ?_ ?_
          ·
            refine .cons (fun f w' hI hs => ⟨wanted_none rfl, _, rfl, .val (rn_move rfl) ⟨Below.refl _ _, fr_old rfl rfl⟩⟩) ?_
            refine .cons (fun f w' hI hs => ⟨wanted_none rfl, _, rfl, .val (rn_eqlO rfl ((fr_own rfl rfl).trans (hs 97 (by kernel_rfl))) rfl rfl) ⟨Below.refl _ _, rfl⟩⟩) ?_
            refine .cons (fun f w' hI hs => ⟨wanted_none rfl, _, rfl, .val (rn_move rfl) ⟨Below.refl _ _, ((fr_own rfl rfl).trans (hs 98 (by kernel_rfl)))⟩⟩) ?_
            refine .cons (fun f w' hI hs => ?_) ?_
            · obtain ⟨s, x, y, p, q, h1, h2⟩ := hI.s.q
              exact ⟨wanted_some rfl (by kernel_rfl) rfl rfl (hs 99 (by kernel_rfl)), _, rfl, .val (rn_load61 rfl (fr_old rfl rfl) h1) ⟨Below.refl _ _, h2⟩⟩
            refine .cons (fun f w' hI hs => ?_) ?_
            · obtain ⟨s1, p1, l1, c1, s2, p2, l2, c2, e1, e2, e3⟩ := hI.rq
              exact ⟨wanted_some rfl (by kernel_rfl) rfl rfl (hs 99 (by kernel_rfl)), _, rfl, .val (rn_load44 rfl (fr_old rfl rfl) e1) ⟨Below.refl _ _, e2⟩⟩
            refine .cons (fun f w' hI hs => ⟨wanted_some rfl (by kernel_rfl) rfl rfl (hs 99 (by kernel_rfl)), _, rfl, .call2 rfl cf20 rfl rfl rfl rfl (PB.kd (same_any _ _ q _ _ (hs 100 (by kernel_rfl)) (hs 101 (by kernel_rfl)) Bq (by decide)))⟩) ?_
            refine .cons (fun f w' hI hs => ⟨wanted_none rfl, _, rfl, .val (rn_pick_t rfl ((fr_own rfl rfl).trans (hs 99 (by kernel_rfl)))) ⟨Below.refl _ _, ((fr_own rfl rfl).trans (hs 102 (by kernel_rfl)))⟩⟩) ?_
            refine .cons (fun f w' hI hs => ⟨wanted_none rfl, _, rfl, .val (rn_move rfl) ⟨Below.refl _ _, ((fr_own rfl rfl).trans (hs 103 (by kernel_rfl)))⟩⟩) ?_
            refine .cons (fun f w' hI hs => ?_) ?_
            · obtain ⟨s, x, y, p, q, h1, h2⟩ := hI.s.q
              exact ⟨wanted_some rfl (by kernel_rfl) rfl rfl (hs 104 (by kernel_rfl)), _, rfl, .val (rn_load61 rfl (fr_old rfl rfl) h1) ⟨Below.refl _ _, h2⟩⟩
            refine .cons (fun f w' hI hs => ⟨wanted_some rfl (by kernel_rfl) rfl rfl (hs 104 (by kernel_rfl)), _, rfl, .call1 rfl cf30 rfl rfl (PZ.kd (rnum_any _ q.num q.den _ (hs 105 (by kernel_rfl))))⟩) ?_
            refine .cons (fun f w' hI hs => ?_) ?_
            · obtain ⟨s1, p1, l1, c1, s2, p2, l2, c2, e1, e2, e3⟩ := hI.rq
              exact ⟨wanted_some rfl (by kernel_rfl) rfl rfl (hs 104 (by kernel_rfl)), _, rfl, .val (rn_load44 rfl (fr_old rfl rfl) e1) ⟨Below.refl _ _, e2⟩⟩
            refine .cons (fun f w' hI hs => ⟨wanted_some rfl (by kernel_rfl) rfl rfl (hs 104 (by kernel_rfl)), _, rfl, .call1 rfl cf31 rfl rfl (PRZ.kd (rnumr_any _ q _ (hs 107 (by kernel_rfl))))⟩) ?_
            refine .cons (fun f w' hI hs => ⟨wanted_some rfl (by kernel_rfl) rfl rfl (hs 104 (by kernel_rfl)), _, rfl, .call2 rfl cf17 rfl rfl rfl rfl (PB.kd (sameZ_any _ _ q.num _ (hs 106 (by kernel_rfl)) (hs 108 (by kernel_rfl)) (Wk.sz (Bd9.wn Bq) (by decide))))⟩) ?_
            refine .cons (fun f w' hI hs => ⟨wanted_none rfl, _, rfl, .val (rn_pick_t rfl ((fr_own rfl rfl).trans (hs 104 (by kernel_rfl)))) ⟨Below.refl _ _, ((fr_own rfl rfl).trans (hs 109 (by kernel_rfl)))⟩⟩) ?_
            refine .cons (fun f w' hI hs => ⟨wanted_none rfl, _, rfl, .val (rn_move rfl) ⟨Below.refl _ _, ((fr_own rfl rfl).trans (hs 110 (by kernel_rfl)))⟩⟩) ?_
            refine .cons (fun f w' hI hs => ?_) ?_
            · obtain ⟨s, x, y, p, q, h1, h2⟩ := hI.s.q
              exact ⟨wanted_some rfl (by kernel_rfl) rfl rfl (hs 111 (by kernel_rfl)), _, rfl, .val (rn_load61 rfl (fr_old rfl rfl) h1) ⟨Below.refl _ _, h2⟩⟩
            refine .cons (fun f w' hI hs => ⟨wanted_some rfl (by kernel_rfl) rfl rfl (hs 111 (by kernel_rfl)), _, rfl, .call1 rfl cf32 rfl rfl (PZ.kd (den_any _ q.num q.den _ (hs 112 (by kernel_rfl))))⟩) ?_
            refine .cons (fun f w' hI hs => ?_) ?_
            · obtain ⟨s1, p1, l1, c1, s2, p2, l2, c2, e1, e2, e3⟩ := hI.rq
              exact ⟨wanted_some rfl (by kernel_rfl) rfl rfl (hs 111 (by kernel_rfl)), _, rfl, .val (rn_load44 rfl (fr_old rfl rfl) e1) ⟨Below.refl _ _, e2⟩⟩
            refine .cons (fun f w' hI hs => ⟨wanted_some rfl (by kernel_rfl) rfl rfl (hs 111 (by kernel_rfl)), _, rfl, .call1 rfl cf33 rfl rfl (PRZ.kd (rden_any _ q _ (hs 114 (by kernel_rfl))))⟩) ?_
            refine .cons (fun f w' hI hs => ⟨wanted_some rfl (by kernel_rfl) rfl rfl (hs 111 (by kernel_rfl)), _, rfl, .call2 rfl cf17 rfl rfl rfl rfl (PB.kd (sameZ_any _ _ (q.den : Int) _ (hs 113 (by kernel_rfl)) (hs 115 (by kernel_rfl)) (Wk.sz (Bd9.wd Bq) (by decide))))⟩) ?_
            refine .cons (fun f w' hI hs => ⟨wanted_none rfl, _, rfl, .val (rn_pick_t rfl ((fr_own rfl rfl).trans (hs 111 (by kernel_rfl)))) ⟨Below.refl _ _, ((fr_own rfl rfl).trans (hs 116 (by kernel_rfl)))⟩⟩) ?_
            refine .cons (fun f w' hI hs => ⟨wanted_none rfl, _, rfl, .val (rn_move rfl) ⟨Below.refl _ _, ((fr_own rfl rfl).trans (hs 117 (by kernel_rfl)))⟩⟩) ?_
            refine .cons (fun f w' hI hs => ?_) ?_
            · obtain ⟨s, x, y, p, q, h1, h2⟩ := hI.s.q
              exact ⟨wanted_some rfl (by kernel_rfl) rfl rfl (hs 118 (by kernel_rfl)), _, rfl, .val (rn_load61 rfl (fr_old rfl rfl) h1) ⟨Below.refl _ _, h2⟩⟩
            refine .cons (fun f w' hI hs => ⟨wanted_some rfl (by kernel_rfl) rfl rfl (hs 118 (by kernel_rfl)), _, rfl, .call1 rfl cf34' rfl rfl (PZ.kd (floorRr (x := q) (hs 119 (by kernel_rfl)) Bq (by decide)))⟩) ?_
            refine .cons (fun f w' hI hs => ?_) ?_
            · obtain ⟨s1, p1, l1, c1, s2, p2, l2, c2, e1, e2, e3⟩ := hI.rq
              exact ⟨wanted_some rfl (by kernel_rfl) rfl rfl (hs 118 (by kernel_rfl)), _, rfl, .val (rn_load44 rfl (fr_old rfl rfl) e1) ⟨Below.refl _ _, e2⟩⟩
            refine .cons (fun f w' hI hs => ⟨wanted_some rfl (by kernel_rfl) rfl rfl (hs 118 (by kernel_rfl)), _, rfl, .call1 rfl cf35 rfl rfl (PRZ.kd (rfloor_any _ q _ _ (hs 121 (by kernel_rfl)) Bq (by decide)))⟩) ?_
            refine .cons (fun f w' hI hs => ⟨wanted_some rfl (by kernel_rfl) rfl rfl (hs 118 (by kernel_rfl)), _, rfl, .call2 rfl cf17 rfl rfl rfl rfl (PB.kd (sameZ_any _ _ (q.num / (q.den : Int)) _ (hs 120 (by kernel_rfl)) (hs 122 (by kernel_rfl)) (Wk.sz (Wk.divv (Bd9.wn Bq)) (by decide))))⟩) ?_
            refine .cons (fun f w' hI hs => ⟨wanted_none rfl, _, rfl, .val (rn_pick_t rfl ((fr_own rfl rfl).trans (hs 118 (by kernel_rfl)))) ⟨Below.refl _ _, ((fr_own rfl rfl).trans (hs 123 (by kernel_rfl)))⟩⟩) ?_
            refine .cons (fun f w' hI hs => ⟨wanted_none rfl, _, rfl, .val (rn_move rfl) ⟨Below.refl _ _, ((fr_own rfl rfl).trans (hs 124 (by kernel_rfl)))⟩⟩) ?_
            refine .cons (fun f w' hI hs => ?_) ?_
            · obtain ⟨s, x, y, p, q, h1, h2⟩ := hI.s.q
              exact ⟨wanted_some rfl (by kernel_rfl) rfl rfl (hs 125 (by kernel_rfl)), _, rfl, .val (rn_load61 rfl (fr_old rfl rfl) h1) ⟨Below.refl _ _, h2⟩⟩
            refine .cons (fun f w' hI hs => ⟨wanted_some rfl (by kernel_rfl) rfl rfl (hs 125 (by kernel_rfl)), _, rfl, .call1 rfl cf36' rfl rfl (PZ.kd (ceilRr (x := q) (hs 126 (by kernel_rfl)) Bq (by decide)))⟩) ?_
            refine .cons (fun f w' hI hs => ?_) ?_
            · obtain ⟨s1, p1, l1, c1, s2, p2, l2, c2, e1, e2, e3⟩ := hI.rq
              exact ⟨wanted_some rfl (by kernel_rfl) rfl rfl (hs 125 (by kernel_rfl)), _, rfl, .val (rn_load44 rfl (fr_old rfl rfl) e1) ⟨Below.refl _ _, e2⟩⟩
            refine .cons (fun f w' hI hs => ⟨wanted_some rfl (by kernel_rfl) rfl rfl (hs 125 (by kernel_rfl)), _, rfl, .call1 rfl cf37 rfl rfl (PRZ.kd (rceil_any _ q _ _ (hs 128 (by kernel_rfl)) Bq (by decide)))⟩) ?_
            refine .cons (fun f w' hI hs => ⟨wanted_some rfl (by kernel_rfl) rfl rfl (hs 125 (by kernel_rfl)), _, rfl, .call2 rfl cf17 rfl rfl rfl rfl (PB.kd (sameZ_any _ _ (-(-q.num / (q.den : Int))) _ (hs 127 (by kernel_rfl)) (hs 129 (by kernel_rfl)) (Wk.sz (Wk.ng (Wk.divv (Wk.ng (Bd9.wn Bq)))) (by decide))))⟩) ?_
            refine .cons (fun f w' hI hs => ⟨wanted_none rfl, _, rfl, .val (rn_pick_t rfl ((fr_own rfl rfl).trans (hs 125 (by kernel_rfl)))) ⟨Below.refl _ _, ((fr_own rfl rfl).trans (hs 130 (by kernel_rfl)))⟩⟩) ?_
            refine .cons (fun f w' hI hs => ⟨wanted_none rfl, _, rfl, .val (rn_move rfl) ⟨Below.refl _ _, ((fr_own rfl rfl).trans (hs 131 (by kernel_rfl)))⟩⟩) ?_
            refine .cons (fun f w' hI hs => ⟨wanted_some rfl (by kernel_rfl) rfl rfl (hs 132 (by kernel_rfl)), _, rfl, .call0 rfl cf11 (PB.kd (awake_any _))⟩) ?_
            refine .cons (fun f w' hI hs => ⟨wanted_none rfl, _, rfl, .val (rn_pick_t rfl ((fr_own rfl rfl).trans (hs 132 (by kernel_rfl)))) ⟨Below.refl _ _, ((fr_own rfl rfl).trans (hs 133 (by kernel_rfl)))⟩⟩) ?_
            refine .cons (fun f w' hI hs => ⟨wanted_none rfl, _, rfl, .val (rn_assign rfl) ⟨Below.refl _ _, ((fr_own rfl rfl).trans (hs 134 (by kernel_rfl)))⟩⟩) ?_
            exact .nil
          · intro f w' hI hk
            have h8 : f 8 = .bool true := hk 8 (by kernel_rfl)
            refine hK _ _ (Met.intro (hJ _ _ ?_))
            (repeat apply Exists.intro)
            refine ⟨?_, rfl⟩
            exact ⟨h8, hI⟩
        case rest =>
          obtain ⟨rfl, S9⟩ := hcut
          have k9 := S9.s.s.k
          clear S9 S7
          go_wp2
          go_ret
          exact ⟨k9, rfl⟩
end Go.Proofs.YtjjomjjgoceklaaGreat
