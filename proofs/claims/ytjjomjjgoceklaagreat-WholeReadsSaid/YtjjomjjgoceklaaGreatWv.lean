import Derived.Test.YtjjomjjgoceklaaGreatWu
import Derived.Test.YtjjomjjgoceklaaGreatKbh
namespace Go.Proofs.YtjjomjjgoceklaaGreat
set_option maxRecDepth 100000
open Go.RowKit

section
variable {P : Program} {ops : Array Oper} {Q : Exit → Act → World → Prop}
theorem wp_region_kds {id : Nat} {a0 : Act} {w : World} (D : Nat → Bool) (tab : Nat → Kd) (I : World → Prop) (hm : P.follows .mixedOrders = true) (hback : backB .any ops = true) (hu : uniqB ops = true)
    (hD : (ops.toList.filterMap (·.dst)).all D = true) (hI : ∀ w w', I w → Below w.heap.size w w' → I w') (h0 : I { w with drawn := w.drawn + 1 })
    (hstep : AllFrom (fun i o => ∀ f w, I w → (∀ d, (predD ops i).contains d = true → kd (tab d) (f d) w) → ∃ d, o.dst = some d ∧
      ((Region.wanted o (yielded ops (fr a0 D f).tmps) = true ∧ OpR P o (fr a0 D f) w fun v w' => Below w.heap.size w w' ∧ kd (tab d) v w') ∨
        (Region.wanted o (yielded ops (fr a0 D f).tmps) = false ∧ kd (tab d) undef w))) 0 ops.toList)
    (hend : ∀ f w, I w → (∀ d, (ops.toList.filterMap (·.dst)).contains d = true → kd (tab d) (f d) w) → Q .normal (fr a0 D f) w) : (Code.region id ops true).wp P Q a0 w :=
  kd_core D tab I hu hD hI h0 (fun Φ a b c => wp_region_inv hm hback Φ a b c) hstep hend
end

/-! the law WholeReads -/
theorem cf16 : CF 16 := fun W args => by go_simp
theorem cf18 : CF 18 := fun W args => by go_simp
theorem rn_neq4 {ρ : Operand → Value} {o : Oper} {w : World} {t c : Operand} {a b r : Bool} (ho : o.op = .binOp .neq 4 t c 4) (h1 : ρ t = .bool a) (h2 : ρ c = .bool b) (hc : (a != b) = r) : (execOp ρ o).run Tryz.prog w = .ok (.value (.bool r)) w := by
  subst hc; unfold execOp; rw [ho]; simp [go_sem, h1, h2, bne]
structure J7 (w0 : World) (z : Int) (q : Rat) (T3 T5 : Nat) (w : World) : Prop where
  k : Below w0.heap.size w0 w
  a : Hz T3 z w
  r : Hq T5 q.num q.den w
theorem J7.keep {w0 w w' : World} {z : Int} {q : Rat} {T3 T5 : Nat} (h : J7 w0 z q T3 T5 w) (hb : Below w.heap.size w w') : J7 w0 z q T3 T5 w' := ⟨Below.thru h.k h.k.size hb, h.a.keep hb, h.r.keep hb⟩
def tabJ7a (s : ByteArray) (z : Int) (tt : Nat) : Kd := [(.v (.string s)), (.v (.bool true)), (ki 0), (.v (.bool true)), (.v (.bool false)), (.v (.bool false)), (ki 0), (.v (.bool false)), (.v (.bool false)), (.v undef), (.v undef), (.v undef), (.v undef), (.v undef), (.v undef), (.v undef), (.v (.bool false)), (.v (.bool false)), (.v (.bool false)), (ki 0), (.v (.bool true)), (.v (.bool true)), .z z, (.v (.string s)), .r z, (.v (.bool true)), (.v (.bool false)), (.v (.bool false)), (.v (.bool false))].getD (tt - 45) .any
def tabJ7b (s : ByteArray) (tt : Nat) : Kd := [(.v (.string s)), (.v (.bool false)), (ki 4), (.v (.bool false)), (.v (.bool false)), (.v (.bool false)), (ki 4), (.v (.bool true)), (.v (.bool true)), (ki 4), (.v (.bool false)), (.v (.bool false)), .z 0, (ki ((0 : Int).sign)), (.v (.bool false)), (.v (.bool false)), (.v (.bool false)), (.v (.bool false)), (.v (.bool false)), (ki 4), (.v (.bool false)), (.v (.bool false)), (.v undef), (.v undef), (.v undef), (.v undef), (.v undef), (.v (.bool false)), (.v (.bool false))].getD (tt - 45) .any
def DJ7 (t : Nat) : Bool := (Nat.ble 45 t && Nat.ble t 73)
set_option maxHeartbeats 1600000 in
theorem reads_over (s : ByteArray) (w : World) (h1 : 2000 < s.size) : Calls Tryz.prog 3 #[.string s] w (PB true w) := by
  have h1 : (2000 : Int) < (s.size : Int) := by omega
  go_enter Tryz.func3, Tryz.ntmps3
  go_wp2_with fail
  refine (awake_any _).mono ?_
  rintro e w1 ⟨hb, rfl⟩
  go_wp2
  go_ret
  exact ⟨hb, rfl⟩
set_option maxHeartbeats 3200000 in
theorem reads_long (s : ByteArray) (w : World) (h1 : s.size ≤ 2000) (h2 : 1000 < s.size) : Calls Tryz.prog 3 #[.string s] w (PB true w) := by
  have g1 : ¬ (2000 : Int) < (s.size : Int) := by omega
  have g2 : (1000 : Int) < (s.size : Int) := by omega
  go_enter Tryz.func3, Tryz.ntmps3
  go_wp2_with fail
  refine (parseZ_long s _ h2).mono ?_
  rintro e w1 ⟨hb, v, rfl, hv⟩
  obtain ⟨s1, x1, p1, _, rfl, -⟩ := id hv
  have A1 := Lib.hid (show Hz w1.heap.size 0 (w1.alloc (.cells #[.bool s1, .int .u64 x1, .pointer p1] 28)) from Hz.new hv)
  have k1 := Lib.hid (Below.thru hb hb.size (bl1 w1 (.cells #[.bool s1, .int .u64 x1, .pointer p1] 28)))
  clear hb hv
  go_wp2_with fail
  refine (parse_long s _ h2).mono ?_
  rintro e w2 ⟨hb, v, rfl, hv⟩
  obtain ⟨s2, x2, p2, y2, q2, rfl⟩ := hv.agg
  have S := Lib.hid (show J7 w 0 0 w1.heap.size w2.heap.size (w2.alloc (.cells #[.bool s2, .int .u64 x2, .pointer p2, .int .u64 y2, .pointer q2] 33)) from ⟨Below.thru (Below.thru k1.out k1.out.size hb) (Below.thru k1.out k1.out.size hb).size (bl1 _ _), (A1.out.keep hb).keep (bl1 _ _), Hq.new hv⟩)
  clear hb hv A1 k1
  obtain ⟨sa, xa, pa, ha, va⟩ := S.out.a
  obtain ⟨a1, a2, a3⟩ := b3_blk ha
  have VA := Lib.hid va
  clear ha va
  go_wp2_with fail
  refine (sign_any _ 0 _ VA.out).mono ?_
  rintro e w3 ⟨hb, rfl⟩
  have S := Lib.hid (S.out.keep hb)
  clear hb a1 a2 a3 VA
  rw [show (0 : Int).sign = 0 from rfl]
  obtain ⟨sb, xb, yb, pb, qb, e1, e2⟩ := S.out.r
  have g1 := cell_blk (i := 0) e1
  have g2 := cell_blk (i := 1) e1
  have g3 := cell_blk (i := 2) e1
  have g4 := cell_blk (i := 3) e1
  have g5 := cell_blk (i := 4) e1
  have VD := Lib.hid e2
  clear e1 e2
  go_wp2_with fail
  refine (rsign_any _ _ _ _ VD.out).mono ?_
  rintro e w5 ⟨hb, rfl⟩
  have S := Lib.hid (S.out.keep hb)
  clear hb g1 g2 g3 g4 g5 VD
  rw [show (0 : Rat).num.sign = 0 from rfl]
  go_wp2_with fail
  refine (awake_any _).mono ?_
  rintro e w6 ⟨hb, rfl⟩
  have k9 := Below.thru S.out.k S.out.k.size hb
  clear hb S
  go_wp2
  go_ret
  exact ⟨k9, rfl⟩
set_option maxHeartbeats 6400000 in
/-- up to the end of region 7, for int -/
theorem reads_int (s : ByteArray) (q : Rat) (er bad : Int) (w : World) (h2 : s.size ≤ 1000) (z : Int) (hp : IntP s) (hz : z = pzi s)
    (cq : ∀ W, Calls Tryz.prog 13 #[.string s] W (PRe q.num q.den er W)) (cr : ∀ W, Calls Tryz.prog 19 #[.string s] W (PPa bad q W)) (Bq : Bd9 60 q)
    (hc : (er = 0 ∧ bad = 0) ∨ (er = 4 ∧ bad = 1 ∧ q = 0) ∨ (er = 9 ∧ bad = 2 ∧ q = 0)) : Calls Tryz.prog 3 #[.string s] w (PB true w) := by
  have g1 : ¬ (2000 : Int) < (s.size : Int) := by omega
  have g2 : ¬ (1000 : Int) < (s.size : Int) := by omega
  have CQ := Lib.hid cq; have CR := Lib.hid cr; have HC := Lib.hid hc
  have HI := Lib.hid (fun W => isIntr_any s W (by omega) true (by simp [hp]))
  have HP : Hid (∀ W, Calls Tryz.prog 12 #[.string s] W (PZe z 0 W)) := fun W => by rw [hz]; exact parseZ_any s _ 0 W h2 fun W' => readZ_yes s W' h2 hp
  have HZ : Hid (∀ W, Calls Tryz.prog 18 #[.string s] W (PRZ z W)) := fun W => by rw [hz]; exact zparse_any s W h2 hp
  have HSZ : Hid (Sz z.natAbs) := by rw [hz]; exact (pzi_tn h2 hp).sz
  clear hz
  clear cq cr hc hp
  go_enter Tryz.func3, Tryz.ntmps3
  go_wp2_with fail
  refine (HP.out _).mono ?_
  rintro e w1 ⟨hb, v, rfl, hv⟩
  obtain ⟨s1, x1, p1, _, rfl, -⟩ := id hv
  have A1 := Lib.hid (show Hz w1.heap.size z (w1.alloc (.cells #[.bool s1, .int .u64 x1, .pointer p1] 28)) from Hz.new hv)
  have k1 := Lib.hid (Below.thru hb hb.size (bl1 w1 (.cells #[.bool s1, .int .u64 x1, .pointer p1] 28)))
  clear hb hv
  go_wp2_with fail
  refine (CQ.out _).mono ?_
  rintro e w2 ⟨hb, v, rfl, hv⟩
  obtain ⟨s2, x2, p2, y2, q2, rfl⟩ := hv.agg
  have S := Lib.hid (show J7 w z q w1.heap.size w2.heap.size (w2.alloc (.cells #[.bool s2, .int .u64 x2, .pointer p2, .int .u64 y2, .pointer q2] 33)) from ⟨Below.thru (Below.thru k1.out k1.out.size hb) (Below.thru k1.out k1.out.size hb).size (bl1 _ _), (A1.out.keep hb).keep (bl1 _ _), Hq.new hv⟩)
  clear hb hv A1 k1
  go_upto_region 7 with fail
  go_cut [73] (fun v wc => v = .bool false ∧ J7 w z q w1.heap.size w2.heap.size wc)
  case first =>
    rename_i J K' hJ hK
    refine wp_region_kds DJ7 (tabJ7a s z) (J7 w z q w1.heap.size w2.heap.size) (by kernel_rfl) (by kernel_rfl) (by kernel_rfl) (by kernel_rfl) (fun _ _ h hb => h.keep hb) (S.out.keep (Below.refl _ _).drew) ?_ ?_
    ·
      refine .cons (fun f w' hI hs => ⟨_, rfl, .inl ⟨wanted_none rfl, .val (rn_move rfl) ⟨Below.refl _ _, fr_old rfl rfl⟩⟩⟩) ?_
      refine .cons (fun f w' hI hs => ⟨_, rfl, .inl ⟨wanted_none rfl, .call1 rfl cf16 rfl rfl (by rw [show f 45 = Value.string s from (hs 45 (by kernel_rfl))]; exact PB.kd (HI.out _))⟩⟩) ?_
      refine .cons (fun f w' hI hs => ⟨_, rfl, .inl ⟨wanted_none rfl, .val (rn_move rfl) ⟨Below.refl _ _, fr_old rfl rfl⟩⟩⟩) ?_
      refine .cons (fun f w' hI hs => ⟨_, rfl, .inl ⟨wanted_none rfl, .val (rn_eqlO rfl ((fr_own rfl rfl).trans (hs 47 (by kernel_rfl))) rfl rfl) ⟨Below.refl _ _, rfl⟩⟩⟩) ?_
      refine .cons (fun f w' hI hs => ⟨_, rfl, .inl ⟨wanted_none rfl, .val (rn_neq4 rfl ((fr_own rfl rfl).trans (hs 46 (by kernel_rfl))) ((fr_own rfl rfl).trans (hs 48 (by kernel_rfl))) rfl) ⟨Below.refl _ _, rfl⟩⟩⟩) ?_
      refine .cons (fun f w' hI hs => ⟨_, rfl, .inl ⟨wanted_none rfl, .val (rn_move rfl) ⟨Below.refl _ _, ((fr_own rfl rfl).trans (hs 49 (by kernel_rfl)))⟩⟩⟩) ?_
      refine .cons (fun f w' hI hs => ⟨_, rfl, .inl ⟨wanted_some rfl (by kernel_rfl) rfl rfl (hs 50 (by kernel_rfl)), .val (rn_move rfl) ⟨Below.refl _ _, fr_old rfl rfl⟩⟩⟩) ?_
      refine .cons (fun f w' hI hs => ⟨_, rfl, .inl ⟨wanted_some rfl (by kernel_rfl) rfl rfl (hs 50 (by kernel_rfl)), .val (rn_neq29 rfl ((fr_own rfl rfl).trans (hs 51 (by kernel_rfl))) rfl rfl) ⟨Below.refl _ _, rfl⟩⟩⟩) ?_
      refine .cons (fun f w' hI hs => ⟨_, rfl, .inl ⟨wanted_some rfl (by kernel_rfl) rfl rfl (hs 50 (by kernel_rfl)), .val (rn_move rfl) ⟨Below.refl _ _, ((fr_own rfl rfl).trans (hs 52 (by kernel_rfl)))⟩⟩⟩) ?_
      refine .cons (fun f w' hI hs => ⟨_, rfl, .inr ⟨wanted_not rfl (by kernel_rfl) rfl rfl (hs 53 (by kernel_rfl)) rfl, rfl⟩⟩) ?_
      refine .cons (fun f w' hI hs => ⟨_, rfl, .inr ⟨wanted_not rfl (by kernel_rfl) rfl rfl (hs 53 (by kernel_rfl)) rfl, rfl⟩⟩) ?_
      refine .cons (fun f w' hI hs => ⟨_, rfl, .inr ⟨wanted_not rfl (by kernel_rfl) rfl rfl (hs 53 (by kernel_rfl)) rfl, rfl⟩⟩) ?_
      refine .cons (fun f w' hI hs => ⟨_, rfl, .inr ⟨wanted_un rfl (by kernel_rfl) rfl rfl (hs 56 (by kernel_rfl)), rfl⟩⟩) ?_
      refine .cons (fun f w' hI hs => ⟨_, rfl, .inr ⟨wanted_un rfl (by kernel_rfl) rfl rfl (hs 56 (by kernel_rfl)), rfl⟩⟩) ?_
      refine .cons (fun f w' hI hs => ⟨_, rfl, .inr ⟨wanted_un rfl (by kernel_rfl) rfl rfl (hs 56 (by kernel_rfl)), rfl⟩⟩) ?_
      refine .cons (fun f w' hI hs => ⟨_, rfl, .inr ⟨wanted_not rfl (by kernel_rfl) rfl rfl (hs 53 (by kernel_rfl)) rfl, rfl⟩⟩) ?_
      refine .cons (fun f w' hI hs => ⟨_, rfl, .inl ⟨wanted_some rfl (by kernel_rfl) rfl rfl (hs 50 (by kernel_rfl)), .val (rn_pick_f rfl ((fr_own rfl rfl).trans (hs 53 (by kernel_rfl)))) ⟨Below.refl _ _, rfl⟩⟩⟩) ?_
      refine .cons (fun f w' hI hs => ⟨_, rfl, .inl ⟨wanted_none rfl, .val (rn_pick_f rfl ((fr_own rfl rfl).trans (hs 50 (by kernel_rfl)))) ⟨Below.refl _ _, ((fr_own rfl rfl).trans (hs 61 (by kernel_rfl)))⟩⟩⟩) ?_
      refine .cons (fun f w' hI hs => ⟨_, rfl, .inl ⟨wanted_none rfl, .val (rn_move rfl) ⟨Below.refl _ _, ((fr_own rfl rfl).trans (hs 62 (by kernel_rfl)))⟩⟩⟩) ?_
      refine .cons (fun f w' hI hs => ⟨_, rfl, .inl ⟨wanted_some rfl (by kernel_rfl) rfl rfl (hs 63 (by kernel_rfl)), .val (rn_move rfl) ⟨Below.refl _ _, fr_old rfl rfl⟩⟩⟩) ?_
      refine .cons (fun f w' hI hs => ⟨_, rfl, .inl ⟨wanted_some rfl (by kernel_rfl) rfl rfl (hs 63 (by kernel_rfl)), .val (rn_eqlO rfl ((fr_own rfl rfl).trans (hs 64 (by kernel_rfl))) rfl rfl) ⟨Below.refl _ _, rfl⟩⟩⟩) ?_
      refine .cons (fun f w' hI hs => ⟨_, rfl, .inl ⟨wanted_some rfl (by kernel_rfl) rfl rfl (hs 63 (by kernel_rfl)), .val (rn_move rfl) ⟨Below.refl _ _, ((fr_own rfl rfl).trans (hs 65 (by kernel_rfl)))⟩⟩⟩) ?_
      refine .cons (fun f w' hI hs => ?_) ?_
      · obtain ⟨s, x, p, h1, h2⟩ := hI.a
        exact ⟨_, rfl, .inl ⟨wanted_some rfl (by kernel_rfl) rfl rfl (hs 66 (by kernel_rfl)), .val (rn_load29 rfl (fr_old rfl rfl) (b3_blk h1)) ⟨Below.refl _ _, h2⟩⟩⟩
      refine .cons (fun f w' hI hs => ⟨_, rfl, .inl ⟨wanted_some rfl (by kernel_rfl) rfl rfl (hs 66 (by kernel_rfl)), .val (rn_move rfl) ⟨Below.refl _ _, fr_old rfl rfl⟩⟩⟩) ?_
      refine .cons (fun f w' hI hs => ⟨_, rfl, .inl ⟨wanted_some rfl (by kernel_rfl) rfl rfl (hs 66 (by kernel_rfl)), .call1 rfl cf18 rfl rfl (by rw [show f 68 = Value.string s from (hs 68 (by kernel_rfl))]; exact PRZ.kd (HZ.out _))⟩⟩) ?_
      refine .cons (fun f w' hI hs => ⟨_, rfl, .inl ⟨wanted_some rfl (by kernel_rfl) rfl rfl (hs 66 (by kernel_rfl)), .call2 rfl cf17 rfl rfl rfl rfl (PB.kd (sameZ_any _ _ z _ (hs 67 (by kernel_rfl)) (hs 69 (by kernel_rfl)) HSZ.out))⟩⟩) ?_
      refine .cons (fun f w' hI hs => ⟨_, rfl, .inl ⟨wanted_some rfl (by kernel_rfl) rfl rfl (hs 66 (by kernel_rfl)), .val (rn_not4' rfl ((fr_own rfl rfl).trans (hs 70 (by kernel_rfl))) rfl) ⟨Below.refl _ _, rfl⟩⟩⟩) ?_
      refine .cons (fun f w' hI hs => ⟨_, rfl, .inl ⟨wanted_some rfl (by kernel_rfl) rfl rfl (hs 63 (by kernel_rfl)), .val (rn_pick_t rfl ((fr_own rfl rfl).trans (hs 66 (by kernel_rfl)))) ⟨Below.refl _ _, ((fr_own rfl rfl).trans (hs 71 (by kernel_rfl)))⟩⟩⟩) ?_
      refine .cons (fun f w' hI hs => ⟨_, rfl, .inl ⟨wanted_none rfl, .val (rn_pick_f rfl ((fr_own rfl rfl).trans (hs 63 (by kernel_rfl)))) ⟨Below.refl _ _, ((fr_own rfl rfl).trans (hs 72 (by kernel_rfl)))⟩⟩⟩) ?_
      exact .nil
    · intro f w' hI hk
      have h73 : f 73 = .bool false := hk 73 (by kernel_rfl)
      refine hK _ _ (Met.intro (hJ _ _ ?_))
      (repeat apply Exists.intro)
      refine ⟨?_, rfl⟩
      exact ⟨h73, hI⟩
  case rest =>
    obtain ⟨rfl, S1⟩ := hcut
    clear S
    have S := Lib.hid S1
    clear S1
    go_wp2_with fail
    refine (CR.out _).mono ?_
    rintro e w3 ⟨hb, v, rfl, ⟨t1, f1, l1, c1, t2, f2, l2, c2, rfl⟩, hv⟩
    have S := Lib.hid (S.out.keep hb)
    have HV := Lib.hid hv
    clear hb hv
    rcases HC.out with ⟨rfl, rfl⟩ | ⟨rfl, rfl, rfl⟩ | ⟨rfl, rfl, rfl⟩
    · have HH := Lib.hid (HA.new (HV.out rfl))
      have S := Lib.hid (S.out.keep (bl1 w3 (.cells #[.int .i64 t1, .slice f1 l1 c1, .int .i64 t2, .slice f2 l2 c2] 44)))
      clear HV
      obtain ⟨sb, xb, yb, pb, qb, e1, e2⟩ := S.out.r
      obtain ⟨t1', f1', l1', c1', t2', f2', l2', c2', j1, j2, -⟩ := HH.out
      have g1 := cell_blk (i := 0) e1
      have g2 := cell_blk (i := 1) e1
      have g3 := cell_blk (i := 2) e1
      have g4 := cell_blk (i := 3) e1
      have g5 := cell_blk (i := 4) e1
      have i1 := cell_blk (i := 0) j1
      have i2 := cell_blk (i := 1) j1
      have i3 := cell_blk (i := 2) j1
      have i4 := cell_blk (i := 3) j1
      have VD := Lib.hid e2; have VA := Lib.hid j2
      clear e1 e2 j1 j2 HH
      go_wp2_with fail
      refine (same_any _ _ q 60 _ VD.out VA.out Bq (by decide)).mono ?_
      rintro e w5 ⟨hb, rfl⟩
      have k5 := Below.thru S.out.k S.out.k.size hb
      clear hb S g1 g2 g3 g4 g5 i1 i2 i3 i4 VD VA
      go_wp2_with fail
      refine (awake_any _).mono ?_
      rintro e w6 ⟨hb, rfl⟩
      have k9 := Below.thru k5 k5.size hb
      clear hb k5
      go_wp2
      go_ret
      exact ⟨k9, rfl⟩
    all_goals
      have S := Lib.hid (J7.keep (J7.keep S.out (bl1 w3 (.cells #[.int .i64 t1, .slice f1 l1 c1, .int .i64 t2, .slice f2 l2 c2] 44))) (bl1 _ (.cells #[.int .i64 0, .int .i64 4, .int .i64 9] 29)))
      clear HV
      obtain ⟨sb, xb, yb, pb, qb, e1, e2⟩ := S.out.r
      have g1 := cell_blk (i := 0) e1
      have g2 := cell_blk (i := 1) e1
      have g3 := cell_blk (i := 2) e1
      have g4 := cell_blk (i := 3) e1
      have g5 := cell_blk (i := 4) e1
      have VD := Lib.hid e2
      clear e1 e2
      go_wp2_with fail
      refine (rsign_any _ _ _ _ VD.out).mono ?_
      rintro e w5 ⟨hb, rfl⟩
      have k5 := Below.thru S.out.k S.out.k.size hb
      clear hb S g1 g2 g3 g4 g5 VD
      rw [show (0 : Rat).num.sign = 0 from rfl]
      go_wp2_with fail
      refine (awake_any _).mono ?_
      rintro e w6 ⟨hb, rfl⟩
      have k9 := Below.thru k5 k5.size hb
      clear hb k5
      go_wp2
      go_ret
      exact ⟨k9, rfl⟩
set_option maxHeartbeats 6400000 in
/-- up to the end of region 7, for not -/
theorem reads_not (s : ByteArray) (q : Rat) (er bad : Int) (w : World) (h2 : s.size ≤ 1000) (hp : ¬ IntP s)
    (cq : ∀ W, Calls Tryz.prog 13 #[.string s] W (PRe q.num q.den er W)) (cr : ∀ W, Calls Tryz.prog 19 #[.string s] W (PPa bad q W)) (Bq : Bd9 60 q)
    (hc : (er = 0 ∧ bad = 0) ∨ (er = 4 ∧ bad = 1 ∧ q = 0) ∨ (er = 9 ∧ bad = 2 ∧ q = 0)) : Calls Tryz.prog 3 #[.string s] w (PB true w) := by
  have g1 : ¬ (2000 : Int) < (s.size : Int) := by omega
  have g2 : ¬ (1000 : Int) < (s.size : Int) := by omega
  have CQ := Lib.hid cq; have CR := Lib.hid cr; have HC := Lib.hid hc
  have HI := Lib.hid (fun W => isIntr_any s W (by omega) false (by simp [hp]))
  have HP : Hid (∀ W, Calls Tryz.prog 12 #[.string s] W (PZe 0 4 W)) := fun W => parseZ_any s 0 4 W h2 fun W' => readZ_no s W' h2 hp
  clear cq cr hc hp
  go_enter Tryz.func3, Tryz.ntmps3
  go_wp2_with fail
  refine (HP.out _).mono ?_
  rintro e w1 ⟨hb, v, rfl, hv⟩
  obtain ⟨s1, x1, p1, _, rfl, -⟩ := id hv
  have A1 := Lib.hid (show Hz w1.heap.size 0 (w1.alloc (.cells #[.bool s1, .int .u64 x1, .pointer p1] 28)) from Hz.new hv)
  have k1 := Lib.hid (Below.thru hb hb.size (bl1 w1 (.cells #[.bool s1, .int .u64 x1, .pointer p1] 28)))
  clear hb hv
  go_wp2_with fail
  refine (CQ.out _).mono ?_
  rintro e w2 ⟨hb, v, rfl, hv⟩
  obtain ⟨s2, x2, p2, y2, q2, rfl⟩ := hv.agg
  have S := Lib.hid (show J7 w 0 q w1.heap.size w2.heap.size (w2.alloc (.cells #[.bool s2, .int .u64 x2, .pointer p2, .int .u64 y2, .pointer q2] 33)) from ⟨Below.thru (Below.thru k1.out k1.out.size hb) (Below.thru k1.out k1.out.size hb).size (bl1 _ _), (A1.out.keep hb).keep (bl1 _ _), Hq.new hv⟩)
  clear hb hv A1 k1
  go_upto_region 7 with fail
  go_cut [73] (fun v wc => v = .bool false ∧ J7 w 0 q w1.heap.size w2.heap.size wc)
  case first =>
    rename_i J K' hJ hK
    refine wp_region_kds DJ7 (tabJ7b s) (J7 w 0 q w1.heap.size w2.heap.size) (by kernel_rfl) (by kernel_rfl) (by kernel_rfl) (by kernel_rfl) (fun _ _ h hb => h.keep hb) (S.out.keep (Below.refl _ _).drew) ?_ ?_
    ·
      refine .cons (fun f w' hI hs => ⟨_, rfl, .inl ⟨wanted_none rfl, .val (rn_move rfl) ⟨Below.refl _ _, fr_old rfl rfl⟩⟩⟩) ?_
      refine .cons (fun f w' hI hs => ⟨_, rfl, .inl ⟨wanted_none rfl, .call1 rfl cf16 rfl rfl (by rw [show f 45 = Value.string s from (hs 45 (by kernel_rfl))]; exact PB.kd (HI.out _))⟩⟩) ?_
      refine .cons (fun f w' hI hs => ⟨_, rfl, .inl ⟨wanted_none rfl, .val (rn_move rfl) ⟨Below.refl _ _, fr_old rfl rfl⟩⟩⟩) ?_
      refine .cons (fun f w' hI hs => ⟨_, rfl, .inl ⟨wanted_none rfl, .val (rn_eqlO rfl ((fr_own rfl rfl).trans (hs 47 (by kernel_rfl))) rfl rfl) ⟨Below.refl _ _, rfl⟩⟩⟩) ?_
      refine .cons (fun f w' hI hs => ⟨_, rfl, .inl ⟨wanted_none rfl, .val (rn_neq4 rfl ((fr_own rfl rfl).trans (hs 46 (by kernel_rfl))) ((fr_own rfl rfl).trans (hs 48 (by kernel_rfl))) rfl) ⟨Below.refl _ _, rfl⟩⟩⟩) ?_
      refine .cons (fun f w' hI hs => ⟨_, rfl, .inl ⟨wanted_none rfl, .val (rn_move rfl) ⟨Below.refl _ _, ((fr_own rfl rfl).trans (hs 49 (by kernel_rfl)))⟩⟩⟩) ?_
      refine .cons (fun f w' hI hs => ⟨_, rfl, .inl ⟨wanted_some rfl (by kernel_rfl) rfl rfl (hs 50 (by kernel_rfl)), .val (rn_move rfl) ⟨Below.refl _ _, fr_old rfl rfl⟩⟩⟩) ?_
      refine .cons (fun f w' hI hs => ⟨_, rfl, .inl ⟨wanted_some rfl (by kernel_rfl) rfl rfl (hs 50 (by kernel_rfl)), .val (rn_neq29 rfl ((fr_own rfl rfl).trans (hs 51 (by kernel_rfl))) rfl rfl) ⟨Below.refl _ _, rfl⟩⟩⟩) ?_
      refine .cons (fun f w' hI hs => ⟨_, rfl, .inl ⟨wanted_some rfl (by kernel_rfl) rfl rfl (hs 50 (by kernel_rfl)), .val (rn_move rfl) ⟨Below.refl _ _, ((fr_own rfl rfl).trans (hs 52 (by kernel_rfl)))⟩⟩⟩) ?_
      refine .cons (fun f w' hI hs => ⟨_, rfl, .inl ⟨wanted_some rfl (by kernel_rfl) rfl rfl (hs 53 (by kernel_rfl)), .val (rn_move rfl) ⟨Below.refl _ _, fr_old rfl rfl⟩⟩⟩) ?_
      refine .cons (fun f w' hI hs => ⟨_, rfl, .inl ⟨wanted_some rfl (by kernel_rfl) rfl rfl (hs 53 (by kernel_rfl)), .val (rn_neq29 rfl ((fr_own rfl rfl).trans (hs 54 (by kernel_rfl))) rfl rfl) ⟨Below.refl _ _, rfl⟩⟩⟩) ?_
      refine .cons (fun f w' hI hs => ⟨_, rfl, .inl ⟨wanted_some rfl (by kernel_rfl) rfl rfl (hs 53 (by kernel_rfl)), .val (rn_move rfl) ⟨Below.refl _ _, ((fr_own rfl rfl).trans (hs 55 (by kernel_rfl)))⟩⟩⟩) ?_
      refine .cons (fun f w' hI hs => ?_) ?_
      · obtain ⟨s, x, p, h1, h2⟩ := hI.a
        exact ⟨_, rfl, .inl ⟨wanted_some rfl (by kernel_rfl) rfl rfl (hs 56 (by kernel_rfl)), .val (rn_load29 rfl (fr_old rfl rfl) (b3_blk h1)) ⟨Below.refl _ _, h2⟩⟩⟩
      refine .cons (fun f w' hI hs => ⟨_, rfl, .inl ⟨wanted_some rfl (by kernel_rfl) rfl rfl (hs 56 (by kernel_rfl)), .call1 rfl cf14 rfl rfl (PSi.kdn (sign_any _ 0 _ (hs 57 (by kernel_rfl))))⟩⟩) ?_
      refine .cons (fun f w' hI hs => ⟨_, rfl, .inl ⟨wanted_some rfl (by kernel_rfl) rfl rfl (hs 56 (by kernel_rfl)), .val (rn_neqI rfl ((fr_own rfl rfl).trans (hs 58 (by kernel_rfl))) rfl rfl) ⟨Below.refl _ _, rfl⟩⟩⟩) ?_
      refine .cons (fun f w' hI hs => ⟨_, rfl, .inl ⟨wanted_some rfl (by kernel_rfl) rfl rfl (hs 53 (by kernel_rfl)), .val (rn_pick_f rfl ((fr_own rfl rfl).trans (hs 56 (by kernel_rfl)))) ⟨Below.refl _ _, ((fr_own rfl rfl).trans (hs 59 (by kernel_rfl)))⟩⟩⟩) ?_
      refine .cons (fun f w' hI hs => ⟨_, rfl, .inl ⟨wanted_some rfl (by kernel_rfl) rfl rfl (hs 50 (by kernel_rfl)), .val (rn_pick_t rfl ((fr_own rfl rfl).trans (hs 53 (by kernel_rfl)))) ⟨Below.refl _ _, ((fr_own rfl rfl).trans (hs 60 (by kernel_rfl)))⟩⟩⟩) ?_
      refine .cons (fun f w' hI hs => ⟨_, rfl, .inl ⟨wanted_none rfl, .val (rn_pick_f rfl ((fr_own rfl rfl).trans (hs 50 (by kernel_rfl)))) ⟨Below.refl _ _, ((fr_own rfl rfl).trans (hs 61 (by kernel_rfl)))⟩⟩⟩) ?_
      refine .cons (fun f w' hI hs => ⟨_, rfl, .inl ⟨wanted_none rfl, .val (rn_move rfl) ⟨Below.refl _ _, ((fr_own rfl rfl).trans (hs 62 (by kernel_rfl)))⟩⟩⟩) ?_
      refine .cons (fun f w' hI hs => ⟨_, rfl, .inl ⟨wanted_some rfl (by kernel_rfl) rfl rfl (hs 63 (by kernel_rfl)), .val (rn_move rfl) ⟨Below.refl _ _, fr_old rfl rfl⟩⟩⟩) ?_
      refine .cons (fun f w' hI hs => ⟨_, rfl, .inl ⟨wanted_some rfl (by kernel_rfl) rfl rfl (hs 63 (by kernel_rfl)), .val (rn_eqlO rfl ((fr_own rfl rfl).trans (hs 64 (by kernel_rfl))) rfl rfl) ⟨Below.refl _ _, rfl⟩⟩⟩) ?_
      refine .cons (fun f w' hI hs => ⟨_, rfl, .inl ⟨wanted_some rfl (by kernel_rfl) rfl rfl (hs 63 (by kernel_rfl)), .val (rn_move rfl) ⟨Below.refl _ _, ((fr_own rfl rfl).trans (hs 65 (by kernel_rfl)))⟩⟩⟩) ?_
      refine .cons (fun f w' hI hs => ⟨_, rfl, .inr ⟨wanted_not rfl (by kernel_rfl) rfl rfl (hs 66 (by kernel_rfl)) rfl, rfl⟩⟩) ?_
      refine .cons (fun f w' hI hs => ⟨_, rfl, .inr ⟨wanted_not rfl (by kernel_rfl) rfl rfl (hs 66 (by kernel_rfl)) rfl, rfl⟩⟩) ?_
      refine .cons (fun f w' hI hs => ⟨_, rfl, .inr ⟨wanted_not rfl (by kernel_rfl) rfl rfl (hs 66 (by kernel_rfl)) rfl, rfl⟩⟩) ?_
      refine .cons (fun f w' hI hs => ⟨_, rfl, .inr ⟨wanted_not rfl (by kernel_rfl) rfl rfl (hs 66 (by kernel_rfl)) rfl, rfl⟩⟩) ?_
      refine .cons (fun f w' hI hs => ⟨_, rfl, .inr ⟨wanted_not rfl (by kernel_rfl) rfl rfl (hs 66 (by kernel_rfl)) rfl, rfl⟩⟩) ?_
      refine .cons (fun f w' hI hs => ⟨_, rfl, .inl ⟨wanted_some rfl (by kernel_rfl) rfl rfl (hs 63 (by kernel_rfl)), .val (rn_pick_f rfl ((fr_own rfl rfl).trans (hs 66 (by kernel_rfl)))) ⟨Below.refl _ _, rfl⟩⟩⟩) ?_
      refine .cons (fun f w' hI hs => ⟨_, rfl, .inl ⟨wanted_none rfl, .val (rn_pick_f rfl ((fr_own rfl rfl).trans (hs 63 (by kernel_rfl)))) ⟨Below.refl _ _, ((fr_own rfl rfl).trans (hs 72 (by kernel_rfl)))⟩⟩⟩) ?_
      exact .nil
    · intro f w' hI hk
      have h73 : f 73 = .bool false := hk 73 (by kernel_rfl)
      refine hK _ _ (Met.intro (hJ _ _ ?_))
      (repeat apply Exists.intro)
      refine ⟨?_, rfl⟩
      exact ⟨h73, hI⟩
  case rest =>
    obtain ⟨rfl, S1⟩ := hcut
    clear S
    have S := Lib.hid S1
    clear S1
    go_wp2_with fail
    refine (CR.out _).mono ?_
    rintro e w3 ⟨hb, v, rfl, ⟨t1, f1, l1, c1, t2, f2, l2, c2, rfl⟩, hv⟩
    have S := Lib.hid (S.out.keep hb)
    have HV := Lib.hid hv
    clear hb hv
    rcases HC.out with ⟨rfl, rfl⟩ | ⟨rfl, rfl, rfl⟩ | ⟨rfl, rfl, rfl⟩
    · have HH := Lib.hid (HA.new (HV.out rfl))
      have S := Lib.hid (S.out.keep (bl1 w3 (.cells #[.int .i64 t1, .slice f1 l1 c1, .int .i64 t2, .slice f2 l2 c2] 44)))
      clear HV
      obtain ⟨sb, xb, yb, pb, qb, e1, e2⟩ := S.out.r
      obtain ⟨t1', f1', l1', c1', t2', f2', l2', c2', j1, j2, -⟩ := HH.out
      have g1 := cell_blk (i := 0) e1
      have g2 := cell_blk (i := 1) e1
      have g3 := cell_blk (i := 2) e1
      have g4 := cell_blk (i := 3) e1
      have g5 := cell_blk (i := 4) e1
      have i1 := cell_blk (i := 0) j1
      have i2 := cell_blk (i := 1) j1
      have i3 := cell_blk (i := 2) j1
      have i4 := cell_blk (i := 3) j1
      have VD := Lib.hid e2; have VA := Lib.hid j2
      clear e1 e2 j1 j2 HH
      go_wp2_with fail
      refine (same_any _ _ q 60 _ VD.out VA.out Bq (by decide)).mono ?_
      rintro e w5 ⟨hb, rfl⟩
      have k5 := Below.thru S.out.k S.out.k.size hb
      clear hb S g1 g2 g3 g4 g5 i1 i2 i3 i4 VD VA
      go_wp2_with fail
      refine (awake_any _).mono ?_
      rintro e w6 ⟨hb, rfl⟩
      have k9 := Below.thru k5 k5.size hb
      clear hb k5
      go_wp2
      go_ret
      exact ⟨k9, rfl⟩
    all_goals
      have S := Lib.hid (J7.keep (J7.keep S.out (bl1 w3 (.cells #[.int .i64 t1, .slice f1 l1 c1, .int .i64 t2, .slice f2 l2 c2] 44))) (bl1 _ (.cells #[.int .i64 0, .int .i64 4, .int .i64 9] 29)))
      clear HV
      obtain ⟨sb, xb, yb, pb, qb, e1, e2⟩ := S.out.r
      have g1 := cell_blk (i := 0) e1
      have g2 := cell_blk (i := 1) e1
      have g3 := cell_blk (i := 2) e1
      have g4 := cell_blk (i := 3) e1
      have g5 := cell_blk (i := 4) e1
      have VD := Lib.hid e2
      clear e1 e2
      go_wp2_with fail
      refine (rsign_any _ _ _ _ VD.out).mono ?_
      rintro e w5 ⟨hb, rfl⟩
      have k5 := Below.thru S.out.k S.out.k.size hb
      clear hb S g1 g2 g3 g4 g5 VD
      rw [show (0 : Rat).num.sign = 0 from rfl]
      go_wp2_with fail
      refine (awake_any _).mono ?_
      rintro e w6 ⟨hb, rfl⟩
      have k9 := Below.thru k5 k5.size hb
      clear hb k5
      go_wp2
      go_ret
      exact ⟨k9, rfl⟩
theorem reads_any (s : ByteArray) (w : World) : Calls Tryz.prog 3 #[.string s] w (PB true w) := by
  rcases Nat.lt_or_ge 2000 s.size with h1 | h1
  · exact reads_over s w h1
  rcases Nat.lt_or_ge 1000 s.size with h2 | h2
  · exact reads_long s w h1 h2
  obtain ⟨q, er, bad, h3, h4, h5, h6⟩ := both_parse s h2
  by_cases hp : IntP s
  · exact reads_int s q er bad w h2 (pzi s) hp rfl h5 h6 h3 h4
  · exact reads_not s q er bad w h2 hp h5 h6 h3 h4
end Go.Proofs.YtjjomjjgoceklaaGreat
