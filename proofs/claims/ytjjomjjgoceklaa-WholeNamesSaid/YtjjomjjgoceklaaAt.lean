import Derived.Test.YtjjomjjgoceklaaAs
namespace Go.Proofs.Ytjjomjjgoceklaa
open Go.RowKit

theorem sgnZ_self (a : Int) : sgnZ a a = 0 := by unfold sgnZ; rw [if_neg (by omega), if_pos rfl]
theorem PSg.kd {a b : Int} {w : World} {n : FuncId} {args : Array Value} (h : Calls Try.prog n args w (PSg a b w)) (h0 : sgnZ a b = 0) : Calls Try.prog n args w fun e w' => ∃ v, e = .returned v ∧ (Below w.heap.size w w' ∧ Go.Proofs.Ytjjomjjgoceklaa.kd (ki 0) v w') :=
  h.mono fun _ _ ⟨hb, he⟩ => ⟨_, he, hb, by show _ = _; rw [h0]⟩
theorem PSi.kd {a : Int} {w : World} {n : FuncId} {args : Array Value} (h : Calls Try.prog n args w fun e w' => Below w.heap.size w w' ∧ e = .returned (.int .i64 a.sign)) (h0 : a.sign = 0) : Calls Try.prog n args w fun e w' => ∃ v, e = .returned v ∧ (Below w.heap.size w w' ∧ Go.Proofs.Ytjjomjjgoceklaa.kd (ki 0) v w') :=
  h.mono fun _ _ ⟨hb, he⟩ => ⟨_, he, hb, by show _ = _; rw [h0]⟩
theorem PB.kd {b : Bool} {w : World} {n : FuncId} {args : Array Value} (h : Calls Try.prog n args w (PB b w)) : Calls Try.prog n args w fun e w' => ∃ v, e = .returned v ∧ (Below w.heap.size w w' ∧ Go.Proofs.Ytjjomjjgoceklaa.kd (.v (.bool b)) v w') :=
  h.mono fun _ _ ⟨hb, he⟩ => ⟨_, he, hb, rfl⟩
theorem rn_pick_t {ρ : Operand → Value} {o : Oper} {w : World} {c x y : Operand} (ho : o.op = .pick c x y) (hc : ρ c = .bool true) : (execOp ρ o).run Try.prog w = .ok (.value (ρ x)) w := rn_pick ho hc
theorem rn_pick_f {ρ : Operand → Value} {o : Oper} {w : World} {c x y : Operand} (ho : o.op = .pick c x y) (hc : ρ c = .bool false) : (execOp ρ o).run Try.prog w = .ok (.value (ρ y)) w := rn_pick ho hc
/-- three integers in boxes -/
structure R3 (w0 : World) (y z t : Int) (Ta Tb Tc : Nat) (w : World) : Prop where
  k : Below w0.heap.size w0 w
  a : Hz Ta y w
  b : Hz Tb z w
  c : Hz Tc t w
theorem R3.keep {w0 : World} {y z t : Int} {Ta Tb Tc : Nat} {w w' : World} (h : R3 w0 y z t Ta Tb Tc w) (hb : Below w.heap.size w w') : R3 w0 y z t Ta Tb Tc w' :=
  ⟨Below.thru h.k h.k.size hb, h.a.keep hb, h.b.keep hb, h.c.keep hb⟩
def tabA (y z t : Int) (d : Nat) : Kd := [.z y, .z z, .z (y + z), .z z, .z y, .z (z + y), (ki 0), (.v (.bool false)), (.v (.bool false)), .z y, .z z, .z (y * z), .z z, .z y, .z (z * y), (ki 0), (.v (.bool false)), (.v (.bool false)), (.v (.bool false)), .z y, .z z, .z (y + z), .z t, .z ((y + z) + t), .z y, .z z, .z t, .z (z + t), .z (y + (z + t)), (ki 0), (.v (.bool false)), (.v (.bool false)), (.v (.bool false)), .z y, .z z, .z (y * z), .z t, .z ((y * z) * t), .z y, .z z, .z t, .z (z * t), .z (y * (z * t)), (ki 0), (.v (.bool false)), (.v (.bool false))].getD (d - 28) .any
def DA4 (t : Nat) : Bool := Nat.ble 28 t && Nat.ble t 73
def tabB (y z t : Int) (d : Nat) : Kd := if d = 6 then .v (.bool true) else [.z y, .z z, .z t, .z (z + t), .z (y * (z + t)), .z y, .z z, .z (y * z), .z y, .z t, .z (y * t), .z ((y * z) + (y * t)), (ki 0), (.v (.bool true)), (.v (.bool true)), .z y, .z y, .z (y - y), (ki 0), (.v (.bool true)), (.v (.bool true)), (.v (.bool true)), .z y, .z z, .z (y - z), .z y, .z z, .z (y + z), .z ((y - z) * (y + z)), .z y, .z y, .z (y * y), .z z, .z z, .z (z * z), .z ((y * y) - (z * z)), (ki 0), (.v (.bool true)), (.v (.bool true)), (.v (.bool true)), (.v (.bool true)), (.v (.bool true))].getD (d - 74) .any
def DA6 (t : Nat) : Bool := Nat.beq t 6 || (Nat.ble 74 t && Nat.ble t 115)
theorem xb_new (w : World) (A B C P : Int) {T : Nat} (hT : T = w.heap.size) : Xb T A B C P (w.alloc (.cells #[.int .i64 A, .int .i64 B, .int .i64 C, .int .u8 P] 23)) := by subst hT; exact Go.Deep.blk_alloc_new _ _
set_option maxRecDepth 100000 in
set_option maxHeartbeats 3200000 in
theorem ring_any (A1 B1 C1 P1 A2 B2 C2 P2 A3 B3 C3 P3 : Int) (w : World) (hA1 : I64 A1) (hB1 : I64 B1) (hC1 : I64 C1) (hP1 : 0 ≤ P1 ∧ P1 ≤ 255) (hA2 : I64 A2) (hB2 : I64 B2) (hC2 : I64 C2) (hP2 : 0 ≤ P2 ∧ P2 ≤ 255) (hA3 : I64 A3) (hB3 : I64 B3) (hC3 : I64 C3) (hP3 : 0 ≤ P3 ∧ P3 ≤ 255) :
    Calls Try.prog 6 #[.agg #[.int .i64 A1, .int .i64 B1, .int .i64 C1, .int .u8 P1], .agg #[.int .i64 A2, .int .i64 B2, .int .i64 C2, .int .u8 P2], .agg #[.int .i64 A3, .int .i64 B3, .int .i64 C3, .int .u8 P3]] w (PB true w) := by
  obtain ⟨y, Wy, cy⟩ := bothz_all A1 B1 C1 P1 hA1 hB1 hC1 hP1
  obtain ⟨z, Wz, cz⟩ := bothz_all A2 B2 C2 P2 hA2 hB2 hC2 hP2
  obtain ⟨t, Wt, ct⟩ := bothz_all A3 B3 C3 P3 hA3 hB3 hC3 hP3
  have CY := Lib.hid cy; have CZ := Lib.hid cz; have CT := Lib.hid ct
  clear cy cz ct
  go_enter Try.func6, Try.ntmps6
  go_wp2_with fail
  have X2 : Xb (w.heap.size + 1) A2 B2 C2 P2 (((w.alloc (.cells #[.int .i64 A1, .int .i64 B1, .int .i64 C1, .int .u8 P1] 23)).alloc (.cells #[.int .i64 A2, .int .i64 B2, .int .i64 C2, .int .u8 P2] 23)).alloc (.cells #[.int .i64 A3, .int .i64 B3, .int .i64 C3, .int .u8 P3] 23)) := blk_al (xb_new _ A2 B2 C2 P2 (by simp)) _
  have X3 : Xb (w.heap.size + 1 + 1) A3 B3 C3 P3 (((w.alloc (.cells #[.int .i64 A1, .int .i64 B1, .int .i64 C1, .int .u8 P1] 23)).alloc (.cells #[.int .i64 A2, .int .i64 B2, .int .i64 C2, .int .u8 P2] 23)).alloc (.cells #[.int .i64 A3, .int .i64 B3, .int .i64 C3, .int .u8 P3] 23)) := xb_new _ A3 B3 C3 P3 (by simp)
  have k0 := bl3 w (.cells #[.int .i64 A1, .int .i64 B1, .int .i64 C1, .int .u8 P1] 23) (.cells #[.int .i64 A2, .int .i64 B2, .int .i64 C2, .int .u8 P2] 23) (.cells #[.int .i64 A3, .int .i64 B3, .int .i64 C3, .int .u8 P3] 23)
  refine (CY.out _).mono ?_
  rintro e w1 ⟨hb1, u1, v1, rfl, hu1, hv1⟩
  have X2 := X2.keep hb1
  have X3 := X3.keep hb1
  have k1 := Below.thru k0 k0.size hb1
  clear hb1 k0
  obtain ⟨s1, x1, p1, _, rfl, -⟩ := id hu1
  obtain ⟨q1, l1, c1, rfl⟩ := hv1.agg
  have H1 := (Hz.new hu1).keep (bl1 _ (.cells #[.int .i64 y.sign, .slice q1 l1 c1] 32))
  have k1 := Below.thru k1 k1.size (bl2 w1 (.cells #[.bool s1, .int .u64 x1, .pointer p1] 29) (.cells #[.int .i64 y.sign, .slice q1 l1 c1] 32))
  have X2 := X2.keep (bl2 w1 (.cells #[.bool s1, .int .u64 x1, .pointer p1] 29) (.cells #[.int .i64 y.sign, .slice q1 l1 c1] 32))
  have X3 := X3.keep (bl2 w1 (.cells #[.bool s1, .int .u64 x1, .pointer p1] 29) (.cells #[.int .i64 y.sign, .slice q1 l1 c1] 32))
  obtain ⟨d1, d2, d3, d4⟩ := X2.cells
  have H1 := Lib.hid H1
  clear hu1 hv1
  go_wp2_with fail
  refine (CZ.out _).mono ?_
  rintro e w2 ⟨hb2, u2, v2, rfl, hu2, hv2⟩
  have X3 := X3.keep hb2
  have k2 := Below.thru k1 k1.size hb2
  have H1 := H1.out.keep hb2
  clear hb2 k1 d1 d2 d3 d4 X2
  obtain ⟨s2, x2, p2, _, rfl, -⟩ := id hu2
  obtain ⟨q2, l2, c2, rfl⟩ := hv2.agg
  have H2 := (Hz.new hu2).keep (bl1 _ (.cells #[.int .i64 z.sign, .slice q2 l2 c2] 32))
  have k2 := Below.thru k2 k2.size (bl2 w2 (.cells #[.bool s2, .int .u64 x2, .pointer p2] 29) (.cells #[.int .i64 z.sign, .slice q2 l2 c2] 32))
  have X3 := X3.keep (bl2 w2 (.cells #[.bool s2, .int .u64 x2, .pointer p2] 29) (.cells #[.int .i64 z.sign, .slice q2 l2 c2] 32))
  have H1 := H1.keep (bl2 w2 (.cells #[.bool s2, .int .u64 x2, .pointer p2] 29) (.cells #[.int .i64 z.sign, .slice q2 l2 c2] 32))
  obtain ⟨d1, d2, d3, d4⟩ := X3.cells
  have H1 := Lib.hid H1
  have H2 := Lib.hid H2
  clear hu2 hv2
  go_wp2_with fail
  refine (CT.out _).mono ?_
  rintro e w3 ⟨hb3, u3, v3, rfl, hu3, hv3⟩
  have k3 := Below.thru k2 k2.size hb3
  have H1 := H1.out.keep hb3
  have H2 := H2.out.keep hb3
  clear hb3 k2 d1 d2 d3 d4 X3
  obtain ⟨s3, x3, p3, _, rfl, -⟩ := id hu3
  obtain ⟨q3, l3, c3, rfl⟩ := hv3.agg
  have H3 := (Hz.new hu3).keep (bl1 _ (.cells #[.int .i64 t.sign, .slice q3 l3 c3] 32))
  have S : R3 w y z t w1.heap.size w2.heap.size w3.heap.size ((w3.alloc (.cells #[.bool s3, .int .u64 x3, .pointer p3] 29)).alloc (.cells #[.int .i64 t.sign, .slice q3 l3 c3] 32)) :=
    ⟨Below.thru k3 k3.size (bl2 _ _ _), H1.keep (bl2 _ _ _), H2.keep (bl2 _ _ _), H3⟩
  have S := Lib.hid S
  clear H1 H2 H3 hu3 hv3 k3
  go_wp2_with fail
  go_cut [73] (fun v wc => v = .bool false ∧ R3 w y z t w1.heap.size w2.heap.size w3.heap.size wc)
  case first =>
    rename_i J K' hJ hK
    refine wp_region_kd DA4 (tabA y z t) (R3 w y z t w1.heap.size w2.heap.size w3.heap.size) (by kernel_rfl) (by kernel_rfl) (by kernel_rfl) (by kernel_rfl) (fun _ _ h hb => h.keep hb) (S.out.keep (Below.refl _ _).drew) ?_ ?_
    ·
      refine .cons (fun f w' hI hs => ?_) ?_
      · obtain ⟨s, x, p, h1, h2⟩ := hI.a
        exact ⟨wanted_none rfl, _, rfl, .val (rn_load29 rfl (fr_old rfl rfl) (b3_blk h1)) ⟨Below.refl _ _, h2⟩⟩
      refine .cons (fun f w' hI hs => ?_) ?_
      · obtain ⟨s, x, p, h1, h2⟩ := hI.b
        exact ⟨wanted_none rfl, _, rfl, .val (rn_load29 rfl (fr_old rfl rfl) (b3_blk h1)) ⟨Below.refl _ _, h2⟩⟩
      refine .cons (fun f w' hI hs => ⟨wanted_none rfl, _, rfl, .call2 rfl cf14 rfl rfl rfl rfl (PZ.kd (zadd_any _ _ y z _ (hs 28 (by kernel_rfl)) (hs 29 (by kernel_rfl)) (Wk.sz Wy (by decide)) (Wk.sz Wz (by decide))))⟩) ?_
      refine .cons (fun f w' hI hs => ?_) ?_
      · obtain ⟨s, x, p, h1, h2⟩ := hI.b
        exact ⟨wanted_none rfl, _, rfl, .val (rn_load29 rfl (fr_old rfl rfl) (b3_blk h1)) ⟨Below.refl _ _, h2⟩⟩
      refine .cons (fun f w' hI hs => ?_) ?_
      · obtain ⟨s, x, p, h1, h2⟩ := hI.a
        exact ⟨wanted_none rfl, _, rfl, .val (rn_load29 rfl (fr_old rfl rfl) (b3_blk h1)) ⟨Below.refl _ _, h2⟩⟩
      refine .cons (fun f w' hI hs => ⟨wanted_none rfl, _, rfl, .call2 rfl cf14 rfl rfl rfl rfl (PZ.kd (zadd_any _ _ z y _ (hs 31 (by kernel_rfl)) (hs 32 (by kernel_rfl)) (Wk.sz Wz (by decide)) (Wk.sz Wy (by decide))))⟩) ?_
      refine .cons (fun f w' hI hs => ⟨wanted_none rfl, _, rfl, .call2 rfl cf25 rfl rfl rfl rfl (PSg.kd (zcmp_any _ _ (y + z) (z + y) _ (hs 30 (by kernel_rfl)) (hs 33 (by kernel_rfl))) (by rw [Int.add_comm z y]; exact sgnZ_self _))⟩) ?_
      refine .cons (fun f w' hI hs => ⟨wanted_none rfl, _, rfl, .val (rn_neq rfl ((fr_own rfl rfl).trans (hs 34 (by kernel_rfl))) rfl) ⟨Below.refl _ _, rfl⟩⟩) ?_
      refine .cons (fun f w' hI hs => ⟨wanted_none rfl, _, rfl, .val (rn_move rfl) ⟨Below.refl _ _, (fr_own rfl rfl).trans (hs 35 (by kernel_rfl))⟩⟩) ?_
      refine .cons (fun f w' hI hs => ?_) ?_
      · obtain ⟨s, x, p, h1, h2⟩ := hI.a
        exact ⟨wanted_some rfl (by kernel_rfl) rfl rfl (hs 36 (by kernel_rfl)), _, rfl, .val (rn_load29 rfl (fr_old rfl rfl) (b3_blk h1)) ⟨Below.refl _ _, h2⟩⟩
      refine .cons (fun f w' hI hs => ?_) ?_
      · obtain ⟨s, x, p, h1, h2⟩ := hI.b
        exact ⟨wanted_some rfl (by kernel_rfl) rfl rfl (hs 36 (by kernel_rfl)), _, rfl, .val (rn_load29 rfl (fr_old rfl rfl) (b3_blk h1)) ⟨Below.refl _ _, h2⟩⟩
      refine .cons (fun f w' hI hs => ⟨wanted_some rfl (by kernel_rfl) rfl rfl (hs 36 (by kernel_rfl)), _, rfl, .call2 rfl cf18 rfl rfl rfl rfl (PZ.kd (zmul_any _ _ y z _ (hs 37 (by kernel_rfl)) (hs 38 (by kernel_rfl)) (Wk.sz Wy (by decide)) (Wk.sz Wz (by decide))))⟩) ?_
      refine .cons (fun f w' hI hs => ?_) ?_
      · obtain ⟨s, x, p, h1, h2⟩ := hI.b
        exact ⟨wanted_some rfl (by kernel_rfl) rfl rfl (hs 36 (by kernel_rfl)), _, rfl, .val (rn_load29 rfl (fr_old rfl rfl) (b3_blk h1)) ⟨Below.refl _ _, h2⟩⟩
      refine .cons (fun f w' hI hs => ?_) ?_
      · obtain ⟨s, x, p, h1, h2⟩ := hI.a
        exact ⟨wanted_some rfl (by kernel_rfl) rfl rfl (hs 36 (by kernel_rfl)), _, rfl, .val (rn_load29 rfl (fr_old rfl rfl) (b3_blk h1)) ⟨Below.refl _ _, h2⟩⟩
      refine .cons (fun f w' hI hs => ⟨wanted_some rfl (by kernel_rfl) rfl rfl (hs 36 (by kernel_rfl)), _, rfl, .call2 rfl cf18 rfl rfl rfl rfl (PZ.kd (zmul_any _ _ z y _ (hs 40 (by kernel_rfl)) (hs 41 (by kernel_rfl)) (Wk.sz Wz (by decide)) (Wk.sz Wy (by decide))))⟩) ?_
      refine .cons (fun f w' hI hs => ⟨wanted_some rfl (by kernel_rfl) rfl rfl (hs 36 (by kernel_rfl)), _, rfl, .call2 rfl cf25 rfl rfl rfl rfl (PSg.kd (zcmp_any _ _ (y * z) (z * y) _ (hs 39 (by kernel_rfl)) (hs 42 (by kernel_rfl))) (by rw [Int.mul_comm z y]; exact sgnZ_self _))⟩) ?_
      refine .cons (fun f w' hI hs => ⟨wanted_some rfl (by kernel_rfl) rfl rfl (hs 36 (by kernel_rfl)), _, rfl, .val (rn_neq rfl ((fr_own rfl rfl).trans (hs 43 (by kernel_rfl))) rfl) ⟨Below.refl _ _, rfl⟩⟩) ?_
      refine .cons (fun f w' hI hs => ⟨wanted_none rfl, _, rfl, .val (rn_pick_f rfl ((fr_own rfl rfl).trans (hs 36 (by kernel_rfl)))) ⟨Below.refl _ _, (fr_own rfl rfl).trans (hs 44 (by kernel_rfl))⟩⟩) ?_
      refine .cons (fun f w' hI hs => ⟨wanted_none rfl, _, rfl, .val (rn_move rfl) ⟨Below.refl _ _, (fr_own rfl rfl).trans (hs 45 (by kernel_rfl))⟩⟩) ?_
      refine .cons (fun f w' hI hs => ?_) ?_
      · obtain ⟨s, x, p, h1, h2⟩ := hI.a
        exact ⟨wanted_some rfl (by kernel_rfl) rfl rfl (hs 46 (by kernel_rfl)), _, rfl, .val (rn_load29 rfl (fr_old rfl rfl) (b3_blk h1)) ⟨Below.refl _ _, h2⟩⟩
      refine .cons (fun f w' hI hs => ?_) ?_
      · obtain ⟨s, x, p, h1, h2⟩ := hI.b
        exact ⟨wanted_some rfl (by kernel_rfl) rfl rfl (hs 46 (by kernel_rfl)), _, rfl, .val (rn_load29 rfl (fr_old rfl rfl) (b3_blk h1)) ⟨Below.refl _ _, h2⟩⟩
      refine .cons (fun f w' hI hs => ⟨wanted_some rfl (by kernel_rfl) rfl rfl (hs 46 (by kernel_rfl)), _, rfl, .call2 rfl cf14 rfl rfl rfl rfl (PZ.kd (zadd_any _ _ y z _ (hs 47 (by kernel_rfl)) (hs 48 (by kernel_rfl)) (Wk.sz Wy (by decide)) (Wk.sz Wz (by decide))))⟩) ?_
      refine .cons (fun f w' hI hs => ?_) ?_
      · obtain ⟨s, x, p, h1, h2⟩ := hI.c
        exact ⟨wanted_some rfl (by kernel_rfl) rfl rfl (hs 46 (by kernel_rfl)), _, rfl, .val (rn_load29 rfl (fr_old rfl rfl) (b3_blk h1)) ⟨Below.refl _ _, h2⟩⟩
      refine .cons (fun f w' hI hs => ⟨wanted_some rfl (by kernel_rfl) rfl rfl (hs 46 (by kernel_rfl)), _, rfl, .call2 rfl cf14 rfl rfl rfl rfl (PZ.kd (zadd_any _ _ (y + z) t _ (hs 49 (by kernel_rfl)) (hs 50 (by kernel_rfl)) (Wk.sz (Wk.add (k := 12) (Wk.mono Wy (by decide)) (Wk.mono Wz (by decide))) (by decide)) (Wk.sz Wt (by decide))))⟩) ?_
      refine .cons (fun f w' hI hs => ?_) ?_
      · obtain ⟨s, x, p, h1, h2⟩ := hI.a
        exact ⟨wanted_some rfl (by kernel_rfl) rfl rfl (hs 46 (by kernel_rfl)), _, rfl, .val (rn_load29 rfl (fr_old rfl rfl) (b3_blk h1)) ⟨Below.refl _ _, h2⟩⟩
      refine .cons (fun f w' hI hs => ?_) ?_
      · obtain ⟨s, x, p, h1, h2⟩ := hI.b
        exact ⟨wanted_some rfl (by kernel_rfl) rfl rfl (hs 46 (by kernel_rfl)), _, rfl, .val (rn_load29 rfl (fr_old rfl rfl) (b3_blk h1)) ⟨Below.refl _ _, h2⟩⟩
      refine .cons (fun f w' hI hs => ?_) ?_
      · obtain ⟨s, x, p, h1, h2⟩ := hI.c
        exact ⟨wanted_some rfl (by kernel_rfl) rfl rfl (hs 46 (by kernel_rfl)), _, rfl, .val (rn_load29 rfl (fr_old rfl rfl) (b3_blk h1)) ⟨Below.refl _ _, h2⟩⟩
      refine .cons (fun f w' hI hs => ⟨wanted_some rfl (by kernel_rfl) rfl rfl (hs 46 (by kernel_rfl)), _, rfl, .call2 rfl cf14 rfl rfl rfl rfl (PZ.kd (zadd_any _ _ z t _ (hs 53 (by kernel_rfl)) (hs 54 (by kernel_rfl)) (Wk.sz Wz (by decide)) (Wk.sz Wt (by decide))))⟩) ?_
      refine .cons (fun f w' hI hs => ⟨wanted_some rfl (by kernel_rfl) rfl rfl (hs 46 (by kernel_rfl)), _, rfl, .call2 rfl cf14 rfl rfl rfl rfl (PZ.kd (zadd_any _ _ y (z + t) _ (hs 52 (by kernel_rfl)) (hs 55 (by kernel_rfl)) (Wk.sz Wy (by decide)) (Wk.sz (Wk.add (k := 12) (Wk.mono Wz (by decide)) (Wk.mono Wt (by decide))) (by decide))))⟩) ?_
      refine .cons (fun f w' hI hs => ⟨wanted_some rfl (by kernel_rfl) rfl rfl (hs 46 (by kernel_rfl)), _, rfl, .call2 rfl cf25 rfl rfl rfl rfl (PSg.kd (zcmp_any _ _ ((y + z) + t) (y + (z + t)) _ (hs 51 (by kernel_rfl)) (hs 56 (by kernel_rfl))) (by rw [Int.add_assoc]; exact sgnZ_self _))⟩) ?_
      refine .cons (fun f w' hI hs => ⟨wanted_some rfl (by kernel_rfl) rfl rfl (hs 46 (by kernel_rfl)), _, rfl, .val (rn_neq rfl ((fr_own rfl rfl).trans (hs 57 (by kernel_rfl))) rfl) ⟨Below.refl _ _, rfl⟩⟩) ?_
      refine .cons (fun f w' hI hs => ⟨wanted_none rfl, _, rfl, .val (rn_pick_f rfl ((fr_own rfl rfl).trans (hs 46 (by kernel_rfl)))) ⟨Below.refl _ _, (fr_own rfl rfl).trans (hs 58 (by kernel_rfl))⟩⟩) ?_
      refine .cons (fun f w' hI hs => ⟨wanted_none rfl, _, rfl, .val (rn_move rfl) ⟨Below.refl _ _, (fr_own rfl rfl).trans (hs 59 (by kernel_rfl))⟩⟩) ?_
      refine .cons (fun f w' hI hs => ?_) ?_
      · obtain ⟨s, x, p, h1, h2⟩ := hI.a
        exact ⟨wanted_some rfl (by kernel_rfl) rfl rfl (hs 60 (by kernel_rfl)), _, rfl, .val (rn_load29 rfl (fr_old rfl rfl) (b3_blk h1)) ⟨Below.refl _ _, h2⟩⟩
      refine .cons (fun f w' hI hs => ?_) ?_
      · obtain ⟨s, x, p, h1, h2⟩ := hI.b
        exact ⟨wanted_some rfl (by kernel_rfl) rfl rfl (hs 60 (by kernel_rfl)), _, rfl, .val (rn_load29 rfl (fr_old rfl rfl) (b3_blk h1)) ⟨Below.refl _ _, h2⟩⟩
      refine .cons (fun f w' hI hs => ⟨wanted_some rfl (by kernel_rfl) rfl rfl (hs 60 (by kernel_rfl)), _, rfl, .call2 rfl cf18 rfl rfl rfl rfl (PZ.kd (zmul_any _ _ y z _ (hs 61 (by kernel_rfl)) (hs 62 (by kernel_rfl)) (Wk.sz Wy (by decide)) (Wk.sz Wz (by decide))))⟩) ?_
      refine .cons (fun f w' hI hs => ?_) ?_
      · obtain ⟨s, x, p, h1, h2⟩ := hI.c
        exact ⟨wanted_some rfl (by kernel_rfl) rfl rfl (hs 60 (by kernel_rfl)), _, rfl, .val (rn_load29 rfl (fr_old rfl rfl) (b3_blk h1)) ⟨Below.refl _ _, h2⟩⟩
      refine .cons (fun f w' hI hs => ⟨wanted_some rfl (by kernel_rfl) rfl rfl (hs 60 (by kernel_rfl)), _, rfl, .call2 rfl cf18 rfl rfl rfl rfl (PZ.kd (zmul_any _ _ (y * z) t _ (hs 63 (by kernel_rfl)) (hs 64 (by kernel_rfl)) (Wk.sz (Wk.mul Wy Wz) (by decide)) (Wk.sz Wt (by decide))))⟩) ?_
      refine .cons (fun f w' hI hs => ?_) ?_
      · obtain ⟨s, x, p, h1, h2⟩ := hI.a
        exact ⟨wanted_some rfl (by kernel_rfl) rfl rfl (hs 60 (by kernel_rfl)), _, rfl, .val (rn_load29 rfl (fr_old rfl rfl) (b3_blk h1)) ⟨Below.refl _ _, h2⟩⟩
      refine .cons (fun f w' hI hs => ?_) ?_
      · obtain ⟨s, x, p, h1, h2⟩ := hI.b
        exact ⟨wanted_some rfl (by kernel_rfl) rfl rfl (hs 60 (by kernel_rfl)), _, rfl, .val (rn_load29 rfl (fr_old rfl rfl) (b3_blk h1)) ⟨Below.refl _ _, h2⟩⟩
      refine .cons (fun f w' hI hs => ?_) ?_
      · obtain ⟨s, x, p, h1, h2⟩ := hI.c
        exact ⟨wanted_some rfl (by kernel_rfl) rfl rfl (hs 60 (by kernel_rfl)), _, rfl, .val (rn_load29 rfl (fr_old rfl rfl) (b3_blk h1)) ⟨Below.refl _ _, h2⟩⟩
      refine .cons (fun f w' hI hs => ⟨wanted_some rfl (by kernel_rfl) rfl rfl (hs 60 (by kernel_rfl)), _, rfl, .call2 rfl cf18 rfl rfl rfl rfl (PZ.kd (zmul_any _ _ z t _ (hs 67 (by kernel_rfl)) (hs 68 (by kernel_rfl)) (Wk.sz Wz (by decide)) (Wk.sz Wt (by decide))))⟩) ?_
      refine .cons (fun f w' hI hs => ⟨wanted_some rfl (by kernel_rfl) rfl rfl (hs 60 (by kernel_rfl)), _, rfl, .call2 rfl cf18 rfl rfl rfl rfl (PZ.kd (zmul_any _ _ y (z * t) _ (hs 66 (by kernel_rfl)) (hs 69 (by kernel_rfl)) (Wk.sz Wy (by decide)) (Wk.sz (Wk.mul Wz Wt) (by decide))))⟩) ?_
      refine .cons (fun f w' hI hs => ⟨wanted_some rfl (by kernel_rfl) rfl rfl (hs 60 (by kernel_rfl)), _, rfl, .call2 rfl cf25 rfl rfl rfl rfl (PSg.kd (zcmp_any _ _ ((y * z) * t) (y * (z * t)) _ (hs 65 (by kernel_rfl)) (hs 70 (by kernel_rfl))) (by rw [Int.mul_assoc]; exact sgnZ_self _))⟩) ?_
      refine .cons (fun f w' hI hs => ⟨wanted_some rfl (by kernel_rfl) rfl rfl (hs 60 (by kernel_rfl)), _, rfl, .val (rn_neq rfl ((fr_own rfl rfl).trans (hs 71 (by kernel_rfl))) rfl) ⟨Below.refl _ _, rfl⟩⟩) ?_
      refine .cons (fun f w' hI hs => ⟨wanted_none rfl, _, rfl, .val (rn_pick_f rfl ((fr_own rfl rfl).trans (hs 60 (by kernel_rfl)))) ⟨Below.refl _ _, (fr_own rfl rfl).trans (hs 72 (by kernel_rfl))⟩⟩) ?_
      exact .nil
    · intro f w' hI hk
      have h73 : f 73 = .bool false := hk 73 (by kernel_rfl)
      refine hK _ _ (Met.intro (hJ _ _ ?_))
      (repeat apply Exists.intro)
      refine ⟨?_, rfl⟩
      exact ⟨h73, hI⟩
  case rest =>
    obtain ⟨rfl, S2⟩ := hcut
    have S2 := Lib.hid S2
    clear S
    go_wp2_with fail
    go_cut [6] (fun v wc => v = .bool true ∧ R3 w y z t w1.heap.size w2.heap.size w3.heap.size wc)
    case first =>
      rename_i J K' hJ hK
      refine wp_region_kd DA6 (tabB y z t) (R3 w y z t w1.heap.size w2.heap.size w3.heap.size) (by kernel_rfl) (by kernel_rfl) (by kernel_rfl) (by kernel_rfl) (fun _ _ h hb => h.keep hb) (S2.out.keep (Below.refl _ _).drew) ?_ ?_
      ·
        refine .cons (fun f w' hI hs => ?_) ?_
        · obtain ⟨s, x, p, h1, h2⟩ := hI.a
          exact ⟨wanted_none rfl, _, rfl, .val (rn_load29 rfl (fr_old rfl rfl) (b3_blk h1)) ⟨Below.refl _ _, h2⟩⟩
        refine .cons (fun f w' hI hs => ?_) ?_
        · obtain ⟨s, x, p, h1, h2⟩ := hI.b
          exact ⟨wanted_none rfl, _, rfl, .val (rn_load29 rfl (fr_old rfl rfl) (b3_blk h1)) ⟨Below.refl _ _, h2⟩⟩
        refine .cons (fun f w' hI hs => ?_) ?_
        · obtain ⟨s, x, p, h1, h2⟩ := hI.c
          exact ⟨wanted_none rfl, _, rfl, .val (rn_load29 rfl (fr_old rfl rfl) (b3_blk h1)) ⟨Below.refl _ _, h2⟩⟩
        refine .cons (fun f w' hI hs => ⟨wanted_none rfl, _, rfl, .call2 rfl cf14 rfl rfl rfl rfl (PZ.kd (zadd_any _ _ z t _ (hs 75 (by kernel_rfl)) (hs 76 (by kernel_rfl)) (Wk.sz Wz (by decide)) (Wk.sz Wt (by decide))))⟩) ?_
        refine .cons (fun f w' hI hs => ⟨wanted_none rfl, _, rfl, .call2 rfl cf18 rfl rfl rfl rfl (PZ.kd (zmul_any _ _ y (z + t) _ (hs 74 (by kernel_rfl)) (hs 77 (by kernel_rfl)) (Wk.sz Wy (by decide)) (Wk.sz (Wk.add (k := 12) (Wk.mono Wz (by decide)) (Wk.mono Wt (by decide))) (by decide))))⟩) ?_
        refine .cons (fun f w' hI hs => ?_) ?_
        · obtain ⟨s, x, p, h1, h2⟩ := hI.a
          exact ⟨wanted_none rfl, _, rfl, .val (rn_load29 rfl (fr_old rfl rfl) (b3_blk h1)) ⟨Below.refl _ _, h2⟩⟩
        refine .cons (fun f w' hI hs => ?_) ?_
        · obtain ⟨s, x, p, h1, h2⟩ := hI.b
          exact ⟨wanted_none rfl, _, rfl, .val (rn_load29 rfl (fr_old rfl rfl) (b3_blk h1)) ⟨Below.refl _ _, h2⟩⟩
        refine .cons (fun f w' hI hs => ⟨wanted_none rfl, _, rfl, .call2 rfl cf18 rfl rfl rfl rfl (PZ.kd (zmul_any _ _ y z _ (hs 79 (by kernel_rfl)) (hs 80 (by kernel_rfl)) (Wk.sz Wy (by decide)) (Wk.sz Wz (by decide))))⟩) ?_
        refine .cons (fun f w' hI hs => ?_) ?_
        · obtain ⟨s, x, p, h1, h2⟩ := hI.a
          exact ⟨wanted_none rfl, _, rfl, .val (rn_load29 rfl (fr_old rfl rfl) (b3_blk h1)) ⟨Below.refl _ _, h2⟩⟩
        refine .cons (fun f w' hI hs => ?_) ?_
        · obtain ⟨s, x, p, h1, h2⟩ := hI.c
          exact ⟨wanted_none rfl, _, rfl, .val (rn_load29 rfl (fr_old rfl rfl) (b3_blk h1)) ⟨Below.refl _ _, h2⟩⟩
        refine .cons (fun f w' hI hs => ⟨wanted_none rfl, _, rfl, .call2 rfl cf18 rfl rfl rfl rfl (PZ.kd (zmul_any _ _ y t _ (hs 82 (by kernel_rfl)) (hs 83 (by kernel_rfl)) (Wk.sz Wy (by decide)) (Wk.sz Wt (by decide))))⟩) ?_
        refine .cons (fun f w' hI hs => ⟨wanted_none rfl, _, rfl, .call2 rfl cf14 rfl rfl rfl rfl (PZ.kd (zadd_any _ _ (y * z) (y * t) _ (hs 81 (by kernel_rfl)) (hs 84 (by kernel_rfl)) (Wk.sz (Wk.mul Wy Wz) (by decide)) (Wk.sz (Wk.mul Wy Wt) (by decide))))⟩) ?_
        refine .cons (fun f w' hI hs => ⟨wanted_none rfl, _, rfl, .call2 rfl cf25 rfl rfl rfl rfl (PSg.kd (zcmp_any _ _ (y * (z + t)) ((y * z) + (y * t)) _ (hs 78 (by kernel_rfl)) (hs 85 (by kernel_rfl))) (by rw [Int.mul_add]; exact sgnZ_self _))⟩) ?_
        refine .cons (fun f w' hI hs => ⟨wanted_none rfl, _, rfl, .val (rn_eql rfl ((fr_own rfl rfl).trans (hs 86 (by kernel_rfl))) rfl) ⟨Below.refl _ _, rfl⟩⟩) ?_
        refine .cons (fun f w' hI hs => ⟨wanted_none rfl, _, rfl, .val (rn_move rfl) ⟨Below.refl _ _, (fr_own rfl rfl).trans (hs 87 (by kernel_rfl))⟩⟩) ?_
        refine .cons (fun f w' hI hs => ?_) ?_
        · obtain ⟨s, x, p, h1, h2⟩ := hI.a
          exact ⟨wanted_some rfl (by kernel_rfl) rfl rfl (hs 88 (by kernel_rfl)), _, rfl, .val (rn_load29 rfl (fr_old rfl rfl) (b3_blk h1)) ⟨Below.refl _ _, h2⟩⟩
        refine .cons (fun f w' hI hs => ?_) ?_
        · obtain ⟨s, x, p, h1, h2⟩ := hI.a
          exact ⟨wanted_some rfl (by kernel_rfl) rfl rfl (hs 88 (by kernel_rfl)), _, rfl, .val (rn_load29 rfl (fr_old rfl rfl) (b3_blk h1)) ⟨Below.refl _ _, h2⟩⟩
        refine .cons (fun f w' hI hs => ⟨wanted_some rfl (by kernel_rfl) rfl rfl (hs 88 (by kernel_rfl)), _, rfl, .call2 rfl cf16 rfl rfl rfl rfl (PZ.kd (zsub_any _ _ y y _ (hs 89 (by kernel_rfl)) (hs 90 (by kernel_rfl)) (Wk.sz Wy (by decide)) (Wk.sz Wy (by decide))))⟩) ?_
        refine .cons (fun f w' hI hs => ⟨wanted_some rfl (by kernel_rfl) rfl rfl (hs 88 (by kernel_rfl)), _, rfl, .call1 rfl cf24 rfl rfl (PSi.kd (sign_any _ (y - y) _ (hs 91 (by kernel_rfl))) (by simp))⟩) ?_
        refine .cons (fun f w' hI hs => ⟨wanted_some rfl (by kernel_rfl) rfl rfl (hs 88 (by kernel_rfl)), _, rfl, .val (rn_eql rfl ((fr_own rfl rfl).trans (hs 92 (by kernel_rfl))) rfl) ⟨Below.refl _ _, rfl⟩⟩) ?_
        refine .cons (fun f w' hI hs => ⟨wanted_none rfl, _, rfl, .val (rn_pick_t rfl ((fr_own rfl rfl).trans (hs 88 (by kernel_rfl)))) ⟨Below.refl _ _, (fr_own rfl rfl).trans (hs 93 (by kernel_rfl))⟩⟩) ?_
        refine .cons (fun f w' hI hs => ⟨wanted_none rfl, _, rfl, .val (rn_move rfl) ⟨Below.refl _ _, (fr_own rfl rfl).trans (hs 94 (by kernel_rfl))⟩⟩) ?_
        refine .cons (fun f w' hI hs => ?_) ?_
        · obtain ⟨s, x, p, h1, h2⟩ := hI.a
          exact ⟨wanted_some rfl (by kernel_rfl) rfl rfl (hs 95 (by kernel_rfl)), _, rfl, .val (rn_load29 rfl (fr_old rfl rfl) (b3_blk h1)) ⟨Below.refl _ _, h2⟩⟩
        refine .cons (fun f w' hI hs => ?_) ?_
        · obtain ⟨s, x, p, h1, h2⟩ := hI.b
          exact ⟨wanted_some rfl (by kernel_rfl) rfl rfl (hs 95 (by kernel_rfl)), _, rfl, .val (rn_load29 rfl (fr_old rfl rfl) (b3_blk h1)) ⟨Below.refl _ _, h2⟩⟩
        refine .cons (fun f w' hI hs => ⟨wanted_some rfl (by kernel_rfl) rfl rfl (hs 95 (by kernel_rfl)), _, rfl, .call2 rfl cf16 rfl rfl rfl rfl (PZ.kd (zsub_any _ _ y z _ (hs 96 (by kernel_rfl)) (hs 97 (by kernel_rfl)) (Wk.sz Wy (by decide)) (Wk.sz Wz (by decide))))⟩) ?_
        refine .cons (fun f w' hI hs => ?_) ?_
        · obtain ⟨s, x, p, h1, h2⟩ := hI.a
          exact ⟨wanted_some rfl (by kernel_rfl) rfl rfl (hs 95 (by kernel_rfl)), _, rfl, .val (rn_load29 rfl (fr_old rfl rfl) (b3_blk h1)) ⟨Below.refl _ _, h2⟩⟩
        refine .cons (fun f w' hI hs => ?_) ?_
        · obtain ⟨s, x, p, h1, h2⟩ := hI.b
          exact ⟨wanted_some rfl (by kernel_rfl) rfl rfl (hs 95 (by kernel_rfl)), _, rfl, .val (rn_load29 rfl (fr_old rfl rfl) (b3_blk h1)) ⟨Below.refl _ _, h2⟩⟩
        refine .cons (fun f w' hI hs => ⟨wanted_some rfl (by kernel_rfl) rfl rfl (hs 95 (by kernel_rfl)), _, rfl, .call2 rfl cf14 rfl rfl rfl rfl (PZ.kd (zadd_any _ _ y z _ (hs 99 (by kernel_rfl)) (hs 100 (by kernel_rfl)) (Wk.sz Wy (by decide)) (Wk.sz Wz (by decide))))⟩) ?_
        refine .cons (fun f w' hI hs => ⟨wanted_some rfl (by kernel_rfl) rfl rfl (hs 95 (by kernel_rfl)), _, rfl, .call2 rfl cf18 rfl rfl rfl rfl (PZ.kd (zmul_any _ _ (y - z) (y + z) _ (hs 98 (by kernel_rfl)) (hs 101 (by kernel_rfl)) (Wk.sz (Wk.sub (k := 12) (Wk.mono Wy (by decide)) (Wk.mono Wz (by decide))) (by decide)) (Wk.sz (Wk.add (k := 12) (Wk.mono Wy (by decide)) (Wk.mono Wz (by decide))) (by decide))))⟩) ?_
        refine .cons (fun f w' hI hs => ?_) ?_
        · obtain ⟨s, x, p, h1, h2⟩ := hI.a
          exact ⟨wanted_some rfl (by kernel_rfl) rfl rfl (hs 95 (by kernel_rfl)), _, rfl, .val (rn_load29 rfl (fr_old rfl rfl) (b3_blk h1)) ⟨Below.refl _ _, h2⟩⟩
        refine .cons (fun f w' hI hs => ?_) ?_
        · obtain ⟨s, x, p, h1, h2⟩ := hI.a
          exact ⟨wanted_some rfl (by kernel_rfl) rfl rfl (hs 95 (by kernel_rfl)), _, rfl, .val (rn_load29 rfl (fr_old rfl rfl) (b3_blk h1)) ⟨Below.refl _ _, h2⟩⟩
        refine .cons (fun f w' hI hs => ⟨wanted_some rfl (by kernel_rfl) rfl rfl (hs 95 (by kernel_rfl)), _, rfl, .call2 rfl cf18 rfl rfl rfl rfl (PZ.kd (zmul_any _ _ y y _ (hs 103 (by kernel_rfl)) (hs 104 (by kernel_rfl)) (Wk.sz Wy (by decide)) (Wk.sz Wy (by decide))))⟩) ?_
        refine .cons (fun f w' hI hs => ?_) ?_
        · obtain ⟨s, x, p, h1, h2⟩ := hI.b
          exact ⟨wanted_some rfl (by kernel_rfl) rfl rfl (hs 95 (by kernel_rfl)), _, rfl, .val (rn_load29 rfl (fr_old rfl rfl) (b3_blk h1)) ⟨Below.refl _ _, h2⟩⟩
        refine .cons (fun f w' hI hs => ?_) ?_
        · obtain ⟨s, x, p, h1, h2⟩ := hI.b
          exact ⟨wanted_some rfl (by kernel_rfl) rfl rfl (hs 95 (by kernel_rfl)), _, rfl, .val (rn_load29 rfl (fr_old rfl rfl) (b3_blk h1)) ⟨Below.refl _ _, h2⟩⟩
        refine .cons (fun f w' hI hs => ⟨wanted_some rfl (by kernel_rfl) rfl rfl (hs 95 (by kernel_rfl)), _, rfl, .call2 rfl cf18 rfl rfl rfl rfl (PZ.kd (zmul_any _ _ z z _ (hs 106 (by kernel_rfl)) (hs 107 (by kernel_rfl)) (Wk.sz Wz (by decide)) (Wk.sz Wz (by decide))))⟩) ?_
        refine .cons (fun f w' hI hs => ⟨wanted_some rfl (by kernel_rfl) rfl rfl (hs 95 (by kernel_rfl)), _, rfl, .call2 rfl cf16 rfl rfl rfl rfl (PZ.kd (zsub_any _ _ (y * y) (z * z) _ (hs 105 (by kernel_rfl)) (hs 108 (by kernel_rfl)) (Wk.sz (Wk.mul Wy Wy) (by decide)) (Wk.sz (Wk.mul Wz Wz) (by decide))))⟩) ?_
        refine .cons (fun f w' hI hs => ⟨wanted_some rfl (by kernel_rfl) rfl rfl (hs 95 (by kernel_rfl)), _, rfl, .call2 rfl cf25 rfl rfl rfl rfl (PSg.kd (zcmp_any _ _ ((y - z) * (y + z)) ((y * y) - (z * z)) _ (hs 102 (by kernel_rfl)) (hs 109 (by kernel_rfl))) (by rw [show (y - z) * (y + z) = y * y - z * z by rw [Int.sub_mul, Int.mul_add, Int.mul_add, Int.mul_comm z y]; omega]; exact sgnZ_self _))⟩) ?_
        refine .cons (fun f w' hI hs => ⟨wanted_some rfl (by kernel_rfl) rfl rfl (hs 95 (by kernel_rfl)), _, rfl, .val (rn_eql rfl ((fr_own rfl rfl).trans (hs 110 (by kernel_rfl))) rfl) ⟨Below.refl _ _, rfl⟩⟩) ?_
        refine .cons (fun f w' hI hs => ⟨wanted_none rfl, _, rfl, .val (rn_pick_t rfl ((fr_own rfl rfl).trans (hs 95 (by kernel_rfl)))) ⟨Below.refl _ _, (fr_own rfl rfl).trans (hs 111 (by kernel_rfl))⟩⟩) ?_
        refine .cons (fun f w' hI hs => ⟨wanted_none rfl, _, rfl, .val (rn_move rfl) ⟨Below.refl _ _, (fr_own rfl rfl).trans (hs 112 (by kernel_rfl))⟩⟩) ?_
        refine .cons (fun f w' hI hs => ⟨wanted_some rfl (by kernel_rfl) rfl rfl (hs 113 (by kernel_rfl)), _, rfl, .call0 rfl cf27 (PB.kd (awake_any _))⟩) ?_
        refine .cons (fun f w' hI hs => ⟨wanted_none rfl, _, rfl, .val (rn_pick_t rfl ((fr_own rfl rfl).trans (hs 113 (by kernel_rfl)))) ⟨Below.refl _ _, (fr_own rfl rfl).trans (hs 114 (by kernel_rfl))⟩⟩) ?_
        refine .cons (fun f w' hI hs => ⟨wanted_none rfl, _, rfl, .val (rn_assign rfl) ⟨Below.refl _ _, (fr_own rfl rfl).trans (hs 115 (by kernel_rfl))⟩⟩) ?_
        exact .nil
      · intro f w' hI hk
        have h6 : f 6 = .bool true := hk 6 (by kernel_rfl)
        refine hK _ _ (Met.intro (hJ _ _ ?_))
        (repeat apply Exists.intro)
        refine ⟨?_, rfl⟩
        exact ⟨h6, hI⟩
    case rest =>
      obtain ⟨rfl, S3⟩ := hcut
      go_wp2
      go_ret
      exact ⟨S3.k, rfl⟩
end Go.Proofs.Ytjjomjjgoceklaa
