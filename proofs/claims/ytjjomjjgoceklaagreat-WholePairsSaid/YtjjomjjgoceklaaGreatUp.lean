import Derived.Test.YtjjomjjgoceklaaGreatUo
import Derived.Test.YtjjomjjgoceklaaGreatUl
namespace Go.Proofs.YtjjomjjgoceklaaGreat
set_option maxRecDepth 100000
open Go.RowKit

/-! Same, SameV, VText, V.Same, V.Add, V.Sub -/
theorem tx_sz {k : Nat} {a : Rat} (h : Bd9 k a) (hk : k ≤ 1000) : (txt a.num).size ≤ 200000 ∧ (txt (a.den : Int)).size ≤ 200000 := by
  have n1 := sz_nd (h.szn hk); have n2 := sz_nd (h.szd hk)
  have t1 := txt_size a.num; have t2 := txt_size (a.den : Int)
  rw [Int.natAbs_natCast] at t2
  omega
theorem txR_sz {k : Nat} {a : Rat} (h : Bd9 k a) (hk : k ≤ 1000) : (txtR a.num a.den).size ≤ 300000 := txtR_le (sz_nd (h.szn hk)) (sz_nd (h.szd hk))
def tabI73t (w : World) (a b c d : Rat) (b2 : Bool) (tt : Nat) : Kd := [(.v (.bool b2)), (kp w.heap.size 0), (kra a), (kp (w.heap.size + 1) 0), (kra c), (ki (cmpQ a c)), (.v (.bool true)), (.v (.bool true)), (kp w.heap.size 4), (kra b), (kp (w.heap.size + 1) 4), (kra d), (ki (cmpQ b d)), (.v (.bool b2)), (.v (.bool b2))].getD (tt - 4) .any
def tabI73f (w : World) (a c : Rat) (tt : Nat) : Kd := [(.v (.bool false)), (kp w.heap.size 0), (kra a), (kp (w.heap.size + 1) 0), (kra c), (ki (cmpQ a c)), (.v (.bool false)), (.v (.bool false)), (.v undef), (.v undef), (.v undef), (.v undef), (.v undef), (.v undef), (.v (.bool false))].getD (tt - 4) .any
def DI73 (t : Nat) : Bool := (Nat.ble 4 t && Nat.ble t 18)
set_option maxHeartbeats 1600000 in
theorem nsame_any (va vb : Value) (a b c d : Rat) (k l : Nat) (w : World) (ha : RVA w va a b) (hb : RVA w vb c d) (ba : Bd9 k a) (bb : Bd9 k b) (bc : Bd9 l c) (bd : Bd9 l d) (hk : k + l ≤ 75) : Calls Tryz.prog 73 #[va, vb] w (PB ((cmpQ a c == 0) && (cmpQ b d == 0)) w) := by
  obtain ⟨t1, f1, l1, c1, u1, hh1, m1, cc1, t2, f2, l2, c2, u2, hh2, m2, cc2, rfl⟩ := ha.agg
  obtain ⟨t3, f3, l3, c3, u3, hh3, m3, cc3, t4, f4, l4, c4, u4, hh4, m4, cc4, rfl⟩ := hb.agg
  have S0 : Gpp w a b c d ((w.alloc (.cells #[.int .i64 t1, .slice f1 l1 c1, .int .i64 u1, .slice hh1 m1 cc1, .int .i64 t2, .slice f2 l2 c2, .int .i64 u2, .slice hh2 m2 cc2] 86)).alloc (.cells #[.int .i64 t3, .slice f3 l3 c3, .int .i64 u3, .slice hh3 m3 cc3, .int .i64 t4, .slice f4 l4 c4, .int .i64 u4, .slice hh4 m4 cc4] 86)) := by
    refine ⟨bl2 _ _ _, (HVA.new ha).keep (bl1 _ _), ?_⟩
    have := HVA.new (hb.keep (bl1 w (.cells #[.int .i64 t1, .slice f1 l1 c1, .int .i64 u1, .slice hh1 m1 cc1, .int .i64 t2, .slice f2 l2 c2, .int .i64 u2, .slice hh2 m2 cc2] 86)) (Nat.le_refl _))
    rw [World.size_alloc] at this
    exact this
  have S := Lib.hid S0
  clear ha hb S0
  obtain ⟨b1, hb1⟩ : ∃ b1, (cmpQ a c == 0) = b1 := ⟨_, rfl⟩
  obtain ⟨b2, hb2⟩ : ∃ b2, (cmpQ b d == 0) = b2 := ⟨_, rfl⟩
  have T1 := hb1
  have T2 := hb2
  rw [T1, T2]
  have TT1 := Lib.hid T1; have TT2 := Lib.hid T2
  clear hb1 hb2 T1 T2
  go_enter Tryz.func73, Tryz.ntmps73
  go_upto_region 1 with fail
  go_cut [4] (fun v wx => v = .bool (b1 && b2) ∧ Below w.heap.size w wx)
  case first =>
    rename_i J K' hJ hK
    have T1 := TT1.out; have T2 := TT2.out
    cases b1 with
    | true =>
      refine wp_region_ks DI73 (tabI73t w a b c d b2) (Gpp w a b c d) (by kernel_rfl) (by kernel_rfl) (by kernel_rfl) (fun _ _ h hb => h.keep hb) S.out ?_ ?_
      ·
        refine .cons (fun f w' hI hs => ⟨_, rfl, .inl ⟨wanted_none rfl, .val (rn_field86_0 rfl (fr_old rfl rfl)) ⟨Below.refl _ _, rfl⟩⟩⟩) ?_
        refine .cons (fun f w' hI hs => ?_) ?_
        · obtain ⟨t1, f1, l1, c1, u1, hh1, m1, cc1, t2, f2, l2, c2, u2, hh2, m2, cc2, e1, e2, e3⟩ := hI.u
          exact ⟨_, rfl, .inl ⟨wanted_none rfl, .val (rn_load44a rfl ((fr_own rfl rfl).trans (hs 5 (by kernel_rfl))) e1) ⟨Below.refl _ _, e2⟩⟩⟩
        refine .cons (fun f w' hI hs => ⟨_, rfl, .inl ⟨wanted_none rfl, .val (rn_field86_0 rfl (fr_old rfl rfl)) ⟨Below.refl _ _, rfl⟩⟩⟩) ?_
        refine .cons (fun f w' hI hs => ?_) ?_
        · obtain ⟨t1, f1, l1, c1, u1, hh1, m1, cc1, t2, f2, l2, c2, u2, hh2, m2, cc2, e1, e2, e3⟩ := hI.v
          exact ⟨_, rfl, .inl ⟨wanted_none rfl, .val (rn_load44a rfl ((fr_own rfl rfl).trans (hs 7 (by kernel_rfl))) e1) ⟨Below.refl _ _, e2⟩⟩⟩
        refine .cons (fun f w' hI hs => ⟨_, rfl, .inl ⟨wanted_none rfl, .call2 rfl cf53' rfl rfl rfl rfl (PCq.kd (rcmpr_any _ _ a c _ _ _ (hs 6 (by kernel_rfl)) (hs 8 (by kernel_rfl)) ba bc (by omega)))⟩⟩) ?_
        refine .cons (fun f w' hI hs => ⟨_, rfl, .inl ⟨wanted_none rfl, .val (rn_eqlI rfl ((fr_own rfl rfl).trans (hs 9 (by kernel_rfl))) rfl T1) ⟨Below.refl _ _, rfl⟩⟩⟩) ?_
        refine .cons (fun f w' hI hs => ⟨_, rfl, .inl ⟨wanted_none rfl, .val (rn_move rfl) ⟨Below.refl _ _, ((fr_own rfl rfl).trans (hs 10 (by kernel_rfl)))⟩⟩⟩) ?_
        refine .cons (fun f w' hI hs => ⟨_, rfl, .inl ⟨wanted_some rfl (by kernel_rfl) rfl rfl (hs 11 (by kernel_rfl)), .val (rn_field86_1 rfl (fr_old rfl rfl)) ⟨Below.refl _ _, rfl⟩⟩⟩) ?_
        refine .cons (fun f w' hI hs => ?_) ?_
        · obtain ⟨t1, f1, l1, c1, u1, hh1, m1, cc1, t2, f2, l2, c2, u2, hh2, m2, cc2, e1, e2, e3⟩ := hI.u
          exact ⟨_, rfl, .inl ⟨wanted_some rfl (by kernel_rfl) rfl rfl (hs 11 (by kernel_rfl)), .val (rn_load44b rfl ((fr_own rfl rfl).trans (hs 12 (by kernel_rfl))) e1) ⟨Below.refl _ _, e3⟩⟩⟩
        refine .cons (fun f w' hI hs => ⟨_, rfl, .inl ⟨wanted_some rfl (by kernel_rfl) rfl rfl (hs 11 (by kernel_rfl)), .val (rn_field86_1 rfl (fr_old rfl rfl)) ⟨Below.refl _ _, rfl⟩⟩⟩) ?_
        refine .cons (fun f w' hI hs => ?_) ?_
        · obtain ⟨t1, f1, l1, c1, u1, hh1, m1, cc1, t2, f2, l2, c2, u2, hh2, m2, cc2, e1, e2, e3⟩ := hI.v
          exact ⟨_, rfl, .inl ⟨wanted_some rfl (by kernel_rfl) rfl rfl (hs 11 (by kernel_rfl)), .val (rn_load44b rfl ((fr_own rfl rfl).trans (hs 14 (by kernel_rfl))) e1) ⟨Below.refl _ _, e3⟩⟩⟩
        refine .cons (fun f w' hI hs => ⟨_, rfl, .inl ⟨wanted_some rfl (by kernel_rfl) rfl rfl (hs 11 (by kernel_rfl)), .call2 rfl cf53' rfl rfl rfl rfl (PCq.kd (rcmpr_any _ _ b d _ _ _ (hs 13 (by kernel_rfl)) (hs 15 (by kernel_rfl)) bb bd (by omega)))⟩⟩) ?_
        refine .cons (fun f w' hI hs => ⟨_, rfl, .inl ⟨wanted_some rfl (by kernel_rfl) rfl rfl (hs 11 (by kernel_rfl)), .val (rn_eqlI rfl ((fr_own rfl rfl).trans (hs 16 (by kernel_rfl))) rfl T2) ⟨Below.refl _ _, rfl⟩⟩⟩) ?_
        refine .cons (fun f w' hI hs => ⟨_, rfl, .inl ⟨wanted_none rfl, .val (rn_pick_t rfl ((fr_own rfl rfl).trans (hs 11 (by kernel_rfl)))) ⟨Below.refl _ _, ((fr_own rfl rfl).trans (hs 17 (by kernel_rfl)))⟩⟩⟩) ?_
        refine .cons (fun f w' hI hs => ⟨_, rfl, .inl ⟨wanted_none rfl, .val (rn_assign rfl) ⟨Below.refl _ _, ((fr_own rfl rfl).trans (hs 18 (by kernel_rfl)))⟩⟩⟩) ?_
        exact .nil
      · intro f w' hI hk
        have h4 : f 4 = .bool (b2) := hk 4 (by kernel_rfl)
        refine hK _ _ (Met.intro (hJ _ _ ?_))
        (repeat apply Exists.intro)
        refine ⟨?_, rfl⟩
        exact ⟨h4, hI.kb⟩
    | false =>
      refine wp_region_ks DI73 (tabI73f w a c) (Gpp w a b c d) (by kernel_rfl) (by kernel_rfl) (by kernel_rfl) (fun _ _ h hb => h.keep hb) S.out ?_ ?_
      ·
        refine .cons (fun f w' hI hs => ⟨_, rfl, .inl ⟨wanted_none rfl, .val (rn_field86_0 rfl (fr_old rfl rfl)) ⟨Below.refl _ _, rfl⟩⟩⟩) ?_
        refine .cons (fun f w' hI hs => ?_) ?_
        · obtain ⟨t1, f1, l1, c1, u1, hh1, m1, cc1, t2, f2, l2, c2, u2, hh2, m2, cc2, e1, e2, e3⟩ := hI.u
          exact ⟨_, rfl, .inl ⟨wanted_none rfl, .val (rn_load44a rfl ((fr_own rfl rfl).trans (hs 5 (by kernel_rfl))) e1) ⟨Below.refl _ _, e2⟩⟩⟩
        refine .cons (fun f w' hI hs => ⟨_, rfl, .inl ⟨wanted_none rfl, .val (rn_field86_0 rfl (fr_old rfl rfl)) ⟨Below.refl _ _, rfl⟩⟩⟩) ?_
        refine .cons (fun f w' hI hs => ?_) ?_
        · obtain ⟨t1, f1, l1, c1, u1, hh1, m1, cc1, t2, f2, l2, c2, u2, hh2, m2, cc2, e1, e2, e3⟩ := hI.v
          exact ⟨_, rfl, .inl ⟨wanted_none rfl, .val (rn_load44a rfl ((fr_own rfl rfl).trans (hs 7 (by kernel_rfl))) e1) ⟨Below.refl _ _, e2⟩⟩⟩
        refine .cons (fun f w' hI hs => ⟨_, rfl, .inl ⟨wanted_none rfl, .call2 rfl cf53' rfl rfl rfl rfl (PCq.kd (rcmpr_any _ _ a c _ _ _ (hs 6 (by kernel_rfl)) (hs 8 (by kernel_rfl)) ba bc (by omega)))⟩⟩) ?_
        refine .cons (fun f w' hI hs => ⟨_, rfl, .inl ⟨wanted_none rfl, .val (rn_eqlI rfl ((fr_own rfl rfl).trans (hs 9 (by kernel_rfl))) rfl T1) ⟨Below.refl _ _, rfl⟩⟩⟩) ?_
        refine .cons (fun f w' hI hs => ⟨_, rfl, .inl ⟨wanted_none rfl, .val (rn_move rfl) ⟨Below.refl _ _, ((fr_own rfl rfl).trans (hs 10 (by kernel_rfl)))⟩⟩⟩) ?_
        refine .cons (fun f w' hI hs => ⟨_, rfl, .inr ⟨wanted_not rfl (by kernel_rfl) rfl rfl (hs 11 (by kernel_rfl)) rfl, rfl⟩⟩) ?_
        refine .cons (fun f w' hI hs => ⟨_, rfl, .inr ⟨wanted_not rfl (by kernel_rfl) rfl rfl (hs 11 (by kernel_rfl)) rfl, rfl⟩⟩) ?_
        refine .cons (fun f w' hI hs => ⟨_, rfl, .inr ⟨wanted_not rfl (by kernel_rfl) rfl rfl (hs 11 (by kernel_rfl)) rfl, rfl⟩⟩) ?_
        refine .cons (fun f w' hI hs => ⟨_, rfl, .inr ⟨wanted_not rfl (by kernel_rfl) rfl rfl (hs 11 (by kernel_rfl)) rfl, rfl⟩⟩) ?_
        refine .cons (fun f w' hI hs => ⟨_, rfl, .inr ⟨wanted_not rfl (by kernel_rfl) rfl rfl (hs 11 (by kernel_rfl)) rfl, rfl⟩⟩) ?_
        refine .cons (fun f w' hI hs => ⟨_, rfl, .inr ⟨wanted_not rfl (by kernel_rfl) rfl rfl (hs 11 (by kernel_rfl)) rfl, rfl⟩⟩) ?_
        refine .cons (fun f w' hI hs => ⟨_, rfl, .inl ⟨wanted_none rfl, .val (rn_pick_f rfl ((fr_own rfl rfl).trans (hs 11 (by kernel_rfl)))) ⟨Below.refl _ _, rfl⟩⟩⟩) ?_
        refine .cons (fun f w' hI hs => ⟨_, rfl, .inl ⟨wanted_none rfl, .val (rn_assign rfl) ⟨Below.refl _ _, ((fr_own rfl rfl).trans (hs 18 (by kernel_rfl)))⟩⟩⟩) ?_
        exact .nil
      · intro f w' hI hk
        have h4 : f 4 = .bool (false) := hk 4 (by kernel_rfl)
        refine hK _ _ (Met.intro (hJ _ _ ?_))
        (repeat apply Exists.intro)
        refine ⟨?_, rfl⟩
        exact ⟨h4, hI.kb⟩
  case rest =>
    obtain ⟨rfl, kf⟩ := hcut
    clear S
    generalize hbb : (b1 && b2) = bb0
    go_wp2
    go_ret
    exact ⟨kf, by rw [hbb]; rfl⟩
def tabI72t (w : World) (a b c d : Rat) (b2 : Bool) (tt : Nat) : Kd := [(.v (.bool b2)), (kp w.heap.size 0), (.q a.num a.den), (kp (w.heap.size + 1) 0), (.q c.num c.den), (ki (cmpQ a c)), (.v (.bool true)), (.v (.bool true)), (kp w.heap.size 5), (.q b.num b.den), (kp (w.heap.size + 1) 5), (.q d.num d.den), (ki (cmpQ b d)), (.v (.bool b2)), (.v (.bool b2))].getD (tt - 4) .any
def tabI72f (w : World) (a c : Rat) (tt : Nat) : Kd := [(.v (.bool false)), (kp w.heap.size 0), (.q a.num a.den), (kp (w.heap.size + 1) 0), (.q c.num c.den), (ki (cmpQ a c)), (.v (.bool false)), (.v (.bool false)), (.v undef), (.v undef), (.v undef), (.v undef), (.v undef), (.v undef), (.v (.bool false))].getD (tt - 4) .any
def DI72 (t : Nat) : Bool := (Nat.ble 4 t && Nat.ble t 18)
set_option maxHeartbeats 1600000 in
theorem vsame_any (va vb : Value) (a b c d : Rat) (k l : Nat) (w : World) (ha : Vv w va a b) (hb : Vv w vb c d) (ba : Bd9 k a) (bb : Bd9 k b) (bc : Bd9 l c) (bd : Bd9 l d) (hk : k + l ≤ 75) : Calls Tryz.prog 72 #[va, vb] w (PB ((cmpQ a c == 0) && (cmpQ b d == 0)) w) := by
  obtain ⟨s1, x1, p1, y1, q1, s2, x2, p2, y2, q2, rfl⟩ := ha.agg
  obtain ⟨s3, x3, p3, y3, q3, s4, x4, p4, y4, q4, rfl⟩ := hb.agg
  have S0 : GPP w a b c d ((w.alloc (.cells #[.bool s1, .int .u64 x1, .pointer p1, .int .u64 y1, .pointer q1, .bool s2, .int .u64 x2, .pointer p2, .int .u64 y2, .pointer q2] 84)).alloc (.cells #[.bool s3, .int .u64 x3, .pointer p3, .int .u64 y3, .pointer q3, .bool s4, .int .u64 x4, .pointer p4, .int .u64 y4, .pointer q4] 84)) := by
    refine ⟨bl2 _ _ _, (Hvv.new ha).keep (bl1 _ _), ?_⟩
    have := Hvv.new (hb.keep (bl1 w (.cells #[.bool s1, .int .u64 x1, .pointer p1, .int .u64 y1, .pointer q1, .bool s2, .int .u64 x2, .pointer p2, .int .u64 y2, .pointer q2] 84)) (Nat.le_refl _))
    rw [World.size_alloc] at this
    exact this
  have S := Lib.hid S0
  clear ha hb S0
  obtain ⟨b1, hb1⟩ : ∃ b1, (cmpQ a c == 0) = b1 := ⟨_, rfl⟩
  obtain ⟨b2, hb2⟩ : ∃ b2, (cmpQ b d == 0) = b2 := ⟨_, rfl⟩
  have T1 := hb1
  have T2 := hb2
  rw [T1, T2]
  have TT1 := Lib.hid T1; have TT2 := Lib.hid T2
  clear hb1 hb2 T1 T2
  go_enter Tryz.func72, Tryz.ntmps72
  go_upto_region 1 with fail
  go_cut [4] (fun v wx => v = .bool (b1 && b2) ∧ Below w.heap.size w wx)
  case first =>
    rename_i J K' hJ hK
    have T1 := TT1.out; have T2 := TT2.out
    cases b1 with
    | true =>
      refine wp_region_ks DI72 (tabI72t w a b c d b2) (GPP w a b c d) (by kernel_rfl) (by kernel_rfl) (by kernel_rfl) (fun _ _ h hb => h.keep hb) S.out ?_ ?_
      ·
        refine .cons (fun f w' hI hs => ⟨_, rfl, .inl ⟨wanted_none rfl, .val (rn_field71_0 rfl (fr_old rfl rfl)) ⟨Below.refl _ _, rfl⟩⟩⟩) ?_
        refine .cons (fun f w' hI hs => ?_) ?_
        · obtain ⟨s, x, p, y, q, h1, h2⟩ := hI.u.x
          exact ⟨_, rfl, .inl ⟨wanted_none rfl, .val (rn_load61c rfl ((fr_own rfl rfl).trans (hs 5 (by kernel_rfl))) h1) ⟨Below.refl _ _, h2⟩⟩⟩
        refine .cons (fun f w' hI hs => ⟨_, rfl, .inl ⟨wanted_none rfl, .val (rn_field71_0 rfl (fr_old rfl rfl)) ⟨Below.refl _ _, rfl⟩⟩⟩) ?_
        refine .cons (fun f w' hI hs => ?_) ?_
        · obtain ⟨s, x, p, y, q, h1, h2⟩ := hI.v.x
          exact ⟨_, rfl, .inl ⟨wanted_none rfl, .val (rn_load61c rfl ((fr_own rfl rfl).trans (hs 7 (by kernel_rfl))) h1) ⟨Below.refl _ _, h2⟩⟩⟩
        refine .cons (fun f w' hI hs => ⟨_, rfl, .inl ⟨wanted_none rfl, .call2 rfl cf52 rfl rfl rfl rfl (PCq.kd (rcmpR (a := a) (b := c) (hs 6 (by kernel_rfl)) (hs 8 (by kernel_rfl)) ba bc (by omega) (by omega)))⟩⟩) ?_
        refine .cons (fun f w' hI hs => ⟨_, rfl, .inl ⟨wanted_none rfl, .val (rn_eqlI rfl ((fr_own rfl rfl).trans (hs 9 (by kernel_rfl))) rfl T1) ⟨Below.refl _ _, rfl⟩⟩⟩) ?_
        refine .cons (fun f w' hI hs => ⟨_, rfl, .inl ⟨wanted_none rfl, .val (rn_move rfl) ⟨Below.refl _ _, ((fr_own rfl rfl).trans (hs 10 (by kernel_rfl)))⟩⟩⟩) ?_
        refine .cons (fun f w' hI hs => ⟨_, rfl, .inl ⟨wanted_some rfl (by kernel_rfl) rfl rfl (hs 11 (by kernel_rfl)), .val (rn_field71_1 rfl (fr_old rfl rfl)) ⟨Below.refl _ _, rfl⟩⟩⟩) ?_
        refine .cons (fun f w' hI hs => ?_) ?_
        · obtain ⟨s, x, p, y, q, h1, h2⟩ := hI.u.z
          exact ⟨_, rfl, .inl ⟨wanted_some rfl (by kernel_rfl) rfl rfl (hs 11 (by kernel_rfl)), .val (rn_load61c rfl ((fr_own rfl rfl).trans (hs 12 (by kernel_rfl))) h1) ⟨Below.refl _ _, h2⟩⟩⟩
        refine .cons (fun f w' hI hs => ⟨_, rfl, .inl ⟨wanted_some rfl (by kernel_rfl) rfl rfl (hs 11 (by kernel_rfl)), .val (rn_field71_1 rfl (fr_old rfl rfl)) ⟨Below.refl _ _, rfl⟩⟩⟩) ?_
        refine .cons (fun f w' hI hs => ?_) ?_
        · obtain ⟨s, x, p, y, q, h1, h2⟩ := hI.v.z
          exact ⟨_, rfl, .inl ⟨wanted_some rfl (by kernel_rfl) rfl rfl (hs 11 (by kernel_rfl)), .val (rn_load61c rfl ((fr_own rfl rfl).trans (hs 14 (by kernel_rfl))) h1) ⟨Below.refl _ _, h2⟩⟩⟩
        refine .cons (fun f w' hI hs => ⟨_, rfl, .inl ⟨wanted_some rfl (by kernel_rfl) rfl rfl (hs 11 (by kernel_rfl)), .call2 rfl cf52 rfl rfl rfl rfl (PCq.kd (rcmpR (a := b) (b := d) (hs 13 (by kernel_rfl)) (hs 15 (by kernel_rfl)) bb bd (by omega) (by omega)))⟩⟩) ?_
        refine .cons (fun f w' hI hs => ⟨_, rfl, .inl ⟨wanted_some rfl (by kernel_rfl) rfl rfl (hs 11 (by kernel_rfl)), .val (rn_eqlI rfl ((fr_own rfl rfl).trans (hs 16 (by kernel_rfl))) rfl T2) ⟨Below.refl _ _, rfl⟩⟩⟩) ?_
        refine .cons (fun f w' hI hs => ⟨_, rfl, .inl ⟨wanted_none rfl, .val (rn_pick_t rfl ((fr_own rfl rfl).trans (hs 11 (by kernel_rfl)))) ⟨Below.refl _ _, ((fr_own rfl rfl).trans (hs 17 (by kernel_rfl)))⟩⟩⟩) ?_
        refine .cons (fun f w' hI hs => ⟨_, rfl, .inl ⟨wanted_none rfl, .val (rn_assign rfl) ⟨Below.refl _ _, ((fr_own rfl rfl).trans (hs 18 (by kernel_rfl)))⟩⟩⟩) ?_
        exact .nil
      · intro f w' hI hk
        have h4 : f 4 = .bool (b2) := hk 4 (by kernel_rfl)
        refine hK _ _ (Met.intro (hJ _ _ ?_))
        (repeat apply Exists.intro)
        refine ⟨?_, rfl⟩
        exact ⟨h4, hI.kb⟩
    | false =>
      refine wp_region_ks DI72 (tabI72f w a c) (GPP w a b c d) (by kernel_rfl) (by kernel_rfl) (by kernel_rfl) (fun _ _ h hb => h.keep hb) S.out ?_ ?_
      ·
        refine .cons (fun f w' hI hs => ⟨_, rfl, .inl ⟨wanted_none rfl, .val (rn_field71_0 rfl (fr_old rfl rfl)) ⟨Below.refl _ _, rfl⟩⟩⟩) ?_
        refine .cons (fun f w' hI hs => ?_) ?_
        · obtain ⟨s, x, p, y, q, h1, h2⟩ := hI.u.x
          exact ⟨_, rfl, .inl ⟨wanted_none rfl, .val (rn_load61c rfl ((fr_own rfl rfl).trans (hs 5 (by kernel_rfl))) h1) ⟨Below.refl _ _, h2⟩⟩⟩
        refine .cons (fun f w' hI hs => ⟨_, rfl, .inl ⟨wanted_none rfl, .val (rn_field71_0 rfl (fr_old rfl rfl)) ⟨Below.refl _ _, rfl⟩⟩⟩) ?_
        refine .cons (fun f w' hI hs => ?_) ?_
        · obtain ⟨s, x, p, y, q, h1, h2⟩ := hI.v.x
          exact ⟨_, rfl, .inl ⟨wanted_none rfl, .val (rn_load61c rfl ((fr_own rfl rfl).trans (hs 7 (by kernel_rfl))) h1) ⟨Below.refl _ _, h2⟩⟩⟩
        refine .cons (fun f w' hI hs => ⟨_, rfl, .inl ⟨wanted_none rfl, .call2 rfl cf52 rfl rfl rfl rfl (PCq.kd (rcmpR (a := a) (b := c) (hs 6 (by kernel_rfl)) (hs 8 (by kernel_rfl)) ba bc (by omega) (by omega)))⟩⟩) ?_
        refine .cons (fun f w' hI hs => ⟨_, rfl, .inl ⟨wanted_none rfl, .val (rn_eqlI rfl ((fr_own rfl rfl).trans (hs 9 (by kernel_rfl))) rfl T1) ⟨Below.refl _ _, rfl⟩⟩⟩) ?_
        refine .cons (fun f w' hI hs => ⟨_, rfl, .inl ⟨wanted_none rfl, .val (rn_move rfl) ⟨Below.refl _ _, ((fr_own rfl rfl).trans (hs 10 (by kernel_rfl)))⟩⟩⟩) ?_
        refine .cons (fun f w' hI hs => ⟨_, rfl, .inr ⟨wanted_not rfl (by kernel_rfl) rfl rfl (hs 11 (by kernel_rfl)) rfl, rfl⟩⟩) ?_
        refine .cons (fun f w' hI hs => ⟨_, rfl, .inr ⟨wanted_not rfl (by kernel_rfl) rfl rfl (hs 11 (by kernel_rfl)) rfl, rfl⟩⟩) ?_
        refine .cons (fun f w' hI hs => ⟨_, rfl, .inr ⟨wanted_not rfl (by kernel_rfl) rfl rfl (hs 11 (by kernel_rfl)) rfl, rfl⟩⟩) ?_
        refine .cons (fun f w' hI hs => ⟨_, rfl, .inr ⟨wanted_not rfl (by kernel_rfl) rfl rfl (hs 11 (by kernel_rfl)) rfl, rfl⟩⟩) ?_
        refine .cons (fun f w' hI hs => ⟨_, rfl, .inr ⟨wanted_not rfl (by kernel_rfl) rfl rfl (hs 11 (by kernel_rfl)) rfl, rfl⟩⟩) ?_
        refine .cons (fun f w' hI hs => ⟨_, rfl, .inr ⟨wanted_not rfl (by kernel_rfl) rfl rfl (hs 11 (by kernel_rfl)) rfl, rfl⟩⟩) ?_
        refine .cons (fun f w' hI hs => ⟨_, rfl, .inl ⟨wanted_none rfl, .val (rn_pick_f rfl ((fr_own rfl rfl).trans (hs 11 (by kernel_rfl)))) ⟨Below.refl _ _, rfl⟩⟩⟩) ?_
        refine .cons (fun f w' hI hs => ⟨_, rfl, .inl ⟨wanted_none rfl, .val (rn_assign rfl) ⟨Below.refl _ _, ((fr_own rfl rfl).trans (hs 18 (by kernel_rfl)))⟩⟩⟩) ?_
        exact .nil
      · intro f w' hI hk
        have h4 : f 4 = .bool (false) := hk 4 (by kernel_rfl)
        refine hK _ _ (Met.intro (hJ _ _ ?_))
        (repeat apply Exists.intro)
        refine ⟨?_, rfl⟩
        exact ⟨h4, hI.kb⟩
  case rest =>
    obtain ⟨rfl, kf⟩ := hcut
    clear S
    generalize hbb : (b1 && b2) = bb0
    go_wp2
    go_ret
    exact ⟨kf, by rw [hbb]; rfl⟩
def tabI61 (w : World) (a b : Rat) (tt : Nat) : Kd := [(.v (.bool true)), (kp w.heap.size 0), (.q a.num a.den), (kp (w.heap.size + 1) 0), (kra a), (.v (.bool true)), (.v (.bool true)), (kp w.heap.size 5), (.q b.num b.den), (kp (w.heap.size + 1) 4), (kra b), (.v (.bool true)), (.v (.bool true))].getD (tt - 4) .any
def DI61 (t : Nat) : Bool := (Nat.ble 4 t && Nat.ble t 16)
set_option maxHeartbeats 1600000 in
theorem samev_any (va vb : Value) (a b : Rat) (k : Nat) (w : World) (ha : Vv w va a b) (hb : RVA w vb a b) (ba : Bd9 k a) (bb : Bd9 k b) (hk : k ≤ 1000) : Calls Tryz.prog 61 #[va, vb] w (PB true w) := by
  obtain ⟨s1, x1, p1, y1, q1, s2, x2, p2, y2, q2, rfl⟩ := ha.agg
  obtain ⟨t3, f3, l3, c3, u3, hh3, m3, cc3, t4, f4, l4, c4, u4, hh4, m4, cc4, rfl⟩ := hb.agg
  have S0 : GPp w a b a b ((w.alloc (.cells #[.bool s1, .int .u64 x1, .pointer p1, .int .u64 y1, .pointer q1, .bool s2, .int .u64 x2, .pointer p2, .int .u64 y2, .pointer q2] 84)).alloc (.cells #[.int .i64 t3, .slice f3 l3 c3, .int .i64 u3, .slice hh3 m3 cc3, .int .i64 t4, .slice f4 l4 c4, .int .i64 u4, .slice hh4 m4 cc4] 86)) := by
    refine ⟨bl2 _ _ _, (Hvv.new ha).keep (bl1 _ _), ?_⟩
    have := HVA.new (hb.keep (bl1 w (.cells #[.bool s1, .int .u64 x1, .pointer p1, .int .u64 y1, .pointer q1, .bool s2, .int .u64 x2, .pointer p2, .int .u64 y2, .pointer q2] 84)) (Nat.le_refl _))
    rw [World.size_alloc] at this
    exact this
  have S := Lib.hid S0
  clear ha hb S0
  go_enter Tryz.func61, Tryz.ntmps61
  go_upto_region 1 with fail
  go_cut [4] (fun v wx => v = .bool true ∧ Below w.heap.size w wx)
  case first =>
    rename_i J K' hJ hK
    refine wp_region_ks DI61 (tabI61 w a b) (GPp w a b a b) (by kernel_rfl) (by kernel_rfl) (by kernel_rfl) (fun _ _ h hb => h.keep hb) S.out ?_ ?_
    ·
      refine .cons (fun f w' hI hs => ⟨_, rfl, .inl ⟨wanted_none rfl, .val (rn_field71_0 rfl (fr_old rfl rfl)) ⟨Below.refl _ _, rfl⟩⟩⟩) ?_
      refine .cons (fun f w' hI hs => ?_) ?_
      · obtain ⟨s, x, p, y, q, h1, h2⟩ := hI.u.x
        exact ⟨_, rfl, .inl ⟨wanted_none rfl, .val (rn_load61c rfl ((fr_own rfl rfl).trans (hs 5 (by kernel_rfl))) h1) ⟨Below.refl _ _, h2⟩⟩⟩
      refine .cons (fun f w' hI hs => ⟨_, rfl, .inl ⟨wanted_none rfl, .val (rn_field86_0 rfl (fr_old rfl rfl)) ⟨Below.refl _ _, rfl⟩⟩⟩) ?_
      refine .cons (fun f w' hI hs => ?_) ?_
      · obtain ⟨t1, f1, l1, c1, u1, hh1, m1, cc1, t2, f2, l2, c2, u2, hh2, m2, cc2, e1, e2, e3⟩ := hI.v
        exact ⟨_, rfl, .inl ⟨wanted_none rfl, .val (rn_load44a rfl ((fr_own rfl rfl).trans (hs 7 (by kernel_rfl))) e1) ⟨Below.refl _ _, e2⟩⟩⟩
      refine .cons (fun f w' hI hs => ⟨_, rfl, .inl ⟨wanted_none rfl, .call2 rfl cf20 rfl rfl rfl rfl (PB.kd (same_any _ _ a _ _ (hs 6 (by kernel_rfl)) (hs 8 (by kernel_rfl)) ba (by omega)))⟩⟩) ?_
      refine .cons (fun f w' hI hs => ⟨_, rfl, .inl ⟨wanted_none rfl, .val (rn_move rfl) ⟨Below.refl _ _, ((fr_own rfl rfl).trans (hs 9 (by kernel_rfl)))⟩⟩⟩) ?_
      refine .cons (fun f w' hI hs => ⟨_, rfl, .inl ⟨wanted_some rfl (by kernel_rfl) rfl rfl (hs 10 (by kernel_rfl)), .val (rn_field71_1 rfl (fr_old rfl rfl)) ⟨Below.refl _ _, rfl⟩⟩⟩) ?_
      refine .cons (fun f w' hI hs => ?_) ?_
      · obtain ⟨s, x, p, y, q, h1, h2⟩ := hI.u.z
        exact ⟨_, rfl, .inl ⟨wanted_some rfl (by kernel_rfl) rfl rfl (hs 10 (by kernel_rfl)), .val (rn_load61c rfl ((fr_own rfl rfl).trans (hs 11 (by kernel_rfl))) h1) ⟨Below.refl _ _, h2⟩⟩⟩
      refine .cons (fun f w' hI hs => ⟨_, rfl, .inl ⟨wanted_some rfl (by kernel_rfl) rfl rfl (hs 10 (by kernel_rfl)), .val (rn_field86_1 rfl (fr_old rfl rfl)) ⟨Below.refl _ _, rfl⟩⟩⟩) ?_
      refine .cons (fun f w' hI hs => ?_) ?_
      · obtain ⟨t1, f1, l1, c1, u1, hh1, m1, cc1, t2, f2, l2, c2, u2, hh2, m2, cc2, e1, e2, e3⟩ := hI.v
        exact ⟨_, rfl, .inl ⟨wanted_some rfl (by kernel_rfl) rfl rfl (hs 10 (by kernel_rfl)), .val (rn_load44b rfl ((fr_own rfl rfl).trans (hs 13 (by kernel_rfl))) e1) ⟨Below.refl _ _, e3⟩⟩⟩
      refine .cons (fun f w' hI hs => ⟨_, rfl, .inl ⟨wanted_some rfl (by kernel_rfl) rfl rfl (hs 10 (by kernel_rfl)), .call2 rfl cf20 rfl rfl rfl rfl (PB.kd (same_any _ _ b _ _ (hs 12 (by kernel_rfl)) (hs 14 (by kernel_rfl)) bb (by omega)))⟩⟩) ?_
      refine .cons (fun f w' hI hs => ⟨_, rfl, .inl ⟨wanted_none rfl, .val (rn_pick_t rfl ((fr_own rfl rfl).trans (hs 10 (by kernel_rfl)))) ⟨Below.refl _ _, ((fr_own rfl rfl).trans (hs 15 (by kernel_rfl)))⟩⟩⟩) ?_
      refine .cons (fun f w' hI hs => ⟨_, rfl, .inl ⟨wanted_none rfl, .val (rn_assign rfl) ⟨Below.refl _ _, ((fr_own rfl rfl).trans (hs 16 (by kernel_rfl)))⟩⟩⟩) ?_
      exact .nil
    · intro f w' hI hk
      have h4 : f 4 = .bool true := hk 4 (by kernel_rfl)
      refine hK _ _ (Met.intro (hJ _ _ ?_))
      (repeat apply Exists.intro)
      refine ⟨?_, rfl⟩
      exact ⟨h4, hI.kb⟩
  case rest =>
    obtain ⟨rfl, kf⟩ := hcut
    clear S
    go_wp2
    go_ret
    exact ⟨kf, rfl⟩
def tabI75 (w : World) (a b : Rat) (s u : ByteArray) (tt : Nat) : Kd := if tt = 2 then (.v (.string ((((⟨#[40]⟩ ++ s) ++ ⟨#[44, 32]⟩) ++ u) ++ ⟨#[41]⟩))) else [(kp w.heap.size 0), (kra a), (.v (.string s)), (.v (.string (⟨#[40]⟩ ++ s))), (.v (.string ((⟨#[40]⟩ ++ s) ++ ⟨#[44, 32]⟩))), (kp w.heap.size 4), (kra b), (.v (.string u)), (.v (.string (((⟨#[40]⟩ ++ s) ++ ⟨#[44, 32]⟩) ++ u))), (.v (.string ((((⟨#[40]⟩ ++ s) ++ ⟨#[44, 32]⟩) ++ u) ++ ⟨#[41]⟩)))].getD (tt - 3) .any
def DI75 (t : Nat) : Bool := Nat.beq t 2 || (Nat.ble 3 t && Nat.ble t 12)
set_option maxHeartbeats 1600000 in
theorem vtextr_any (va : Value) (a b : Rat) (k : Nat) (w : World) (ha : RVA w va a b) (ba : Bd9 k a) (bb : Bd9 k b) (hk : k ≤ 1000) : Calls Tryz.prog 75 #[va] w fun e w' => Below w.heap.size w w' ∧ e = .returned (.string (txtV a.num a.den b.num b.den)) := by
  obtain ⟨t1, f1, l1, c1, u1, hh1, m1, cc1, t2, f2, l2, c2, u2, hh2, m2, cc2, rfl⟩ := ha.agg
  have S0 : Gp w a b 0 0 (w.alloc (.cells #[.int .i64 t1, .slice f1 l1 c1, .int .i64 u1, .slice hh1 m1 cc1, .int .i64 t2, .slice f2 l2 c2, .int .i64 u2, .slice hh2 m2 cc2] 86)) := by
    exact ⟨bl1 _ _, HVA.new ha⟩
  have S := Lib.hid S0
  clear ha S0
  have bn := txR_sz ba hk
  have bm := txR_sz bb hk
  unfold txtV
  obtain ⟨s, hs⟩ : ∃ s, s = txtR a.num a.den := ⟨_, rfl⟩
  obtain ⟨u, hu⟩ : ∃ u, u = txtR b.num b.den := ⟨_, rfl⟩
  rw [← hs] at bn ⊢
  rw [← hu] at bm ⊢
  have HS := Lib.hid hs; have HU := Lib.hid hu; have BN := Lib.hid bn; have BM := Lib.hid bm
  clear hs hu bn bm
  go_enter Tryz.func75, Tryz.ntmps75
  go_upto_region 1 with fail
  go_cut [2] (fun v wx => v = .string ((((⟨#[40]⟩ ++ s) ++ ⟨#[44, 32]⟩) ++ u) ++ ⟨#[41]⟩) ∧ Below w.heap.size w wx)
  case first =>
    rename_i J K' hJ hK
    refine wp_region_kd DI75 (tabI75 w a b s u) (Gp w a b 0 0) (by kernel_rfl) (by kernel_rfl) (by kernel_rfl) (by kernel_rfl) (fun _ _ h hb => h.keep hb) (S.out.keep (Below.refl _ _).drew) ?_ ?_
    ·
      refine .cons (fun f w' hI hs => ⟨wanted_none rfl, _, rfl, .val (rn_field86_0 rfl (fr_old rfl rfl)) ⟨Below.refl _ _, rfl⟩⟩) ?_
      refine .cons (fun f w' hI hs => ?_) ?_
      · obtain ⟨t1, f1, l1, c1, u1, hh1, m1, cc1, t2, f2, l2, c2, u2, hh2, m2, cc2, e1, e2, e3⟩ := hI.u
        exact ⟨wanted_none rfl, _, rfl, .val (rn_load44a rfl ((fr_own rfl rfl).trans (hs 3 (by kernel_rfl))) e1) ⟨Below.refl _ _, e2⟩⟩
      refine .cons (fun f w' hI hs => ⟨wanted_none rfl, _, rfl, .call1 rfl cf95 rfl rfl (by
        have h := PTr.kd (rtextr_any _ a _ (hs 4 (by kernel_rfl)) (tx_sz ba (by omega)).1 (tx_sz ba (by omega)).2)
        rw [← HS.out] at h
        exact h)⟩) ?_
      refine .cons (fun f w' hI hs => ⟨wanted_none rfl, _, rfl, .val (rn_add9 rfl rfl ((fr_own rfl rfl).trans (hs 5 (by kernel_rfl))) (addsz (a := 1) (by decide) BN.out (by decide))) ⟨Below.refl _ _, rfl⟩⟩) ?_
      refine .cons (fun f w' hI hs => ⟨wanted_none rfl, _, rfl, .val (rn_add9 rfl ((fr_own rfl rfl).trans (hs 6 (by kernel_rfl))) rfl (addsz (b := 2) (catsz (a := 1) (by decide) BN.out) (by decide) (by decide))) ⟨Below.refl _ _, rfl⟩⟩) ?_
      refine .cons (fun f w' hI hs => ⟨wanted_none rfl, _, rfl, .val (rn_field86_1 rfl (fr_old rfl rfl)) ⟨Below.refl _ _, rfl⟩⟩) ?_
      refine .cons (fun f w' hI hs => ?_) ?_
      · obtain ⟨t1, f1, l1, c1, u1, hh1, m1, cc1, t2, f2, l2, c2, u2, hh2, m2, cc2, e1, e2, e3⟩ := hI.u
        exact ⟨wanted_none rfl, _, rfl, .val (rn_load44b rfl ((fr_own rfl rfl).trans (hs 8 (by kernel_rfl))) e1) ⟨Below.refl _ _, e3⟩⟩
      refine .cons (fun f w' hI hs => ⟨wanted_none rfl, _, rfl, .call1 rfl cf95 rfl rfl (by
        have h := PTr.kd (rtextr_any _ b _ (hs 9 (by kernel_rfl)) (tx_sz bb (by omega)).1 (tx_sz bb (by omega)).2)
        rw [← HU.out] at h
        exact h)⟩) ?_
      refine .cons (fun f w' hI hs => ⟨wanted_none rfl, _, rfl, .val (rn_add9 rfl ((fr_own rfl rfl).trans (hs 7 (by kernel_rfl))) ((fr_own rfl rfl).trans (hs 10 (by kernel_rfl))) (addsz (catsz (b := 2) (catsz (a := 1) (by decide) BN.out) (by decide)) BM.out (by decide))) ⟨Below.refl _ _, rfl⟩⟩) ?_
      refine .cons (fun f w' hI hs => ⟨wanted_none rfl, _, rfl, .val (rn_add9 rfl ((fr_own rfl rfl).trans (hs 11 (by kernel_rfl))) rfl (addsz (b := 1) (catsz (catsz (b := 2) (catsz (a := 1) (by decide) BN.out) (by decide)) BM.out) (by decide) (by decide))) ⟨Below.refl _ _, rfl⟩⟩) ?_
      refine .cons (fun f w' hI hs => ⟨wanted_none rfl, _, rfl, .val (rn_assign rfl) ⟨Below.refl _ _, ((fr_own rfl rfl).trans (hs 12 (by kernel_rfl)))⟩⟩) ?_
      exact .nil
    · intro f w' hI hk
      have h2 : f 2 = .string ((((⟨#[40]⟩ ++ s) ++ ⟨#[44, 32]⟩) ++ u) ++ ⟨#[41]⟩) := hk 2 (by kernel_rfl)
      refine hK _ _ (Met.intro (hJ _ _ ?_))
      (repeat apply Exists.intro)
      refine ⟨?_, rfl⟩
      exact ⟨h2, hI.kb⟩
  case rest =>
    obtain ⟨rfl, kf⟩ := hcut
    clear S
    generalize hss : ((((⟨#[40]⟩ ++ s) ++ ⟨#[44, 32]⟩) ++ u) ++ ⟨#[41]⟩) = ss
    go_wp2
    go_ret
    exact ⟨kf, by rw [hss]; rfl⟩
theorem cf42'' : CF 42 := fun W args => by go_simp
theorem cf44'' : CF 44 := fun W args => by go_simp
def DI62 (t : Nat) : Bool := Nat.ble 5 t && Nat.ble t 7
def tabI62 (a b c d : Rat) (t : Nat) : Kd := [kvv a b, kvv c d, kvv (a + c) (b + d)].getD (t - 5) .any
set_option maxHeartbeats 1600000 in
theorem vadd_any (va vb : Value) (a b c d : Rat) (k l : Nat) (w : World) (ha : Vv w va a b) (hb : Vv w vb c d) (ba : Bd9 k a) (bb : Bd9 k b) (bc : Bd9 l c) (bd : Bd9 l d) (hk : k + l + 1 ≤ 1000) : Calls Tryz.prog 62 #[va, vb] w (PVv (a + c) (b + d) w) := by
  obtain ⟨s1, x1, p1, y1, q1, s2, x2, p2, y2, q2, rfl⟩ := ha.agg
  obtain ⟨s3, x3, p3, y3, q3, s4, x4, p4, y4, q4, rfl⟩ := hb.agg
  have S0 : GPP84 w a b c d (((w.alloc (.cells #[.bool s1, .int .u64 x1, .pointer p1, .int .u64 y1, .pointer q1, .bool s2, .int .u64 x2, .pointer p2, .int .u64 y2, .pointer q2] 84)).alloc (.cells #[.bool s3, .int .u64 x3, .pointer p3, .int .u64 y3, .pointer q3, .bool s4, .int .u64 x4, .pointer p4, .int .u64 y4, .pointer q4] 84)).alloc (.cells #[.bool false, .int .u64 0, .pointer none, .int .u64 0, .pointer none, .bool false, .int .u64 0, .pointer none, .int .u64 0, .pointer none] 84)) := by
    refine ⟨bl3 _ _ _ _, ((Hvv.new ha).keep (bl1 _ _)).keep (bl1 _ _), ?_, b10_new _ (by simp)⟩
    have := Hvv.new (hb.keep (bl1 w (.cells #[.bool s1, .int .u64 x1, .pointer p1, .int .u64 y1, .pointer q1, .bool s2, .int .u64 x2, .pointer p2, .int .u64 y2, .pointer q2] 84)) (Nat.le_refl _))
    rw [World.size_alloc] at this
    exact this.keep (bl1 _ _)
  have S := Lib.hid S0
  clear ha hb S0
  go_enter Tryz.func62, Tryz.ntmps62
  go_upto_region 1 with fail
  go_cut [] (fun wx => Below w.heap.size w wx ∧ Hvv (w.heap.size + 1 + 1) (a + c) (b + d) wx)
  case first =>
    rename_i J K' hJ hK
    refine wp_region_two0 DI62 (tabI62 a b c d) (GPP84 w a b c d) 3 (fun _ _ w' => Below w.heap.size w w' ∧ Hvv (w.heap.size + 1 + 1) (a + c) (b + d) w') (by kernel_rfl) (by kernel_rfl) (by kernel_rfl) (by decide) (by kernel_rfl) (fun _ _ h hb => h.keep hb) S.out ?_ ?_ ?_
    · refine .cons (fun f w' hI hs => ?_) ?_
      · obtain ⟨s1, x1, p1, y1, q1, s2, x2, p2, y2, q2, h1, h2⟩ := hI.u
        exact ⟨wanted_none rfl, _, rfl, .val (rn_load84 rfl (fr_old rfl rfl) h1) ⟨Below.refl _ _, h2⟩⟩
      refine .cons (fun f w' hI hs => ?_) ?_
      · obtain ⟨s1, x1, p1, y1, q1, s2, x2, p2, y2, q2, h1, h2⟩ := hI.v
        exact ⟨wanted_none rfl, _, rfl, .val (rn_load84 rfl (fr_old rfl rfl) h1) ⟨Below.refl _ _, h2⟩⟩
      exact .cons (fun f w' hI hs => ⟨wanted_none rfl, _, rfl, .call3f rfl cf116 rfl rfl rfl rfl (PVv.kd (parts_any 42 _ _ a b c d (a + c) (b + d) _ (hs 5 (by kernel_rfl)) (hs 6 (by kernel_rfl)) cf42'' (fun W v1 v2 g1 g2 => raddR g1 g2 ba bc hk) (fun W v1 v2 g1 g2 => raddR g1 g2 bb bd hk)))⟩) .nil
    · refine .cons (fun f w' h => ⟨wanted_none rfl, ?_⟩) .nil
      obtain ⟨hI, hs⟩ := (if_pos rfl) ▸ h
      have hv : Vv w' (f 7) (a + c) (b + d) := (hs 7 (by kernel_rfl))
      obtain ⟨s1, x1, p1, y1, q1, s2, x2, p2, y2, q2, e1⟩ := hv.agg
      rw [e1] at hv
      have hz := hI.t
      exact .skip (rn_store84 rfl (fr_old rfl rfl) ((fr_own rfl rfl).trans e1) hz) ⟨below10 hI.kb (by omega) _ _ _ _ _ _ _ _ _ _, Hvv.stored hz hv⟩
    · intro f w' h
      refine hK _ _ (Met.intro (hJ _ _ ?_))
      (repeat apply Exists.intro)
      refine ⟨?_, rfl⟩
      exact h
  case rest =>
    obtain ⟨kf, s1, x1, p1, y1, q1, s2, x2, p2, y2, q2, e1, e2⟩ := hcut
    have i0 := cell_blk (i := 0) e1
    have i1 := cell_blk (i := 1) e1
    have i2 := cell_blk (i := 2) e1
    have i3 := cell_blk (i := 3) e1
    have i4 := cell_blk (i := 4) e1
    have i5 := cell_blk (i := 5) e1
    have i6 := cell_blk (i := 6) e1
    have i7 := cell_blk (i := 7) e1
    have i8 := cell_blk (i := 8) e1
    have i9 := cell_blk (i := 9) e1
    have KF := Lib.hid kf
    have VV1 := Lib.hid e2
    clear e1 e2 kf S
    go_wp2
    exact bodyPost_ret (v := .agg #[.bool s1, .int .u64 x1, .pointer p1, .int .u64 y1, .pointer q1, .bool s2, .int .u64 x2, .pointer p2, .int .u64 y2, .pointer q2]) (by simp [results, Tryz.results62, go_sem, i0, i1, i2, i3, i4, i5, i6, i7, i8, i9]) rfl ⟨KF.out, _, rfl, VV1.out⟩
def DI64 (t : Nat) : Bool := Nat.ble 5 t && Nat.ble t 7
def tabI64 (a b c d : Rat) (t : Nat) : Kd := [kvv a b, kvv c d, kvv (a - c) (b - d)].getD (t - 5) .any
set_option maxHeartbeats 1600000 in
theorem vsub_any (va vb : Value) (a b c d : Rat) (k l : Nat) (w : World) (ha : Vv w va a b) (hb : Vv w vb c d) (ba : Bd9 k a) (bb : Bd9 k b) (bc : Bd9 l c) (bd : Bd9 l d) (hk : k + l + 1 ≤ 1000) : Calls Tryz.prog 64 #[va, vb] w (PVv (a - c) (b - d) w) := by
  obtain ⟨s1, x1, p1, y1, q1, s2, x2, p2, y2, q2, rfl⟩ := ha.agg
  obtain ⟨s3, x3, p3, y3, q3, s4, x4, p4, y4, q4, rfl⟩ := hb.agg
  have S0 : GPP84 w a b c d (((w.alloc (.cells #[.bool s1, .int .u64 x1, .pointer p1, .int .u64 y1, .pointer q1, .bool s2, .int .u64 x2, .pointer p2, .int .u64 y2, .pointer q2] 84)).alloc (.cells #[.bool s3, .int .u64 x3, .pointer p3, .int .u64 y3, .pointer q3, .bool s4, .int .u64 x4, .pointer p4, .int .u64 y4, .pointer q4] 84)).alloc (.cells #[.bool false, .int .u64 0, .pointer none, .int .u64 0, .pointer none, .bool false, .int .u64 0, .pointer none, .int .u64 0, .pointer none] 84)) := by
    refine ⟨bl3 _ _ _ _, ((Hvv.new ha).keep (bl1 _ _)).keep (bl1 _ _), ?_, b10_new _ (by simp)⟩
    have := Hvv.new (hb.keep (bl1 w (.cells #[.bool s1, .int .u64 x1, .pointer p1, .int .u64 y1, .pointer q1, .bool s2, .int .u64 x2, .pointer p2, .int .u64 y2, .pointer q2] 84)) (Nat.le_refl _))
    rw [World.size_alloc] at this
    exact this.keep (bl1 _ _)
  have S := Lib.hid S0
  clear ha hb S0
  go_enter Tryz.func64, Tryz.ntmps64
  go_upto_region 1 with fail
  go_cut [] (fun wx => Below w.heap.size w wx ∧ Hvv (w.heap.size + 1 + 1) (a - c) (b - d) wx)
  case first =>
    rename_i J K' hJ hK
    refine wp_region_two0 DI64 (tabI64 a b c d) (GPP84 w a b c d) 3 (fun _ _ w' => Below w.heap.size w w' ∧ Hvv (w.heap.size + 1 + 1) (a - c) (b - d) w') (by kernel_rfl) (by kernel_rfl) (by kernel_rfl) (by decide) (by kernel_rfl) (fun _ _ h hb => h.keep hb) S.out ?_ ?_ ?_
    · refine .cons (fun f w' hI hs => ?_) ?_
      · obtain ⟨s1, x1, p1, y1, q1, s2, x2, p2, y2, q2, h1, h2⟩ := hI.u
        exact ⟨wanted_none rfl, _, rfl, .val (rn_load84 rfl (fr_old rfl rfl) h1) ⟨Below.refl _ _, h2⟩⟩
      refine .cons (fun f w' hI hs => ?_) ?_
      · obtain ⟨s1, x1, p1, y1, q1, s2, x2, p2, y2, q2, h1, h2⟩ := hI.v
        exact ⟨wanted_none rfl, _, rfl, .val (rn_load84 rfl (fr_old rfl rfl) h1) ⟨Below.refl _ _, h2⟩⟩
      exact .cons (fun f w' hI hs => ⟨wanted_none rfl, _, rfl, .call3f rfl cf116 rfl rfl rfl rfl (PVv.kd (parts_any 44 _ _ a b c d (a - c) (b - d) _ (hs 5 (by kernel_rfl)) (hs 6 (by kernel_rfl)) cf44'' (fun W v1 v2 g1 g2 => rsubR g1 g2 ba bc hk) (fun W v1 v2 g1 g2 => rsubR g1 g2 bb bd hk)))⟩) .nil
    · refine .cons (fun f w' h => ⟨wanted_none rfl, ?_⟩) .nil
      obtain ⟨hI, hs⟩ := (if_pos rfl) ▸ h
      have hv : Vv w' (f 7) (a - c) (b - d) := (hs 7 (by kernel_rfl))
      obtain ⟨s1, x1, p1, y1, q1, s2, x2, p2, y2, q2, e1⟩ := hv.agg
      rw [e1] at hv
      have hz := hI.t
      exact .skip (rn_store84 rfl (fr_old rfl rfl) ((fr_own rfl rfl).trans e1) hz) ⟨below10 hI.kb (by omega) _ _ _ _ _ _ _ _ _ _, Hvv.stored hz hv⟩
    · intro f w' h
      refine hK _ _ (Met.intro (hJ _ _ ?_))
      (repeat apply Exists.intro)
      refine ⟨?_, rfl⟩
      exact h
  case rest =>
    obtain ⟨kf, s1, x1, p1, y1, q1, s2, x2, p2, y2, q2, e1, e2⟩ := hcut
    have i0 := cell_blk (i := 0) e1
    have i1 := cell_blk (i := 1) e1
    have i2 := cell_blk (i := 2) e1
    have i3 := cell_blk (i := 3) e1
    have i4 := cell_blk (i := 4) e1
    have i5 := cell_blk (i := 5) e1
    have i6 := cell_blk (i := 6) e1
    have i7 := cell_blk (i := 7) e1
    have i8 := cell_blk (i := 8) e1
    have i9 := cell_blk (i := 9) e1
    have KF := Lib.hid kf
    have VV1 := Lib.hid e2
    clear e1 e2 kf S
    go_wp2
    exact bodyPost_ret (v := .agg #[.bool s1, .int .u64 x1, .pointer p1, .int .u64 y1, .pointer q1, .bool s2, .int .u64 x2, .pointer p2, .int .u64 y2, .pointer q2]) (by simp [results, Tryz.results64, go_sem, i0, i1, i2, i3, i4, i5, i6, i7, i8, i9]) rfl ⟨KF.out, _, rfl, VV1.out⟩
end Go.Proofs.YtjjomjjgoceklaaGreat
