import Derived.Test.YtjjomjjgoceklaaGreatWl
import Derived.Test.YtjjomjjgoceklaaGreatWk
namespace Go.Proofs.YtjjomjjgoceklaaGreat
set_option maxRecDepth 100000
open Go.RowKit

/-! R.Abs; the reference's Text; Same -/
theorem Bd9.abs {k : Nat} {a : Rat} (h : Bd9 k a) : Bd9 k (absQ a) := ⟨by show (a.num.natAbs : Int).natAbs < _; rw [Int.natAbs_natCast]; exact h.1, h.2⟩
theorem cf95 : CF 95 := fun W args => by go_simp
structure G95 (w0 : World) (a : Rat) (w : World) : Prop where
  k : Below w0.heap.size w0 w
  a : HA w0.heap.size a w
theorem G95.keep {w0 w w' : World} {a : Rat} (h : G95 w0 a w) (hb : Below w.heap.size w w') : G95 w0 a w' := ⟨Below.thru h.k h.k.size hb, h.a.keep hb⟩
def D95r (t : Nat) : Bool := Nat.beq t 2 || (Nat.ble 10 t && Nat.ble t 17)
def tab95r (B : Nat) (a : Rat) (s u : ByteArray) (t : Nat) : Kd := if t = 2 then .v (.string (s ++ ⟨#[47]⟩ ++ u)) else [kp B 0, .r a.num, .v (.string s), .v (.string (s ++ ⟨#[47]⟩)), kra a, .r (a.den : Int), .v (.string u), .v (.string (s ++ ⟨#[47]⟩ ++ u))].getD (t - 10) .any
set_option maxHeartbeats 1600000 in
theorem rtextr_any (va : Value) (a : Rat) (w : World) (ha : RA w va a) (hl : (txt a.num).size ≤ 200000) (hl2 : (txt (a.den : Int)).size ≤ 200000) : Calls Tryz.prog 95 #[va] w (PTr a.num a.den w) := by
  obtain ⟨s1, p1, l1, c1, s2, p2, l2, c2, rfl⟩ := ha.agg
  have S := Lib.hid (show G95 w a (w.alloc (.cells #[.int .i64 s1, .slice p1 l1 c1, .int .i64 s2, .slice p2 l2 c2] 44)) from ⟨bl1 _ _, HA.new ha⟩)
  have HL := Lib.hid hl; have HL2 := Lib.hid hl2
  have HAA := Lib.hid (ha.keep (bl1 w (.cells #[.int .i64 s1, .slice p1 l1 c1, .int .i64 s2, .slice p2 l2 c2] 44)) (Nat.le_refl _))
  obtain ⟨s, hs⟩ : ∃ s, s = txt a.num := ⟨_, rfl⟩
  obtain ⟨u, hu⟩ : ∃ u, u = txt (a.den : Int) := ⟨_, rfl⟩
  obtain ⟨bt, hbt⟩ : ∃ bt, (u.toList == [49]) = bt := ⟨_, rfl⟩
  rw [← hs] at HL
  rw [← hu] at HL2
  have HS := Lib.hid hs; have HU := Lib.hid hu; have HBT := Lib.hid hbt
  clear ha hl hl2 hs hu
  go_enter Tryz.func95, Tryz.ntmps95
  go_wp2_with fail
  refine (rden_any _ a _ HAA.out).mono ?_
  rintro e w1 ⟨hb1, v1, rfl, h1⟩
  have S := Lib.hid (S.out.keep hb1)
  clear hb1 HAA
  go_wp2_with fail
  refine (ztextr_any _ (a.den : Int) _ h1).mono ?_
  rintro e w2 ⟨hb2, rfl⟩
  have S := Lib.hid (S.out.keep hb2)
  clear hb2 h1
  rw [← HU.out]
  cases bt with
  | true =>
    have HD : Hid (a.den = 1) := by
      show _ = _
      have e : u = ⟨#[49]⟩ := by
        have h := hbt
        rw [beq_iff_eq, ByteArray.toList_eq] at h
        exact ByteArray.ext (Array.ext' h)
      rw [HU.out, ← tx1] at e
      have := txt_inj e
      omega
    obtain ⟨t1, p1, l1, c1, t2, p2, l2, c2, e1, _, e3⟩ := S.out.a
    have i0 := cell_blk (i := 0) e1
    have i1 := cell_blk (i := 1) e1
    have E3 := Lib.hid e3
    clear e1 e3
    go_wp2_with fail
    refine (ztextr_any _ a.num _ E3.out).mono ?_
    rintro e w3 ⟨hb3, rfl⟩
    have k3 := Below.thru S.out.k S.out.k.size hb3
    clear hb3 E3 i0 i1 S
    go_wp2
    go_ret
    refine ⟨k3, ?_⟩
    unfold txtR
    rw [if_pos HD.out]
    rfl
  | false =>
    have HD : Hid (a.den ≠ 1) := by
      show _ ≠ _
      intro e
      have h := hbt
      rw [HU.out, e] at h
      rw [show (((1 : Nat) : Int)) = 1 from rfl, tx1] at h
      revert h
      rw [ByteArray.toList_eq]
      decide
    go_upto_region 3 with fail
    go_cut [2] (fun v wx => v = .string (s ++ ⟨#[47]⟩ ++ u) ∧ Below w.heap.size w wx)
    case first =>
      rename_i J K' hJ hK
      refine wp_region_kd D95r (tab95r w.heap.size a s u) (G95 w a) (by kernel_rfl) (by kernel_rfl) (by kernel_rfl) (by kernel_rfl) (fun _ _ h hb => h.keep hb) (S.out.keep (Below.refl _ _).drew) ?_ ?_
      · refine .cons (fun f w' hI hs => ⟨wanted_none rfl, _, rfl, .val (rn_field44_0 rfl (fr_old rfl rfl)) ⟨Below.refl _ _, rfl⟩⟩) ?_
        refine .cons (fun f w' hI hs => ?_) ?_
        · obtain ⟨s1, p1, l1, c1, s2, p2, l2, c2, e1, e2, e3⟩ := hI.a
          exact ⟨wanted_none rfl, _, rfl, .val (rn_load41n rfl ((fr_own rfl rfl).trans (hs 10 (by kernel_rfl))) e1) ⟨Below.refl _ _, e3⟩⟩
        refine .cons (fun f w' hI hs => ⟨wanted_none rfl, _, rfl, .call1 rfl cf92 rfl rfl (by
          have h := PTx.kd (ztextr_any _ a.num _ (hs 11 (by kernel_rfl)))
          rw [← HS.out] at h
          exact h)⟩) ?_
        refine .cons (fun f w' hI hs => ⟨wanted_none rfl, _, rfl, .val (rn_add9 rfl ((fr_own rfl rfl).trans (hs 12 (by kernel_rfl))) rfl (addsz (b := 1) HL.out (by decide) (by decide))) ⟨Below.refl _ _, rfl⟩⟩) ?_
        refine .cons (fun f w' hI hs => ?_) ?_
        · obtain ⟨s1, p1, l1, c1, s2, p2, l2, c2, e1, e2, e3⟩ := hI.a
          exact ⟨wanted_none rfl, _, rfl, .val (rn_load44 rfl (fr_old rfl rfl) e1) ⟨Below.refl _ _, e2⟩⟩
        refine .cons (fun f w' hI hs => ⟨wanted_none rfl, _, rfl, .call1 rfl cf33 rfl rfl (PRZ.kd (rden_any _ a _ (hs 14 (by kernel_rfl))))⟩) ?_
        refine .cons (fun f w' hI hs => ⟨wanted_none rfl, _, rfl, .call1 rfl cf92 rfl rfl (by
          have h := PTx.kd (ztextr_any _ (a.den : Int) _ (hs 15 (by kernel_rfl)))
          rw [← HU.out] at h
          exact h)⟩) ?_
        refine .cons (fun f w' hI hs => ⟨wanted_none rfl, _, rfl, .val (rn_add9 rfl ((fr_own rfl rfl).trans (hs 13 (by kernel_rfl))) ((fr_own rfl rfl).trans (hs 16 (by kernel_rfl))) (addsz (catsz (b := 1) HL.out (by decide)) HL2.out (by decide))) ⟨Below.refl _ _, rfl⟩⟩) ?_
        exact .cons (fun f w' hI hs => ⟨wanted_none rfl, _, rfl, .val (rn_assign rfl) ⟨Below.refl _ _, ((fr_own rfl rfl).trans (hs 17 (by kernel_rfl)))⟩⟩) .nil
      · intro f w' hI hk
        have h2 : f 2 = .string (s ++ ⟨#[47]⟩ ++ u) := hk 2 (by kernel_rfl)
        refine hK _ _ (Met.intro (hJ _ _ ?_))
        (repeat apply Exists.intro)
        refine ⟨?_, rfl⟩
        exact ⟨h2, hI.k⟩
    case rest =>
      obtain ⟨rfl, kf⟩ := hcut
      clear S
      go_wp2
      go_ret
      refine ⟨kf, ?_⟩
      unfold txtR
      rw [if_neg HD.out, HS.out, HU.out, ← cat_txt, ByteArray.append_assoc]
      rfl
structure G20 (w0 : World) (a : Rat) (w : World) : Prop where
  k : Below w0.heap.size w0 w
  qa : Hq w0.heap.size a.num a.den w
  b : HA (w0.heap.size + 1) a w
theorem G20.keep {w0 w w' : World} {a : Rat} (h : G20 w0 a w) (hb : Below w.heap.size w w') : G20 w0 a w' := ⟨Below.thru h.k h.k.size hb, h.qa.keep hb, h.b.keep hb⟩
def D20 (t : Nat) : Bool := Nat.ble 4 t && Nat.ble t 9
def tab20 (a : Rat) (t : Nat) : Kd := [.v (.bool true), .q a.num a.den, .v (.string (txtR a.num a.den)), kra a, .v (.string (txtR a.num a.den)), .v (.bool true)].getD (t - 4) .any
theorem ztextRq {v : Value} {x : Rat} {w : World} {k : Nat} (h : Rr w v x.num x.den) (b : Bd9 k x) (hk : k ≤ 1000) : Calls Tryz.prog 80 #[v] w (PTr x.num x.den w) :=
  rtext_any v x.num x.den w h (grC_any _ (b.szn hk)) (sz_nd (b.szn hk)) (grC_any _ (b.szd hk)) (sz_nd (b.szd hk))
theorem toList_beq' (a b : ByteArray) : (a.toList == b.toList) = decide (a = b) := by
  by_cases e : a = b
  · subst e; simp
  · have h2 : ¬ a.toList = b.toList := fun h => e (by rw [ByteArray.toList_eq, ByteArray.toList_eq] at h; exact ByteArray.ext (Array.ext' h))
    simp [e, h2]
theorem rn_eqlT {ρ : Operand → Value} {o : Oper} {w : World} {t c : Operand} {a b : ByteArray} {r : Bool} (ho : o.op = .binOp .eql 9 t c 9) (h1 : ρ t = .string a) (h2 : ρ c = .string b) (hc : decide (a = b) = r) : (execOp ρ o).run Tryz.prog w = .ok (.value (.bool r)) w := by
  subst hc; unfold execOp; rw [ho]; simp [go_sem, h1, h2, toList_beq']
set_option maxHeartbeats 1600000 in
theorem same_any (va vb : Value) (a : Rat) (k : Nat) (w : World) (ha : Rr w va a.num a.den) (hb : RA w vb a) (ba : Bd9 k a) (hk : k ≤ 1000) : Calls Tryz.prog 20 #[va, vb] w (PB true w) := by
  obtain ⟨s, x, p, y, q, rfl⟩ := ha.agg
  obtain ⟨s1, p1, l1, c1, s2, p2, l2, c2, rfl⟩ := hb.agg
  have n1 := sz_nd (ba.szn hk); have n2 := sz_nd (ba.szd hk)
  have t1 := txt_size a.num; have t2 := txt_size (a.den : Int)
  rw [Int.natAbs_natCast] at t2
  have L1 : Hid ((txt a.num).size ≤ 200000) := by show _ ≤ _; omega
  have L2 : Hid ((txt (a.den : Int)).size ≤ 200000) := by show _ ≤ _; omega
  have S0 : G20 w a ((w.alloc (.cells #[.bool s, .int .u64 x, .pointer p, .int .u64 y, .pointer q] 33)).alloc (.cells #[.int .i64 s1, .slice p1 l1 c1, .int .i64 s2, .slice p2 l2 c2] 44)) := by
    refine ⟨bl2 _ _ _, (Hq.new ha).keep (bl1 _ _), ?_⟩
    have := HA.new (hb.keep (bl1 w (.cells #[.bool s, .int .u64 x, .pointer p, .int .u64 y, .pointer q] 33)) (Nat.le_refl _))
    rw [World.size_alloc] at this
    exact this
  have S := Lib.hid S0
  clear ha hb S0 n1 n2 t1 t2
  go_enter Tryz.func20, Tryz.ntmps20
  go_upto_region 1 with fail
  go_cut [4] (fun v wx => v = .bool true ∧ Below w.heap.size w wx)
  case first =>
    rename_i J K' hJ hK
    refine wp_region_kd D20 (tab20 a) (G20 w a) (by kernel_rfl) (by kernel_rfl) (by kernel_rfl) (by kernel_rfl) (fun _ _ h hb => h.keep hb) (S.out.keep (Below.refl _ _).drew) ?_ ?_
    · refine .cons (fun f w' hI hs => ?_) ?_
      · obtain ⟨s, x, y, p, q, h1, h2⟩ := hI.qa
        exact ⟨wanted_none rfl, _, rfl, .val (rn_load61 rfl (fr_old rfl rfl) h1) ⟨Below.refl _ _, h2⟩⟩
      refine .cons (fun f w' hI hs => ⟨wanted_none rfl, _, rfl, .call1 rfl cf80 rfl rfl (PTr.kd (ztextRq (x := a) (hs 5 (by kernel_rfl)) ba hk))⟩) ?_
      refine .cons (fun f w' hI hs => ?_) ?_
      · obtain ⟨s1, p1, l1, c1, s2, p2, l2, c2, e1, e2, e3⟩ := hI.b
        exact ⟨wanted_none rfl, _, rfl, .val (rn_load44 rfl (fr_old rfl rfl) e1) ⟨Below.refl _ _, e2⟩⟩
      refine .cons (fun f w' hI hs => ⟨wanted_none rfl, _, rfl, .call1 rfl cf95 rfl rfl (PTr.kd (rtextr_any _ a _ (hs 7 (by kernel_rfl)) L1.out L2.out))⟩) ?_
      refine .cons (fun f w' hI hs => ⟨wanted_none rfl, _, rfl, .val (rn_eqlT rfl ((fr_own rfl rfl).trans (hs 6 (by kernel_rfl))) ((fr_own rfl rfl).trans (hs 8 (by kernel_rfl))) (by simp)) ⟨Below.refl _ _, rfl⟩⟩) ?_
      exact .cons (fun f w' hI hs => ⟨wanted_none rfl, _, rfl, .val (rn_assign rfl) ⟨Below.refl _ _, ((fr_own rfl rfl).trans (hs 9 (by kernel_rfl)))⟩⟩) .nil
    · intro f w' hI hk
      have h4 : f 4 = .bool true := hk 4 (by kernel_rfl)
      refine hK _ _ (Met.intro (hJ _ _ ?_))
      (repeat apply Exists.intro)
      refine ⟨?_, rfl⟩
      exact ⟨h4, hI.k⟩
  case rest =>
    obtain ⟨rfl, kf⟩ := hcut
    clear S
    go_wp2
    go_ret
    exact ⟨kf, rfl⟩
end Go.Proofs.YtjjomjjgoceklaaGreat
