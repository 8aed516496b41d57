import Derived.Test.YtjjomjjgoceklaaGreatVj
import Derived.Test.YtjjomjjgoceklaaGreatVh
namespace Go.Proofs.YtjjomjjgoceklaaGreat
set_option maxRecDepth 100000
open Go.RowKit

/-! the reference's functions on ratios, as the rationals' -/
def RA (w : World) (v : Value) (a : Rat) : Prop := ∃ d : Int, RRv w v a.num d ∧ (d = (a.den : Int) ∨ (d = 0 ∧ a.den = 1))
theorem RA.of {w : World} {v : Value} {a : Rat} (h : RRv w v a.num (a.den : Int)) : RA w v a := ⟨_, h, .inl rfl⟩
theorem RA.keep {w w' : World} {v : Value} {a : Rat} {B : Nat} (h : RA w v a) (hb : Below B w w') (hB : w.heap.size ≤ B) : RA w' v a := by
  obtain ⟨d, h1, h2⟩ := h
  exact ⟨d, h1.keep hb hB, h2⟩
theorem RA.agg {w : World} {v : Value} {a : Rat} (h : RA w v a) : ∃ (s1 : Int) (p1 : Option Addr) (l1 c1 : Nat) (s2 : Int) (p2 : Option Addr) (l2 c2 : Nat), v = .agg #[.int .i64 s1, .slice p1 l1 c1, .int .i64 s2, .slice p2 l2 c2] := by
  obtain ⟨d, h1, _⟩ := h
  exact h1.agg
/-- its box -/
def HA (T : Nat) (a : Rat) (w : World) : Prop := ∃ (s1 : Int) (p1 : Option Addr) (l1 c1 : Nat) (s2 : Int) (p2 : Option Addr) (l2 c2 : Nat), w.heap[T]? = some (.cells #[.int .i64 s1, .slice p1 l1 c1, .int .i64 s2, .slice p2 l2 c2] 44 (0, 0)) ∧ RA w (.agg #[.int .i64 s1, .slice p1 l1 c1, .int .i64 s2, .slice p2 l2 c2]) a ∧ RZ w (.agg #[.int .i64 s1, .slice p1 l1 c1]) a.num
theorem HA.keep {T : Nat} {a : Rat} {w w' : World} (h : HA T a w) (hb : Below w.heap.size w w') : HA T a w' := by
  obtain ⟨s1, p1, l1, c1, s2, p2, l2, c2, h1, h2, h3⟩ := h
  exact ⟨s1, p1, l1, c1, s2, p2, l2, c2, blk_keep h1 hb, h2.keep hb (Nat.le_refl _), h3.keep hb (Nat.le_refl _)⟩
theorem HA.new {w : World} {a : Rat} {s1 : Int} {p1 : Option Addr} {l1 c1 : Nat} {s2 : Int} {p2 : Option Addr} {l2 c2 : Nat} (h : RA w (.agg #[.int .i64 s1, .slice p1 l1 c1, .int .i64 s2, .slice p2 l2 c2]) a) : HA w.heap.size a (w.alloc (.cells #[.int .i64 s1, .slice p1 l1 c1, .int .i64 s2, .slice p2 l2 c2] 44)) := by
  obtain ⟨d, h1, h2⟩ := id h
  exact ⟨s1, p1, l1, c1, s2, p2, l2, c2, Go.Deep.blk_alloc_new _ _, h.keep (bl1 _ _) (Nat.le_refl _), h1.parts.1.keep (bl1 _ _) (Nat.le_refl _)⟩
def kra (a : Rat) : Kd := .c (fun v w => RA w v a) fun _ _ _ h hb => h.keep hb (Nat.le_refl _)
def PRA (a : Rat) (w : World) (e : Ending) (w' : World) : Prop := Below w.heap.size w w' ∧ ∃ v, e = .returned v ∧ RA w' v a
theorem PRA.kd {a : Rat} {w : World} {g : FuncId} {args : Array Value} (h : Calls Tryz.prog g args w (PRA a w)) : Calls Tryz.prog g args w fun e w' => ∃ v, e = .returned v ∧ (Below w.heap.size w w' ∧ Go.Proofs.YtjjomjjgoceklaaGreat.kd (kra a) v w') := h.mono fun _ _ ⟨hb, v, he, hv⟩ => ⟨v, he, hb, hv⟩
theorem PRR.ra {n d : Int} {a : Rat} {w : World} {g : FuncId} {args : Array Value} (h : Calls Tryz.prog g args w (PRR n d w)) (h1 : n = a.num) (h2 : d = (a.den : Int)) : Calls Tryz.prog g args w (PRA a w) := by
  subst h1; subst h2
  exact h.mono fun _ _ ⟨hb, v, he, hv⟩ => ⟨hb, v, he, .of hv⟩
section
variable {ρ : Operand → Value} {o : Oper} {w : World} {t : Operand}
theorem rn_field44_0 {b : Nat} (ho : o.op = .fieldAddr 44 t 0) (he : ρ t = .pointer (some ⟨b, 0, none⟩)) : (execOp ρ o).run Tryz.prog w = .ok (.value (.pointer (some ⟨b, 0, none⟩))) w := by
  unfold execOp; rw [ho]; simp [go_sem, he]
theorem rn_load41n {T : Nat} {s1 : Int} {p1 : Option Addr} {l1 c1 : Nat} {s2 : Int} {p2 : Option Addr} {l2 c2 : Nat} (ho : o.op = .load 41 t) (he : ρ t = .pointer (some ⟨T, 0, none⟩)) (h : w.heap[T]? = some (.cells #[.int .i64 s1, .slice p1 l1 c1, .int .i64 s2, .slice p2 l2 c2] 44 (0, 0))) : (execOp ρ o).run Tryz.prog w = .ok (.value (.agg #[.int .i64 s1, .slice p1 l1 c1])) w := by
  have g1 : w.cell? ⟨T, 0, none⟩ = some (.int .i64 s1) := by simp [World.cell?, h]
  have g2 : w.cell? ⟨T, 1, none⟩ = some (.slice p1 l1 c1) := by simp [World.cell?, h]
  unfold execOp; rw [ho]; simp [go_sem, he, g1, g2]
end
theorem cf33 : CF 33 := fun W args => by go_simp
theorem cf29 : CF 29 := fun W args => by go_simp
theorem rden_any (v : Value) (a : Rat) (w : World) (h : RA w v a) : Calls Tryz.prog 33 #[v] w (PRZ (a.den : Int) w) := by
  obtain ⟨d, ⟨s1, p1, l1, c1, s2, p2, l2, c2, rfl, _, h2⟩, hd⟩ := h
  have hs2 : s2 = d.sign := by
    obtain ⟨_, _, _, e⟩ := h2.agg
    simp at e
    exact e.1
  have H2 := Lib.hid h2
  clear h2
  rcases hd with hd | ⟨hd, h1⟩
  · have : s2 = 1 := by rw [hs2, hd, Int.sign_eq_one_of_pos (by have := a.den_pos; omega)]
    subst this
    subst hd
    clear hs2
    go_enter Tryz.func33, Tryz.ntmps33
    go_wp2
    exact bodyPost_ret (v := .agg #[.int .i64 1, .slice p2 l2 c2]) (by simp [results, Tryz.results33, go_sem]) rfl ⟨bl2 _ _ _, _, rfl, H2.out.keep (bl2 _ _ _) (Nat.le_refl _)⟩
  · have : s2 = 0 := by rw [hs2, hd]; rfl
    subst this
    have h1' : ((a.den : Nat) : Int) = 1 := by omega
    rw [h1']
    clear hs2 hd H2
    go_enter Tryz.func33, Tryz.ntmps33
    go_wp2_with fail
    refine (zint_any 1 _ (by decide)).mono ?_
    rintro e w1 ⟨hb1, v1, rfl, h9⟩
    obtain ⟨s9, p9, l9, c9, rfl, h9⟩ := PRZ.box h9
    have t1 : Bz (w.heap.size + 1) 0 none 0 0 w1 := (bz_new _ _ _ _ _ (by simp)).keep hb1 (by simp)
    have k1 := Below.thru (bl2 w _ _) (by simp <;> omega) hb1
    obtain ⟨m1, m2, m3, m4⟩ := t1.cells
    obtain ⟨g1, g2⟩ := two_cells m1 m2 (.int .i64 s9) (.slice p9 l9 c9)
    have HF := Lib.hid (h9.store t1.noI (grown2 w1 (w.heap.size + 1) 0 1 (.int .i64 s9) (.slice p9 l9 c9)))
    have KF := Lib.hid (below2 k1 (show w.heap.size ≤ w.heap.size + 1 by omega) (.int .i64 s9) (.slice p9 l9 c9))
    clear hb1 h9 k1 t1
    go_wp2
    exact bodyPost_ret (v := .agg #[.int .i64 s9, .slice p9 l9 c9]) (by simp [results, Tryz.results33, go_sem, g1, g2]) rfl ⟨KF.out, _, rfl, HF.out⟩
/-- the absolute value -/
def absQ (a : Rat) : Rat := ⟨(a.num.natAbs : Int), a.den, a.den_nz, by rw [Int.natAbs_natCast]; exact a.reduced⟩
/-- two ratios in boxes, a third box for the result -/
structure G2 (w0 : World) (a b : Rat) (w : World) : Prop where
  k : Below w0.heap.size w0 w
  a : HA w0.heap.size a w
  b : HA (w0.heap.size + 1) b w
  t : R4 (w0.heap.size + 1 + 1) w
theorem G2.keep {w0 w w' : World} {a b : Rat} (h : G2 w0 a b w) (hb : Below w.heap.size w w') : G2 w0 a b w' := ⟨Below.thru h.k h.k.size hb, h.a.keep hb, h.b.keep hb, h.t.keep hb⟩
structure G1 (w0 : World) (a : Rat) (w : World) : Prop where
  k : Below w0.heap.size w0 w
  a : HA w0.heap.size a w
  t : R4 (w0.heap.size + 1) w
theorem G1.keep {w0 w w' : World} {a : Rat} (h : G1 w0 a w) (hb : Below w.heap.size w w') : G1 w0 a w' := ⟨Below.thru h.k h.k.size hb, h.a.keep hb, h.t.keep hb⟩
structure G2c (w0 : World) (a b : Rat) (w : World) : Prop where
  k : Below w0.heap.size w0 w
  a : HA w0.heap.size a w
  b : HA (w0.heap.size + 1) b w
theorem G2c.keep {w0 w w' : World} {a b : Rat} (h : G2c w0 a b w) (hb : Below w.heap.size w w') : G2c w0 a b w' := ⟨Below.thru h.k h.k.size hb, h.a.keep hb, h.b.keep hb⟩
theorem bd_wn {k : Nat} {a : Rat} (h : Bd9 k a) : Wk k a.num := h.1
theorem bd_wd {k : Nat} {a : Rat} (h : Bd9 k a) : Wk k (a.den : Int) := h.wd
theorem HA.ofHR {T : Nat} {a : Rat} {d : Int} {w : World} (h : HR T a.num d w) (hd : d = (a.den : Int) ∨ (d = 0 ∧ a.den = 1)) : HA T a w := by
  obtain ⟨s1, p1, l1, c1, s2, p2, l2, c2, h1, h2⟩ := h
  exact ⟨s1, p1, l1, c1, s2, p2, l2, c2, h1, ⟨d, h2, hd⟩, h2.parts.1⟩
def tab43r (w : World) (a b r : Rat) (tt : Nat) : Kd := [(kp w.heap.size 0), .r a.num, (kra b), .r (b.den : Int), .r (a.num * (b.den : Int)), (kp (w.heap.size + 1) 0), .r b.num, (kra a), .r (a.den : Int), .r (b.num * (a.den : Int)), .r ((a.num * (b.den : Int)) + (b.num * (a.den : Int))), (kra a), .r (a.den : Int), (kra b), .r (b.den : Int), .r ((a.den : Int) * (b.den : Int)), (kra r)].getD (tt - 5) .any
def D43r (t : Nat) : Bool := (Nat.ble 5 t && Nat.ble t 21)
set_option maxHeartbeats 1600000 in
theorem raddr_any (va vb : Value) (a b r : Rat) (k l : Nat) (w : World) (ha : RA w va a) (hb : RA w vb b) (ba : Bd9 k a) (bb : Bd9 l b) (hk : k + l + 1 ≤ 75) (hr : r = a + b) : Calls Tryz.prog 43 #[va, vb] w (PRA r w) := by
  have HNZ := Lib.hid (den_ne a b)
  have HR : Hid (r = Rat.divInt (a.num * (b.den : Int) + b.num * (a.den : Int)) ((a.den : Int) * (b.den : Int))) := by show _ = _; rw [hr, rat_add]
  clear hr
  obtain ⟨s1, p1, l1, c1, s2, p2, l2, c2, rfl⟩ := ha.agg
  obtain ⟨s3, p3, l3, c3, s4, p4, l4, c4, rfl⟩ := hb.agg
  have S0 : G2 w a b (((w.alloc (.cells #[.int .i64 s1, .slice p1 l1 c1, .int .i64 s2, .slice p2 l2 c2] 44)).alloc (.cells #[.int .i64 s3, .slice p3 l3 c3, .int .i64 s4, .slice p4 l4 c4] 44)).alloc (.cells #[.int .i64 0, .slice none 0 0, .int .i64 0, .slice none 0 0] 44)) := by
    refine ⟨bl3 _ _ _ _, ((HA.new ha).keep (bl1 _ _)).keep (bl1 _ _), ?_, r4_new _ (by simp)⟩
    have := HA.new (hb.keep (bl1 w (.cells #[.int .i64 s1, .slice p1 l1 c1, .int .i64 s2, .slice p2 l2 c2] 44)) (Nat.le_refl _))
    rw [World.size_alloc] at this
    exact this.keep (bl1 _ _)
  have S := Lib.hid S0
  clear ha hb S0
  go_enter Tryz.func43, Tryz.ntmps43
  go_upto_region 1 with fail
  go_cut [] (fun wx => Below w.heap.size w wx ∧ HA (w.heap.size + 1 + 1) r wx)
  case first =>
    rename_i J K' hJ hK
    refine wp_region_two D43r (tab43r w a b r) (G2 w a b) 17 (fun _ _ w' => Below w.heap.size w w' ∧ HA (w.heap.size + 1 + 1) r w') (by kernel_rfl) (by kernel_rfl) (by kernel_rfl) (by kernel_rfl) (by decide) (by kernel_rfl) (fun _ _ h hb => h.keep hb) (S.out.keep (Below.refl _ _).drew) ?_ ?_ ?_
    ·
      refine .cons (fun f w' hI hs => ⟨wanted_none rfl, _, rfl, .val (rn_field44_0 rfl (fr_old rfl rfl)) ⟨Below.refl _ _, rfl⟩⟩) ?_
      refine .cons (fun f w' hI hs => ?_) ?_
      · obtain ⟨s1, p1, l1, c1, s2, p2, l2, c2, e1, e2, e3⟩ := hI.a
        exact ⟨wanted_none rfl, _, rfl, .val (rn_load41n rfl ((fr_own rfl rfl).trans (hs 5 (by kernel_rfl))) e1) ⟨Below.refl _ _, e3⟩⟩
      refine .cons (fun f w' hI hs => ?_) ?_
      · obtain ⟨s1, p1, l1, c1, s2, p2, l2, c2, e1, e2, e3⟩ := hI.b
        exact ⟨wanted_none rfl, _, rfl, .val (rn_load44 rfl (fr_old rfl rfl) e1) ⟨Below.refl _ _, e2⟩⟩
      refine .cons (fun f w' hI hs => ⟨wanted_none rfl, _, rfl, .call1 rfl cf33 rfl rfl (PRZ.kd (rden_any _ b _ (hs 7 (by kernel_rfl))))⟩) ?_
      refine .cons (fun f w' hI hs => ⟨wanted_none rfl, _, rfl, .call2 rfl cf99 rfl rfl rfl rfl (PRZ.kd (zmulr_any _ _ a.num (b.den : Int) _ (hs 6 (by kernel_rfl)) (hs 8 (by kernel_rfl)) (Wk.sr (bd_wn ba) (by omega)) (Wk.sr (bd_wd bb) (by omega))))⟩) ?_
      refine .cons (fun f w' hI hs => ⟨wanted_none rfl, _, rfl, .val (rn_field44_0 rfl (fr_old rfl rfl)) ⟨Below.refl _ _, rfl⟩⟩) ?_
      refine .cons (fun f w' hI hs => ?_) ?_
      · obtain ⟨s1, p1, l1, c1, s2, p2, l2, c2, e1, e2, e3⟩ := hI.b
        exact ⟨wanted_none rfl, _, rfl, .val (rn_load41n rfl ((fr_own rfl rfl).trans (hs 10 (by kernel_rfl))) e1) ⟨Below.refl _ _, e3⟩⟩
      refine .cons (fun f w' hI hs => ?_) ?_
      · obtain ⟨s1, p1, l1, c1, s2, p2, l2, c2, e1, e2, e3⟩ := hI.a
        exact ⟨wanted_none rfl, _, rfl, .val (rn_load44 rfl (fr_old rfl rfl) e1) ⟨Below.refl _ _, e2⟩⟩
      refine .cons (fun f w' hI hs => ⟨wanted_none rfl, _, rfl, .call1 rfl cf33 rfl rfl (PRZ.kd (rden_any _ a _ (hs 12 (by kernel_rfl))))⟩) ?_
      refine .cons (fun f w' hI hs => ⟨wanted_none rfl, _, rfl, .call2 rfl cf99 rfl rfl rfl rfl (PRZ.kd (zmulr_any _ _ b.num (a.den : Int) _ (hs 11 (by kernel_rfl)) (hs 13 (by kernel_rfl)) (Wk.sr (bd_wn bb) (by omega)) (Wk.sr (bd_wd ba) (by omega))))⟩) ?_
      refine .cons (fun f w' hI hs => ⟨wanted_none rfl, _, rfl, .call2 rfl cf98 rfl rfl rfl rfl (PRZ.kd (zaddr_any _ _ (a.num * (b.den : Int)) (b.num * (a.den : Int)) _ (hs 9 (by kernel_rfl)) (hs 14 (by kernel_rfl)) (Wk.sr (Wk.mul (bd_wn ba) (bd_wd bb)) (by omega)) (Wk.sr (Wk.mul (bd_wn bb) (bd_wd ba)) (by omega))))⟩) ?_
      refine .cons (fun f w' hI hs => ?_) ?_
      · obtain ⟨s1, p1, l1, c1, s2, p2, l2, c2, e1, e2, e3⟩ := hI.a
        exact ⟨wanted_none rfl, _, rfl, .val (rn_load44 rfl (fr_old rfl rfl) e1) ⟨Below.refl _ _, e2⟩⟩
      refine .cons (fun f w' hI hs => ⟨wanted_none rfl, _, rfl, .call1 rfl cf33 rfl rfl (PRZ.kd (rden_any _ a _ (hs 16 (by kernel_rfl))))⟩) ?_
      refine .cons (fun f w' hI hs => ?_) ?_
      · obtain ⟨s1, p1, l1, c1, s2, p2, l2, c2, e1, e2, e3⟩ := hI.b
        exact ⟨wanted_none rfl, _, rfl, .val (rn_load44 rfl (fr_old rfl rfl) e1) ⟨Below.refl _ _, e2⟩⟩
      refine .cons (fun f w' hI hs => ⟨wanted_none rfl, _, rfl, .call1 rfl cf33 rfl rfl (PRZ.kd (rden_any _ b _ (hs 18 (by kernel_rfl))))⟩) ?_
      refine .cons (fun f w' hI hs => ⟨wanted_none rfl, _, rfl, .call2 rfl cf99 rfl rfl rfl rfl (PRZ.kd (zmulr_any _ _ (a.den : Int) (b.den : Int) _ (hs 17 (by kernel_rfl)) (hs 19 (by kernel_rfl)) (Wk.sr (bd_wd ba) (by omega)) (Wk.sr (bd_wd bb) (by omega))))⟩) ?_
      refine .cons (fun f w' hI hs => ⟨wanted_none rfl, _, rfl, .call2 rfl cf29 rfl rfl rfl rfl (PRA.kd (PRR.ra (rofz_any _ _ ((a.num * (b.den : Int)) + (b.num * (a.den : Int))) ((a.den : Int) * (b.den : Int)) _ (hs 15 (by kernel_rfl)) (hs 20 (by kernel_rfl)) (Wk.sr (Wk.add (k := (k + l) + (l + k)) (Wk.mono (Wk.mul (bd_wn ba) (bd_wd bb)) (by omega)) (Wk.mono (Wk.mul (bd_wn bb) (bd_wd ba)) (by omega))) (by omega)) (Wk.sr (Wk.mul (bd_wd ba) (bd_wd bb)) (by omega)) HNZ.out) (by rw [← HR.out]) (by rw [← HR.out])))⟩) ?_
      exact .nil
    · refine .cons (fun f w' h => ⟨wanted_none rfl, ?_⟩) .nil
      obtain ⟨hI, hs⟩ := (if_pos rfl) ▸ h
      have hv : RA w' (f 21) r := (hs 21 (by kernel_rfl))
      obtain ⟨d, hv, hd⟩ := hv
      obtain ⟨s1, p1, l1, c1, s2, p2, l2, c2, e1⟩ := hv.agg
      rw [e1] at hv
      have hz := hI.t
      have hq := Go.Proofs.YtjjomjjgoceklaaGreat.HR.stored hz hv
      exact .skip (rn_store44 rfl (fr_old rfl rfl) ((fr_own rfl rfl).trans e1) hz) ⟨below4r hI.k (by omega) _ _ _ _, HA.ofHR hq hd⟩
    · intro f w' h
      refine hK _ _ (Met.intro (hJ _ _ ?_))
      (repeat apply Exists.intro)
      refine ⟨?_, rfl⟩
      exact h
  case rest =>
    obtain ⟨kf, s1, p1, l1, c1, s2, p2, l2, c2, e1, e2, _⟩ := hcut
    have i0 := cell_blk (i := 0) e1
    have i1 := cell_blk (i := 1) e1
    have i2 := cell_blk (i := 2) e1
    have i3 := cell_blk (i := 3) e1
    have KF := Lib.hid kf
    have VV1 := Lib.hid e2
    clear e1 e2 kf S
    go_wp2
    exact bodyPost_ret (v := .agg #[.int .i64 s1, .slice p1 l1 c1, .int .i64 s2, .slice p2 l2 c2]) (by simp [results, Tryz.results43, go_sem, i0, i1, i2, i3]) rfl ⟨KF.out, _, rfl, VV1.out⟩
def tab53r (w : World) (a b : Rat) (tt : Nat) : Kd := [(ki ((a.num * (b.den : Int)) - (b.num * (a.den : Int))).sign), (kp w.heap.size 0), .r a.num, (kra b), .r (b.den : Int), .r (a.num * (b.den : Int)), (kp (w.heap.size + 1) 0), .r b.num, (kra a), .r (a.den : Int), .r (b.num * (a.den : Int)), (ki ((a.num * (b.den : Int)) - (b.num * (a.den : Int))).sign)].getD (tt - 4) .any
def D53r (t : Nat) : Bool := (Nat.ble 4 t && Nat.ble t 15)
theorem sign_cmp (a b : Rat) : (a.num * (b.den : Int) - b.num * (a.den : Int)).sign = cmpQ a b := by
  rw [← cmpQ_of]
  unfold sgnZ
  by_cases h : a.num * (b.den : Int) < b.num * (a.den : Int)
  · rw [if_pos h, Int.sign_eq_neg_one_of_neg (by omega)]
  · rw [if_neg h]
    by_cases e : a.num * (b.den : Int) = b.num * (a.den : Int)
    · rw [if_pos e, e, Int.sub_self]; rfl
    · rw [if_neg e, Int.sign_eq_one_of_pos (by omega)]
set_option maxHeartbeats 1600000 in
theorem rcmpr_any (va vb : Value) (a b : Rat) (k l : Nat) (w : World) (ha : RA w va a) (hb : RA w vb b) (ba : Bd9 k a) (bb : Bd9 l b) (hk : k + l ≤ 75) : Calls Tryz.prog 53 #[va, vb] w fun e w' => Below w.heap.size w w' ∧ e = .returned (.int .i64 (cmpQ a b)) := by
  obtain ⟨s1, p1, l1, c1, s2, p2, l2, c2, rfl⟩ := ha.agg
  obtain ⟨s3, p3, l3, c3, s4, p4, l4, c4, rfl⟩ := hb.agg
  have S0 : G2c w a b ((w.alloc (.cells #[.int .i64 s1, .slice p1 l1 c1, .int .i64 s2, .slice p2 l2 c2] 44)).alloc (.cells #[.int .i64 s3, .slice p3 l3 c3, .int .i64 s4, .slice p4 l4 c4] 44)) := by
    refine ⟨bl2 _ _ _, (HA.new ha).keep (bl1 _ _), ?_⟩
    have := HA.new (hb.keep (bl1 w (.cells #[.int .i64 s1, .slice p1 l1 c1, .int .i64 s2, .slice p2 l2 c2] 44)) (Nat.le_refl _))
    rw [World.size_alloc] at this
    exact this
  have S := Lib.hid S0
  clear ha hb S0
  go_enter Tryz.func53, Tryz.ntmps53
  go_upto_region 1 with fail
  go_cut [4] (fun v wx => v = .int .i64 (cmpQ a b) ∧ Below w.heap.size w wx)
  case first =>
    rename_i J K' hJ hK
    refine wp_region_kd D53r (tab53r w a b) (G2c w a b) (by kernel_rfl) (by kernel_rfl) (by kernel_rfl) (by kernel_rfl) (fun _ _ h hb => h.keep hb) (S.out.keep (Below.refl _ _).drew) ?_ ?_
    ·
      refine .cons (fun f w' hI hs => ⟨wanted_none rfl, _, rfl, .val (rn_field44_0 rfl (fr_old rfl rfl)) ⟨Below.refl _ _, rfl⟩⟩) ?_
      refine .cons (fun f w' hI hs => ?_) ?_
      · obtain ⟨s1, p1, l1, c1, s2, p2, l2, c2, e1, e2, e3⟩ := hI.a
        exact ⟨wanted_none rfl, _, rfl, .val (rn_load41n rfl ((fr_own rfl rfl).trans (hs 5 (by kernel_rfl))) e1) ⟨Below.refl _ _, e3⟩⟩
      refine .cons (fun f w' hI hs => ?_) ?_
      · obtain ⟨s1, p1, l1, c1, s2, p2, l2, c2, e1, e2, e3⟩ := hI.b
        exact ⟨wanted_none rfl, _, rfl, .val (rn_load44 rfl (fr_old rfl rfl) e1) ⟨Below.refl _ _, e2⟩⟩
      refine .cons (fun f w' hI hs => ⟨wanted_none rfl, _, rfl, .call1 rfl cf33 rfl rfl (PRZ.kd (rden_any _ b _ (hs 7 (by kernel_rfl))))⟩) ?_
      refine .cons (fun f w' hI hs => ⟨wanted_none rfl, _, rfl, .call2 rfl cf99 rfl rfl rfl rfl (PRZ.kd (zmulr_any _ _ a.num (b.den : Int) _ (hs 6 (by kernel_rfl)) (hs 8 (by kernel_rfl)) (Wk.sr (bd_wn ba) (by omega)) (Wk.sr (bd_wd bb) (by omega))))⟩) ?_
      refine .cons (fun f w' hI hs => ⟨wanted_none rfl, _, rfl, .val (rn_field44_0 rfl (fr_old rfl rfl)) ⟨Below.refl _ _, rfl⟩⟩) ?_
      refine .cons (fun f w' hI hs => ?_) ?_
      · obtain ⟨s1, p1, l1, c1, s2, p2, l2, c2, e1, e2, e3⟩ := hI.b
        exact ⟨wanted_none rfl, _, rfl, .val (rn_load41n rfl ((fr_own rfl rfl).trans (hs 10 (by kernel_rfl))) e1) ⟨Below.refl _ _, e3⟩⟩
      refine .cons (fun f w' hI hs => ?_) ?_
      · obtain ⟨s1, p1, l1, c1, s2, p2, l2, c2, e1, e2, e3⟩ := hI.a
        exact ⟨wanted_none rfl, _, rfl, .val (rn_load44 rfl (fr_old rfl rfl) e1) ⟨Below.refl _ _, e2⟩⟩
      refine .cons (fun f w' hI hs => ⟨wanted_none rfl, _, rfl, .call1 rfl cf33 rfl rfl (PRZ.kd (rden_any _ a _ (hs 12 (by kernel_rfl))))⟩) ?_
      refine .cons (fun f w' hI hs => ⟨wanted_none rfl, _, rfl, .call2 rfl cf99 rfl rfl rfl rfl (PRZ.kd (zmulr_any _ _ b.num (a.den : Int) _ (hs 11 (by kernel_rfl)) (hs 13 (by kernel_rfl)) (Wk.sr (bd_wn bb) (by omega)) (Wk.sr (bd_wd ba) (by omega))))⟩) ?_
      refine .cons (fun f w' hI hs => ⟨wanted_none rfl, _, rfl, .call2 rfl cf103 rfl rfl rfl rfl (PSd.kd (zcmpr_any _ _ (a.num * (b.den : Int)) (b.num * (a.den : Int)) _ (hs 9 (by kernel_rfl)) (hs 14 (by kernel_rfl)) (Wk.sr (Wk.mul (bd_wn ba) (bd_wd bb)) (by omega)) (Wk.sr (Wk.mul (bd_wn bb) (bd_wd ba)) (by omega))) rfl)⟩) ?_
      refine .cons (fun f w' hI hs => ⟨wanted_none rfl, _, rfl, .val (rn_assign rfl) ⟨Below.refl _ _, ((fr_own rfl rfl).trans (hs 15 (by kernel_rfl)))⟩⟩) ?_
      exact .nil
    · intro f w' hI hk
      have h4 : f 4 = .int .i64 (a.num * (b.den : Int) - b.num * (a.den : Int)).sign := hk 4 (by kernel_rfl)
      rw [sign_cmp] at h4
      refine hK _ _ (Met.intro (hJ _ _ ?_))
      (repeat apply Exists.intro)
      refine ⟨?_, rfl⟩
      exact ⟨h4, hI.k⟩
  case rest =>
    obtain ⟨rfl, kf⟩ := hcut
    clear S
    go_wp2
    go_ret
    exact ⟨kf, rfl⟩
end Go.Proofs.YtjjomjjgoceklaaGreat
