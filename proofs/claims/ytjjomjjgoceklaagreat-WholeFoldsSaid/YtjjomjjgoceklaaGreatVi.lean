import Derived.Test.YtjjomjjgoceklaaGreatVg
import Derived.Test.YtjjomjjgoceklaaGreatVh
namespace Go.Proofs.YtjjomjjgoceklaaGreat
set_option maxRecDepth 100000
open Go.RowKit

/-! Ratio in both ways, Both -/
theorem i64_sr {n : Int} (h : I64 n) : Sr n := (Wk.i64 h).sr (by decide)
theorem i64_sz {n : Int} (h : I64 n) : Sz n.natAbs := (Wk.i64 h).sz (by decide)
theorem rratio_any (n d : Int) (w : World) (hn : I64 n) (hd : I64 d) (h0 : d ≠ 0) : Calls Tryz.prog 27 #[.int .i64 n, .int .i64 d] w (PRR (Rat.divInt n d).num ((Rat.divInt n d).den : Int) w) := by
  have HN := Lib.hid hn; have HD := Lib.hid hd; have H0 := Lib.hid h0
  clear hn hd h0
  go_enter Tryz.func27, Tryz.ntmps27
  go_wp2_with fail
  refine (zint_any n _ HN.out).mono ?_
  rintro e w1 ⟨hb1, v1, rfl, h1⟩
  have t1 : R4 w.heap.size w1 := (r4_new _ rfl).keep (hb1.mono (by simp))
  have k1 := Below.thru (bl1 w _) (by simp) hb1
  clear hb1
  go_wp2_with fail
  refine (zint_any d _ HD.out).mono ?_
  rintro e w2 ⟨hb2, v2, rfl, h2⟩
  have t2 := t1.keep hb2
  have k2 := Below.thru k1 k1.size hb2
  have h1 := h1.keep hb2 (Nat.le_refl _)
  clear hb2 t1 k1
  go_wp2_with fail
  refine (rofz_any v1 v2 n d w2 h1 h2 (i64_sr HN.out) (i64_sr HD.out) H0.out).mono ?_
  rintro e w5 ⟨hb5, v5, rfl, h5⟩
  have t5 := t2.keep hb5
  have k5 := Below.thru k2 k2.size hb5
  obtain ⟨s1, p1, l1, c1, s2, p2, l2, c2, rfl⟩ := h5.agg
  have H5 := Lib.hid h5
  clear t2 k2 hb5 h5 h1 h2
  obtain ⟨_, _, _, _, _, _, _, _, m1, m2, m3, m4, m5, m6, m7, m8⟩ := t5.cells
  obtain ⟨n1, n2, n3, n4⟩ := four_cells m1 m2 m3 m4 (.int .i64 s1) (.slice p1 l1 c1) (.int .i64 s2) (.slice p2 l2 c2)
  have HF := Lib.hid (H5.out.store t5.noI (grown4r w5 w.heap.size (.int .i64 s1) (.slice p1 l1 c1) (.int .i64 s2) (.slice p2 l2 c2)))
  have KF := Lib.hid (below4r k5 (Nat.le_refl w.heap.size) (.int .i64 s1) (.slice p1 l1 c1) (.int .i64 s2) (.slice p2 l2 c2))
  unfold st4r at n1 n2 n3 n4
  go_wp2
  exact bodyPost_ret (v := .agg #[.int .i64 s1, .slice p1 l1 c1, .int .i64 s2, .slice p2 l2 c2]) (by simp [results, Tryz.results27, go_sem, n1, n2, n3, n4]) rfl ⟨KF.out, _, rfl, HF.out⟩
theorem ofzR (vn vd : Value) (n d : Int) (w : World) (hn : Zr w vn n) (hd : Zr w vd d) (h0 : d ≠ 0) (sn : Sz n.natAbs) (sd : Sz d.natAbs) : Calls Tryz.prog 28 #[vn, vd] w (PRe (Rat.divInt n d).num (Rat.divInt n d).den 0 w) := by
  have gsz : ∀ a b : Nat, 0 < b → Sz b → Sz (Nat.gcd a b) := fun a b h0 ⟨k, h1, h2⟩ => ⟨k, h1, Nat.lt_of_le_of_lt (Nat.gcd_le_right a h0) h2⟩
  have key : ∀ (m : Int) (e : Nat), 0 < e → Int.tdiv m (Nat.gcd m.natAbs e : Nat) = (Rat.divInt m e).num ∧ e / Nat.gcd m.natAbs e = (Rat.divInt m e).den := by
    intro m e h0
    refine rat_of_div (by omega) (Nat.div_pos (Nat.gcd_le_right _ h0) (Nat.gcd_pos_of_pos_right _ h0)) ?_ ?_
    · rw [Int.natAbs_tdiv, Int.natAbs_natCast]
      exact Nat.coprime_div_gcd_div_gcd (Nat.gcd_pos_of_pos_right _ h0)
    · have e1 : (Nat.gcd m.natAbs e : Int) * Int.tdiv m (Nat.gcd m.natAbs e : Nat) = m := Int.mul_tdiv_cancel' (Int.ofNat_dvd_left.2 (Nat.gcd_dvd_left _ _))
      have e2 : (e : Int) = (Nat.gcd m.natAbs e : Nat) * (e / Nat.gcd m.natAbs e : Nat) := by rw [← Int.natCast_mul, Nat.mul_div_cancel' (Nat.gcd_dvd_right m.natAbs e)]
      generalize Int.tdiv m (Nat.gcd m.natAbs e : Nat) = N at *
      generalize ((e / Nat.gcd m.natAbs e : Nat) : Int) = E at *
      generalize ((Nat.gcd m.natAbs e : Nat) : Int) = g at *
      rw [e2, ← e1]
      ac_rfl
  rcases Int.lt_or_lt_of_ne h0 with h | h
  · have hd' : Zr w vd (-(d.natAbs : Int)) := hd.cast (by omega)
    have p := ofZ_neg vn vd n d.natAbs w hn hd' (by omega) (common_all _ _ (by rw [Int.natAbs_neg]; exact sn) sd) (fun _ => over_all _ _ (by rw [Int.natAbs_neg]; exact sn) (by have := Nat.gcd_pos_of_pos_right (-n).natAbs (show 0 < d.natAbs by omega); omega)) (fun _ => over_all _ _ sd (by have := Nat.gcd_pos_of_pos_right (-n).natAbs (show 0 < d.natAbs by omega); omega))
    obtain ⟨k1, k2⟩ := key (-n) d.natAbs (by omega)
    rw [k1, k2] at p
    have e : Rat.divInt (-n) (d.natAbs : Int) = Rat.divInt n d := by rw [show (d.natAbs : Int) = -d by omega, Rat.divInt_neg', Int.neg_neg]
    rw [e] at p
    exact p
  · have hd' : Zr w vd (d.natAbs : Int) := hd.cast (by omega)
    have p := ofZ_pos vn vd n d.natAbs w hn hd' (by omega) (common_all _ _ sn sd) (fun _ => over_all _ _ sn (by have := Nat.gcd_pos_of_pos_right n.natAbs (show 0 < d.natAbs by omega); omega)) (fun _ => over_all _ _ sd (by have := Nat.gcd_pos_of_pos_right n.natAbs (show 0 < d.natAbs by omega); omega))
    obtain ⟨k1, k2⟩ := key n d.natAbs (by omega)
    rw [k1, k2] at p
    have e : Rat.divInt n (d.natAbs : Int) = Rat.divInt n d := by rw [show (d.natAbs : Int) = d by omega]
    rw [e] at p
    exact p
theorem ratioR (n d : Int) (w : World) (hn : I64 n) (hd : I64 d) (h0 : d ≠ 0) : Calls Tryz.prog 26 #[.int .i64 n, .int .i64 d] w (PRe (Rat.divInt n d).num (Rat.divInt n d).den 0 w) :=
  ratio_any n d _ 0 _ w hn hd fun W v1 v2 h1 h2 => ofzR v1 v2 n d W h1 h2 h0 (i64_sz hn) (i64_sz hd)
def krr (n d : Int) : Kd := .c (fun v w => RRv w v n d) fun _ _ _ h hb => h.keep hb (Nat.le_refl _)
theorem PRR.kd {n d : Int} {w : World} {g : FuncId} {args : Array Value} (h : Calls Tryz.prog g args w (PRR n d w)) : Calls Tryz.prog g args w fun e w' => ∃ v, e = .returned v ∧ (Below w.heap.size w w' ∧ Go.Proofs.YtjjomjjgoceklaaGreat.kd (krr n d) v w') := h.mono fun _ _ ⟨hb, v, he, hv⟩ => ⟨v, he, hb, hv⟩
/-- the boxes of Both -/
structure NB (w0 : World) (N D : Int) (w : World) : Prop where
  k : Below w0.heap.size w0 w
  x : w.heap[w0.heap.size]? = some (.cells #[.int .i64 N, .int .i64 D] 65 (0, 0))
  q : Rq (w0.heap.size + 1) w
  t : R4 (w0.heap.size + 1 + 1) w
theorem NB.keep {w0 w w' : World} {N D : Int} (h : NB w0 N D w) (hb : Below w.heap.size w w') : NB w0 N D w' := ⟨Below.thru h.k h.k.size hb, blk_keep h.x hb, h.q.keep hb h.q.lt, h.t.keep hb⟩
theorem NB.cells {w0 w : World} {N D : Int} (h : NB w0 N D w) : w.cell? ⟨w0.heap.size, 0, none⟩ = some (.int .i64 N) ∧ w.cell? ⟨w0.heap.size, 1, none⟩ = some (.int .i64 D) ∧ w.frozen? ⟨w0.heap.size, 1, none⟩ = false := by
  have h := h.x
  refine ⟨?_, ?_, ?_⟩ <;> simp [World.cell?, World.frozen?, h]
theorem NB.new (w : World) (N D : Int) : NB w N D (((w.alloc (.cells #[.int .i64 N, .int .i64 D] 65)).alloc (.cells #[.bool false, .int .u64 0, .pointer none, .int .u64 0, .pointer none] 33)).alloc (.cells #[.int .i64 0, .slice none 0 0, .int .i64 0, .slice none 0 0] 44)) :=
  ⟨bl3 _ _ _ _, blk_keep (blk_keep (Go.Deep.blk_alloc_new _ _) (bl1 _ _)) (bl1 _ _), (rq_new _ (by simp)).alloc _, r4_new _ (by simp)⟩
section
variable {ρ : Operand → Value} {o : Oper} {w : World} {t : Operand}
theorem rn_field65_0 {b : Nat} (ho : o.op = .fieldAddr 65 t 0) (he : ρ t = .pointer (some ⟨b, 0, none⟩)) : (execOp ρ o).run Tryz.prog w = .ok (.value (.pointer (some ⟨b, 0, none⟩))) w := by
  unfold execOp; rw [ho]; simp [go_sem, he]
theorem rn_field65_1 {b : Nat} (ho : o.op = .fieldAddr 65 t 1) (he : ρ t = .pointer (some ⟨b, 0, none⟩)) : (execOp ρ o).run Tryz.prog w = .ok (.value (.pointer (some ⟨b, 1, none⟩))) w := by
  unfold execOp; rw [ho]; simp [go_sem, he]
end
theorem cf27 : CF 27 := fun W args => by go_simp
structure NC (w0 : World) (N D : Int) (a : Rat) (T : Nat) (w : World) : Prop where
  b : NB w0 N D w
  h : Hq T a.num a.den w
theorem NC.keep {w0 w w' : World} {N D : Int} {a : Rat} {T : Nat} (h : NC w0 N D a T w) (hb : Below w.heap.size w w') : NC w0 N D a T w' := ⟨h.b.keep hb, h.h.keep hb⟩
def tab38 (B : Nat) (N D : Int) (a : Rat) (t : Nat) : Kd := [.q a.num a.den, kp B 0, ki N, kp B 1, ki D, krr a.num (a.den : Int)].getD (t - 18) .any
def D38 (t : Nat) : Bool := Nat.ble 18 t && Nat.ble t 23
theorem tab38_st {B : Nat} {N D : Int} {a : Rat} {U : Nat} {w w' : World} (hU : Odd U w) (hN : NoI w U) (hg : w.grownBy w' (some U)) (d : Nat) (v : Value) (h : kd (tab38 B N D a d) v w) : kd (tab38 B N D a d) v w' := by
  unfold tab38 at h ⊢
  match hd : d - 18 with
  | 0 => rw [hd] at h; exact Rr.store h hU hg
  | 1 => rw [hd] at h; exact h
  | 2 => rw [hd] at h; exact h
  | 3 => rw [hd] at h; exact h
  | 4 => rw [hd] at h; exact h
  | 5 => rw [hd] at h; exact RRv.store h hN hg
  | n + 6 => exact trivial
theorem Rq.noI {T : Nat} {w : World} (h : Rq T w) : NoI w T := by obtain ⟨_, _, _, _, _, h⟩ := h; exact ⟨_, _, _, h, by decide⟩
theorem Hq.st {T U : Nat} {n : Int} {d : Nat} {w w' : World} (h : Hq T n d w) (hU : Odd U w) (hg : w.grownBy w' (some U)) (hne : T ≠ U) : Hq T n d w' := by
  obtain ⟨s, x, y, p, q, h1, h2⟩ := h
  exact ⟨s, x, y, p, q, blk_other h1 hg hne, h2.store hU hg⟩
theorem Hq.new {w : World} {n : Int} {d : Nat} {s : Bool} {x y : Int} {p q : Option Addr} (h : Rr w (.agg #[.bool s, .int .u64 x, .pointer p, .int .u64 y, .pointer q]) n d) : Hq w.heap.size n d (w.alloc (.cells #[.bool s, .int .u64 x, .pointer p, .int .u64 y, .pointer q] 33)) :=
  ⟨s, x, y, p, q, Go.Deep.blk_alloc_new _ _, h.keep (bl1 _ _) (Nat.le_refl _)⟩
theorem NB.set {w0 w : World} {N D : Int} (h : NB w0 N D w) (D' : Int) : NB w0 N D' (w.setCell ⟨w0.heap.size, 1, none⟩ (.int .i64 D')) := by
  have hg := only_setCell (p := ⟨w0.heap.size, 1, none⟩) (World.grownBy.refl w (some w0.heap.size)) rfl (.int .i64 D')
  have hx := h.x
  exact ⟨h.k.setCell (Nat.le_refl _) _, by simp [World.setCell, Array.getElem?_modify, hx], h.q.other hg (by omega), h.t.other hg (by omega)⟩
def PBq (a : Rat) (w : World) (e : Ending) (w' : World) : Prop := Below w.heap.size w w' ∧ ∃ u v, e = .returned (.tuple #[u, v]) ∧ Rr w' u a.num a.den ∧ RRv w' v a.num (a.den : Int)
set_option maxHeartbeats 1600000 in
theorem both_r (N D D' : Int) (a : Rat) (w : World) (hN : I64 N) (hD : D' = if D = 0 then 1 else D) (hD' : I64 D') (ha : a = Rat.divInt N D') : Calls Tryz.prog 38 #[.agg #[.int .i64 N, .int .i64 D]] w (PBq a w) := by
  have HN := Lib.hid hN; have HD' := Lib.hid hD'
  have H0 : Hid (D' ≠ 0) := by show _ ≠ _; rw [hD]; split <;> omega
  have HRA := Lib.hid (fun W => ratioR N D' W HN.out HD'.out H0.out)
  have HRR := Lib.hid (fun W => rratio_any N D' W HN.out HD'.out H0.out)
  rw [← ha] at HRA HRR
  clear hN hD' ha
  have S0 := Lib.hid (NB.new w N D)
  obtain ⟨bs, hbs⟩ : ∃ bs, (D == 0) = bs := ⟨_, rfl⟩
  have HBS := Lib.hid hbs
  have HDD := Lib.hid hD
  clear hD
  go_enter Tryz.func38, Tryz.ntmps38
  go_upto_if 8 with fail
  go_cut [] (fun wc => NB w N D' wc)
  case first =>
    clear hbs
    have hD := HDD.out
    cases bs with
    | true =>
      have h : D = 0 := by simpa using HBS.out
      rw [if_pos h] at hD
      subst hD
      go_wp2
      go_meet
      case rel => exact NB.new w N 1
    | false =>
      have h : ¬ D = 0 := by simpa using HBS.out
      rw [if_neg h] at hD
      subst hD
      clear h HDD
      go_wp2
      go_meet
      case rel => exact S0.out
  case rest =>
    have S := Lib.hid hcut
    clear hcut S0
    obtain ⟨g1, g2, _⟩ := S.out.cells
    go_wp2_with fail
    refine (HRA.out _).mono ?_
    rintro e w1 ⟨hb1, v1, rfl, h1⟩
    obtain ⟨s1, x1, p1, y1, q1, rfl⟩ := h1.agg
    have C0 : NC w N D' a w1.heap.size (w1.alloc (.cells #[.bool s1, .int .u64 x1, .pointer p1, .int .u64 y1, .pointer q1] 33)) := ⟨(S.out.keep hb1).keep (bl1 _ _), Hq.new h1⟩
    have C0 := Lib.hid C0
    have z1 : w.heap.size + 3 ≤ w1.heap.size := by
      have := (S.out.keep hb1).t.lt
      omega
    clear h1 hb1 g1 g2 S
    go_upto_region 4 with fail
    go_cut [] (fun wx => Below w.heap.size w wx ∧ Hq (w.heap.size + 1) a.num a.den wx ∧ HR (w.heap.size + 1 + 1) a.num (a.den : Int) wx)
    case first =>
      rename_i J K' hJ hK
      refine wp_region_flt D38 (tab38 w.heap.size N D' a) 6 (fun s w' => NC w N D' a w1.heap.size w' ∧ (7 ≤ s → Hq (w.heap.size + 1) a.num a.den w') ∧ (8 ≤ s → HR (w.heap.size + 1 + 1) a.num (a.den : Int) w')) (by kernel_rfl) (by kernel_rfl) (by kernel_rfl) (by kernel_rfl) (by decide) (by kernel_rfl) (fun _ _ _ h hb => ⟨h.1.keep hb, fun h3 => (h.2.1 h3).keep hb, fun h3 => (h.2.2 h3).keep hb⟩) ⟨C0.out.keep (Below.refl _ _).drew, fun h => by omega, fun h => by omega⟩ ?_ ?_ ?_
      · refine .cons (fun s f w' hI hs => ?_) ?_
        · obtain ⟨s, x, y, p, q, h1, h2⟩ := hI.1.h
          exact ⟨wanted_none rfl, _, rfl, .val (rn_load61 rfl (fr_old rfl rfl) h1) ⟨Below.refl _ _, h2⟩⟩
        refine .cons (fun s f w' hI hs => ⟨wanted_none rfl, _, rfl, .val (rn_field65_0 rfl (fr_old rfl rfl)) ⟨Below.refl _ _, rfl⟩⟩) ?_
        refine .cons (fun s f w' hI hs => ⟨wanted_none rfl, _, rfl, .val (rn_loadI rfl ((fr_own rfl rfl).trans (hs 19 (by kernel_rfl))) hI.1.b.cells.1) ⟨Below.refl _ _, rfl⟩⟩) ?_
        refine .cons (fun s f w' hI hs => ⟨wanted_none rfl, _, rfl, .val (rn_field65_1 rfl (fr_old rfl rfl)) ⟨Below.refl _ _, rfl⟩⟩) ?_
        refine .cons (fun s f w' hI hs => ⟨wanted_none rfl, _, rfl, .val (rn_loadI rfl ((fr_own rfl rfl).trans (hs 21 (by kernel_rfl))) hI.1.b.cells.2.1) ⟨Below.refl _ _, rfl⟩⟩) ?_
        refine .cons (fun s f w' hI hs => ⟨wanted_none rfl, _, rfl, .call2 rfl cf27 rfl rfl rfl rfl (by rw [show f 20 = Value.int .i64 N from (hs 20 (by kernel_rfl)), show f 22 = Value.int .i64 D' from (hs 22 (by kernel_rfl))]; exact PRR.kd (HRR.out _))⟩) ?_
        exact .nil
      · refine .cons (fun f w' hI hs => ⟨wanted_none rfl, rfl, ?_⟩) ?_
        · have h18 : Rr w' (f 18) a.num a.den := hs 18 (by kernel_rfl)
          obtain ⟨s, x, p, y, q, e⟩ := h18.agg
          rw [e] at h18
          have hg := grown5 w' (w.heap.size + 1) (.bool s) (.int .u64 x) (.pointer p) (.int .u64 y) (.pointer q)
          have hz := hI.1.b.q
          exact .skip (rn_store61 rfl (fr_old rfl rfl) ((fr_own rfl rfl).trans e) hz) ⟨⟨⟨⟨below5 hI.1.b.k (by omega) _ _ _ _ _, blk_other hI.1.b.x hg (by omega), (Hq.stored hz h18).rq, hI.1.b.t.other hg (by omega)⟩, hI.1.h.st hz.odd hg (by omega)⟩, fun _ => Hq.stored hz h18, fun h => by omega⟩, tab38_st hz.odd hz.noI hg⟩
        refine .cons (fun f w' hI hs => ⟨wanted_none rfl, rfl, ?_⟩) .nil
        have h23 : RRv w' (f 23) a.num (a.den : Int) := hs 23 (by kernel_rfl)
        obtain ⟨s1, p1, l1, c1, s2, p2, l2, c2, e⟩ := h23.agg
        rw [e] at h23
        have hg := grown4r w' (w.heap.size + 1 + 1) (.int .i64 s1) (.slice p1 l1 c1) (.int .i64 s2) (.slice p2 l2 c2)
        have hz := hI.1.b.t
        exact .skip (rn_store44 rfl (fr_old rfl rfl) ((fr_own rfl rfl).trans e) hz) ⟨⟨⟨⟨below4r hI.1.b.k (by omega) _ _ _ _, blk_other hI.1.b.x hg (by omega), hI.1.b.q.other hg (by omega), (HR.stored hz h23).r4⟩, hI.1.h.st hz.odd hg (by omega)⟩, fun _ => (hI.2.1 (by decide)).st hz.odd hg (by omega), fun _ => HR.stored hz h23⟩, tab38_st hz.odd hz.noI hg⟩
      · intro f w' h _
        refine hK _ _ (Met.intro (hJ _ _ ?_))
        (repeat apply Exists.intro)
        refine ⟨?_, rfl⟩
        exact ⟨h.1.b.k, h.2.1 (by decide), h.2.2 (by decide)⟩
    case rest =>
      obtain ⟨kf, ⟨s1, x1, y1, p1, q1, h1, h2⟩, ⟨s3, p3, l3, c3, s4, p4, l4, c4, h3, h4⟩⟩ := hcut
      have g1 := cell_blk (i := 0) h1
      have g2 := cell_blk (i := 1) h1
      have g3 := cell_blk (i := 2) h1
      have g4 := cell_blk (i := 3) h1
      have g5 := cell_blk (i := 4) h1
      have g6 := cell_blk (i := 0) h3
      have g7 := cell_blk (i := 1) h3
      have g8 := cell_blk (i := 2) h3
      have g9 := cell_blk (i := 3) h3
      have KF := Lib.hid kf
      have V1 := Lib.hid h2
      have V2 := Lib.hid h4
      clear h1 h2 h3 h4 kf C0
      go_wp2
      exact bodyPost_ret (v := .tuple #[.agg #[.bool s1, .int .u64 x1, .pointer p1, .int .u64 y1, .pointer q1], .agg #[.int .i64 s3, .slice p3 l3 c3, .int .i64 s4, .slice p4 l4 c4]]) (by simp [results, Tryz.results38, go_sem, g1, g2, g3, g4, g5, g6, g7, g8, g9]) rfl ⟨KF.out, _, _, rfl, V1.out, V2.out⟩
theorem both_all (N D : Int) (hN : I64 N) (hD : I64 D) : ∃ a : Rat, Bd9 1 a ∧ ∀ w, Calls Tryz.prog 38 #[.agg #[.int .i64 N, .int .i64 D]] w (PBq a w) := by
  have h : I64 (if D = 0 then 1 else D) := by unfold I64 at *; split <;> omega
  refine ⟨Rat.divInt N (if D = 0 then 1 else D), bd9_div (by split <;> omega) (Wk.i64 hN) (Wk.i64 h), fun w => both_r N D _ _ w hN rfl h rfl⟩
end Go.Proofs.YtjjomjjgoceklaaGreat
