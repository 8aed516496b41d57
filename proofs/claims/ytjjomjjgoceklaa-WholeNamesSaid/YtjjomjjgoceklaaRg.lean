import Derived.Test.YtjjomjjgoceklaaRf
import Derived.Deep.Cut
namespace Go.Proofs.Ytjjomjjgoceklaa
open Go.RowKit

set_option maxRecDepth 100000 in
set_option maxHeartbeats 1600000 in
theorem zaddr_lt (va vb : Value) (y z : Int) (w : World) (hb : RZ w va z) (ha : RZ w vb y) (hle' : z.natAbs < y.natAbs) (sy : Sr y) (sz : Sr z) : Calls Try.prog 15 #[va, vb] w (PRZ (y + z) w) := by
  obtain ⟨i0, hi, hz0, hz1, hz2⟩ := info_parts Try.info3
  have hle : z.natAbs ≤ y.natAbs := by omega
  obtain ⟨a, pa, ca, rfl, la, hca, hma, da, na, ra, hga⟩ := ha.opened
  obtain ⟨b, pb, cb, rfl, lb, hcb, hmb, db, nb, rb, hgb⟩ := hb.opened
  have la := sy.len na ra
  have lb := sz.len nb rb
  have hll : b.length ≤ a.length := by
    rcases Nat.lt_or_ge a.length b.length with h | h
    · have := rv_len_lt da nb h; omega
    · exact h
  obtain ⟨sa, sb, sc⟩ := sum_abs y z hle
  have SA := Lib.hid sa; have SB := Lib.hid sb; have SC := Lib.hid sc
  have HA := Lib.hid ha; have HB := Lib.hid hb
  have NA := Lib.hid na; have NB := Lib.hid nb
  have RA := Lib.hid ra; have RB := Lib.hid rb
  have HGA := Lib.hid hga; have HGB := Lib.hid hgb
  have DA := Lib.hid da; have DB := Lib.hid db
  have hcmp : cmpN z.natAbs y.natAbs = -1 := cmpN_lt hle'
  have HCM := Lib.hid hcmp
  clear ha hb na nb hga hgb da db ra rb sa sb sc hle hle' hcmp
  go_enter Try.func15, Try.ntmps15
  go_wp2_with fail
  refine (larger_any _ _ z y _ (HB.out.keep (bl3 _ _ _ _) (Nat.le_refl _)) (HA.out.keep (bl3 _ _ _ _) (Nat.le_refl _))).mono ?_
  rintro e w0 ⟨hb1, he⟩
  rw [HCM.out] at he
  subst he
  have k0 := Below.thru (bl3 w (.cells #[.int .i64 z.sign, .slice pb b.length cb] 32) (.cells #[.int .i64 y.sign, .slice pa a.length ca] 32) (.cells #[.int .i64 0, .slice none 0 0] 32)) (by simp; omega) hb1
  have z0 : w.heap.size + 1 + 1 + 1 ≤ w0.heap.size := Nat.le_trans (by simp) hb1.size
  have U0 : Bz w.heap.size z.sign pb b.length cb w0 := (((bz_new w _ _ _ _ rfl).alloc _).alloc _).keep hb1 (by simp; omega)
  have U1 : Bz (w.heap.size + 1) y.sign pa a.length ca w0 := ((bz_new (w.alloc _) _ _ _ _ (by simp)).alloc _).keep hb1 (by simp)
  have U2 : Bz (w.heap.size + 1 + 1) 0 none 0 0 w0 := (bz_new ((w.alloc _).alloc _) _ _ _ _ (by simp)).keep hb1 (by simp)
  clear hb1
  obtain ⟨q1, q2, q3, q4⟩ := U0.cells
  obtain ⟨q5, q6, q7, q8⟩ := U1.cells
  go_upto_region 3 with fail
  have grA := grown2 w0 w.heap.size 0 1 (.int .i64 y.sign) (.slice pa a.length ca)
  have V0 := U0.set y.sign pa a.length ca
  have V1 := U1.other grA (by omega)
  have V2 := U2.other grA (by omega)
  have kA := (k0.setCell (p := ⟨w.heap.size, 0, none⟩) (Nat.le_refl _) (.int .i64 y.sign)).setCell (p := ⟨w.heap.size, 1, none⟩) (Nat.le_refl _) (.slice pa a.length ca)
  have zA := Nat.le_trans z0 grA.size
  generalize (w0.setCell ⟨w.heap.size, 0, none⟩ (.int .i64 y.sign)).setCell ⟨w.heap.size, 1, none⟩ (.slice pa a.length ca) = wA at *
  have grB := grown2 wA (w.heap.size + 1) 0 1 (.int .i64 z.sign) (.slice pb b.length cb)
  have X1 := V1.set z.sign pb b.length cb
  have X0 := V0.other grB (by omega)
  have X2 := V2.other grB (by omega)
  have k1 := (kA.setCell (p := ⟨w.heap.size + 1, 0, none⟩) (by simp) (.int .i64 z.sign)).setCell (p := ⟨w.heap.size + 1, 1, none⟩) (by simp) (.slice pb b.length cb)
  have z1 := Nat.le_trans zA grB.size
  generalize (wA.setCell ⟨w.heap.size + 1, 0, none⟩ (.int .i64 z.sign)).setCell ⟨w.heap.size + 1, 1, none⟩ (.slice pb b.length cb) = w1 at *
  clear grA grB V0 V1 V2 kA zA U0 U1 U2 k0 z0 q1 q2 q3 q4 q5 q6 q7 q8
  obtain ⟨q1, q2, q3, q4⟩ := X0.cells
  have K1 := Lib.hid k1
  rcases Nat.eq_zero_or_pos a.length with h0 | h0
  · obtain rfl : a = [] := List.length_eq_zero_iff.1 h0
    obtain rfl : b = [] := List.length_eq_zero_iff.1 (by omega)
    have HY0 : Hid (y = 0) := by have := RA.out; simp only [rv] at this; show _ = _; omega
    have HZ0 : Hid (z = 0) := by have := RB.out; simp only [rv] at this; show _ = _; omega
    rcases HA.out.shape with ⟨rfl, rfl⟩ | ⟨ad, rfl⟩
    · go_wp2_with (at_builtin; refine wpList_append_own_none rfl _ _ 30 rfl (w.heap.size + 1 + 1 + 1) 3 i0 1 Try.underlying30 hi _ _ _ rfl (World.ownsRow_nil _ _ _ _) rfl ?_)
      clear q1 q2 q3 q4
      obtain ⟨q5, q6, _, _⟩ := X1.cells
      go_wp2
      go_loopw [6] (fun i wr => i = .int .i64 0 ∧ wr = w1) (fun _ _ => 0)
      case atStart => exact ⟨rfl, rfl⟩
      case round =>
        obtain ⟨rfl, rfl⟩ := hrel
        obtain ⟨q1, q2, q3, q4⟩ := X0.cells
        go_wp2_with fail
        refine (made_any _ _ [] _ ⟨by simp, .inl ⟨rfl, rfl⟩⟩ (fun i => by simp) (by simp [iv]) (by simp)).mono ?_
        rintro e w3 ⟨hb3, v3, rfl, h3⟩
        rw [show (iv []).toNat = (y + z).natAbs by rw [HY0.out, HZ0.out]; rfl] at h3
        have HZ := Lib.hid (h3.toZ (fun h => absurd (by rw [HY0.out, HZ0.out]; rfl) h))
        clear h3
        have R3 := X2.keep hb3 (by omega)
        obtain ⟨m1, m2, m3, m4⟩ := R3.cells
        have kf := k1.trans (hb3.mono k1.size)
        obtain ⟨pz, lz, cz, rfl⟩ := HZ.out.agg
        obtain ⟨g1, g2⟩ := two_cells m1 m2 (.int .i64 (y + z).sign) (.slice pz lz cz)
        have HF := Lib.hid (HZ.out.store R3.noI (grown2 w3 (w.heap.size + 1 + 1) 0 1 (.int .i64 (y + z).sign) (.slice pz lz cz)))
        clear hb3 q1 q2 q3 q4 q5 q6
        go_wp2
        exact bodyPost_ret (v := .agg #[.int .i64 (y + z).sign, .slice pz lz cz]) (by simp [results, Try.results15, go_sem, g1, g2]) rfl ⟨(kf.setCell (by simp; omega) _).setCell (by simp; omega) _, _, rfl, HF.out⟩
    · go_wp2_with (at_builtin; refine wpList_append_own _ rfl _ _ 30 rfl (w.heap.size + 1 + 1 + 1) 3 i0 (.int .i64 0) 1 8 Try.underlying30 hi hz0 hz1 hz2 rfl (by decide) _ _ _ rfl (World.ownsRow_nil _ _ _ _) ad 0 ca [] rfl rfl (by simp) (by simp) (by unfold maxLen; omega) (by omega) z1 ?_; intro v' w2 hown hgrow hn)
      have hv' : v' = .slice none 0 0 := by first | exact hn.2 rfl | exact hn.2 ⟨rfl, trivial⟩ | exact hn.2 ⟨rfl, rfl⟩
      subst hv'
      have hgr : w1.grownBy w2 none := hgrow
      clear hgrow hown hn
      have Y0 := X0.grown hgr
      have Y1 := X1.grown hgr
      have Y2 := X2.grown hgr
      have hgs := hgr.size
      have k2 := k1.grown hgr k1.size (fun j e => by cases e)
      clear k1 X0 X1 X2
      clear q1 q2 q3 q4
      obtain ⟨q5, q6, _, _⟩ := Y1.cells
      go_wp2
      go_loopw [6] (fun i wr => i = .int .i64 0 ∧ wr = w2) (fun _ _ => 0)
      case atStart => exact ⟨rfl, rfl⟩
      case round =>
        obtain ⟨rfl, rfl⟩ := hrel
        obtain ⟨q1, q2, q3, q4⟩ := Y0.cells
        go_wp2_with fail
        refine (made_any _ _ [] _ ⟨by simp, .inl ⟨rfl, rfl⟩⟩ (fun i => by simp) (by simp [iv]) (by simp)).mono ?_
        rintro e w3 ⟨hb3, v3, rfl, h3⟩
        rw [show (iv []).toNat = (y + z).natAbs by rw [HY0.out, HZ0.out]; rfl] at h3
        have HZ := Lib.hid (h3.toZ (fun h => absurd (by rw [HY0.out, HZ0.out]; rfl) h))
        clear h3
        have R3 := Y2.keep hb3 (by omega)
        obtain ⟨m1, m2, m3, m4⟩ := R3.cells
        have kf := k2.trans (hb3.mono k2.size)
        obtain ⟨pz, lz, cz, rfl⟩ := HZ.out.agg
        obtain ⟨g1, g2⟩ := two_cells m1 m2 (.int .i64 (y + z).sign) (.slice pz lz cz)
        have HF := Lib.hid (HZ.out.store R3.noI (grown2 w3 (w.heap.size + 1 + 1) 0 1 (.int .i64 (y + z).sign) (.slice pz lz cz)))
        clear hb3 q1 q2 q3 q4 q5 q6
        go_wp2
        exact bodyPost_ret (v := .agg #[.int .i64 (y + z).sign, .slice pz lz cz]) (by simp [results, Try.results15, go_sem, g1, g2]) rfl ⟨(kf.setCell (by simp; omega) _).setCell (by simp; omega) _, _, rfl, HF.out⟩
  · obtain ⟨ba, oa, rfl, hba, _⟩ := HGA.out 0 h0
    have HCA := Lib.hid (fun (i : Nat) (h : i < a.length) => by
      obtain ⟨b', o', he, hb', hc'⟩ := HGA.out i h
      cases he
      exact (K1.out.cell (p := ⟨ba, oa + i, none⟩) hb').trans hc')
    go_wp2_with (at_builtin; refine wpList_append_own _ rfl _ _ 30 rfl (w.heap.size + 1 + 1 + 1) 3 i0 (.int .i64 0) 1 8 Try.underlying30 hi hz0 hz1 hz2 rfl (by decide) _ _ _ rfl (World.ownsRow_nil _ _ _ _) ⟨ba, oa, none⟩ a.length ca (dv a) rfl (by simp [dv]) (dv_cells HCA.out) (dv_one a) (by unfold maxLen; omega) (by omega) z1 ?_; intro v' w2 hown hgrow _)
    have hgr : w1.grownBy w2 none := hgrow
    clear hgrow
    simp only [Nat.zero_add, List.nil_append] at hown
    obtain ⟨g, cap, rfl⟩ : ∃ g cap, v' = .slice (some ⟨g, 0, none⟩) a.length cap := by
      obtain ⟨n', hn'⟩ : ∃ n', a.length = n' + 1 := ⟨a.length - 1, by omega⟩
      rw [hn'] at hown ⊢
      exact ownsRow_succ' hown
    rw [dv_vi] at hown
    have HO := Lib.hid hown
    have Y0 := X0.grown hgr
    have Y1 := X1.grown hgr
    have Y2 := X2.grown hgr
    have hgs := hgr.size
    have k2 := k1.grown hgr k1.size (fun j e => by cases e)
    have K2 := Lib.hid k2
    obtain ⟨s1, hs1⟩ : ∃ s1, y.sign * z.sign = s1 := ⟨_, rfl⟩
    have hs2 : -1 ≤ s1 ∧ s1 ≤ 1 := by have := sgn_mul y z; omega
    have HS1 := Lib.hid hs1
    have hy1 : -1 ≤ y.sign ∧ y.sign ≤ 1 := by rcases Int.lt_trichotomy y 0 with h | h | h <;> simp [Int.sign_eq_neg_one_of_neg, Int.sign_eq_one_of_pos, h]
    have hz1' : -1 ≤ z.sign ∧ z.sign ≤ 1 := by rcases Int.lt_trichotomy z 0 with h | h | h <;> simp [Int.sign_eq_neg_one_of_neg, Int.sign_eq_one_of_pos, h]
    generalize hsy : y.sign = ys at *
    generalize hsz : z.sign = zs at *
    have HSY := Lib.hid hsy
    have HSZ := Lib.hid hsz
    clear hs1 hsy hsz hown q1 q2 q3 q4 X0 X1 X2 k1 HCA
    obtain ⟨q5, q6, _, _⟩ := Y1.cells
    go_loopw [6] (fun i wr => ∃ (k : Nat) (xs : List Int), k ≤ b.length ∧ i = .int .i64 k ∧ Below (w.heap.size + 1 + 1 + 1) w2 wr ∧ wr.ownsRow (w.heap.size + 1 + 1 + 1) 3 1 (.slice (some ⟨g, 0, none⟩) a.length cap) a.length (vi xs) ∧ Hid (Gk a b s1 k xs)) (fun i _ => b.length - (intOf i).toNat)
    case atStart => exact ⟨0, _, Nat.zero_le _, rfl, Below.refl _ _, HO.out, Gk.zero DA.out⟩
    case round =>
      obtain ⟨k, xs, hk, rfl, hbel, hown, HG⟩ := hrel
      have R0 := Y0.keep hbel (by omega)
      have R1 := Y1.keep hbel (by omega)
      have R2 := Y2.keep hbel (by omega)
      have kr := K2.out.trans (hbel.mono (by omega))
      obtain ⟨t1, t2, t3, t4⟩ := R0.cells
      obtain ⟨t5, t6, t7, t8⟩ := R1.cells
      obtain ⟨t9, t10, t11, t12⟩ := R2.cells
      have hbsz := hbel.size
      by_cases hlt : k < b.length
      · obtain ⟨bb, ob, rfl, hbb, hcb'⟩ := HGB.out k hlt
        have c1 := (kr.cell (p := ⟨bb, ob + k, none⟩) hbb).trans hcb'
        have c2 : wr.cell? ⟨g, k, none⟩ = some (.int .i64 (xs.getD k 0)) := by
          have hl := HG.out.1
          rw [hown.cellAt k (by omega)]
          simp [vi, List.getD_eq_getElem?_getD, show k < xs.length by omega]
        have c3 := hown.frozenAt k
        obtain ⟨t, ht⟩ : ∃ t, s1 * ((b.getD k 0 : Nat) : Int) = t := ⟨_, rfl⟩
        have hb9 := DB.out.getD k
        have ht1 : -9999 ≤ t ∧ t ≤ 9999 := by
          have := sgn_mul y z
          have h1 := HS1.out
          have h2 := HSY.out
          have h3 := HSZ.out
          rw [h2, h3, h1] at this
          rcases this with h | h | h <;> rw [h] at ht <;> omega
        have hx9 := HG.out.2.2.2 k
        have ST := Lib.hid (HG.out.step DA.out (by omega) ht ht1.1 ht1.2)
        have hst := (hown.stored k (.int .i64 (xs.getD k 0 + t))).1
        rw [show (vi xs).set k (.int .i64 (xs.getD k 0 + t)) = vi (xs.set k (xs.getD k 0 + t)) by simp [vi]] at hst
        have HST := Lib.hid hst
        have hgg := (hown.lt g rfl).1
        have HB2 := Lib.hid (hbel.setCell (p := ⟨g, k, none⟩) hgg (.int .i64 (xs.getD k 0 + t)))
        generalize xs.getD k 0 = x at *
        have e1 : IntKind.i64.wrap (ys * zs) = s1 := by rw [HS1.out]; exact IntWalk.i64_in _ (by omega)
        have e2 : IntKind.i64.wrap (s1 * ((b.getD k 0 : Nat) : Int)) = t := by rw [ht]; exact IntWalk.i64_in _ (by omega)
        have e3 : IntKind.i64.wrap (x + t) = x + t := IntWalk.i64_in _ (by omega)
        generalize b.getD k 0 = bk at *
        have hk1 : (k : Int) < (a.length : Int) := by omega
        have hk2 : (k : Int) < (b.length : Int) := by omega
        have hk3 : k < a.length := by omega
        clear ht hst hcb'
        go_wp2
        go_still_tail 19, (by kernel_rfl)
        go_wp2
        go_roundw
        case rel => exact ⟨k + 1, xs.set k (x + t), by omega, by go_num, HB2.out.drew, HST.out.drew, ST.out⟩
        case measure => simp [intOf]; omega
      · obtain rfl : k = b.length := by omega
        have HSL := Lib.hid (SlI.of_ownI hown (by have := HG.out.1; omega))
        have HV : Hid (iv xs = (y.natAbs : Int) + ys * zs * z.natAbs) := by
          have h := HG.out.2.1
          rw [List.take_length, RA.out, RB.out] at h
          show _ = _
          rw [h, HS1.out]
        have HL : Hid (xs.length ≤ 2000) := by have := HG.out.1; show _ ≤ _; omega
        clear hown
        go_wp2_with fail
        refine (made_any _ _ _ _ HSL.out (fun i => by have := HG.out.2.2.2 i; omega) (by rw [HV.out]; exact SB.out) HL.out).mono ?_
        rintro e w3 ⟨hb3, v3, rfl, h3⟩
        rw [HV.out, ← SA.out] at h3
        have HZ := Lib.hid (h3.toZ SC.out)
        clear h3
        have R3 := R2.keep hb3 (by omega)
        obtain ⟨m1, m2, m3, m4⟩ := R3.cells
        have kf := kr.trans (hb3.mono (by omega))
        obtain ⟨pz, lz, cz, rfl⟩ := HZ.out.agg
        obtain ⟨g1, g2⟩ := two_cells m1 m2 (.int .i64 (y + z).sign) (.slice pz lz cz)
        have HF := Lib.hid (HZ.out.store R3.noI (grown2 w3 (w.heap.size + 1 + 1) 0 1 (.int .i64 (y + z).sign) (.slice pz lz cz)))
        clear hb3 t1 t2 t3 t4 t5 t6 t7 t8 t9 t10 t11 t12
        go_wp2
        exact bodyPost_ret (v := .agg #[.int .i64 (y + z).sign, .slice pz lz cz]) (by simp [results, Try.results15, go_sem, g1, g2]) rfl ⟨(kf.setCell (by simp; omega) _).setCell (by simp; omega) _, _, rfl, HF.out⟩
theorem Sr.le {a b : Int} (h : Sr b) (hle : a.natAbs ≤ b.natAbs) : Sr a := by
  obtain ⟨k, hk, h1⟩ := h
  exact ⟨k, hk, by omega⟩
/-- ZAdd of the reference -/
theorem zaddr_any (va vb : Value) (y z : Int) (w : World) (ha : RZ w va y) (hb : RZ w vb z) (sy : Sr y) (sz : Sr z) : Calls Try.prog 15 #[va, vb] w (PRZ (y + z) w) := by
  rcases Nat.lt_or_ge y.natAbs z.natAbs with h | h
  · rw [Int.add_comm]; exact zaddr_lt va vb z y w ha hb h sz sy
  · exact zaddr_ge va vb y z w ha hb h sy sz
end Go.Proofs.Ytjjomjjgoceklaa
