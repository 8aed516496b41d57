import Derived.Test.YtjjomjjgoceklaaGreatKcb
import Derived.Test.YtjjomjjgoceklaaGreatKcd
namespace Go.Proofs.YtjjomjjgoceklaaGreat
set_option maxRecDepth 100000
open Go.RowKit

/-- the digits of v lie in no block below B -/
def Fr (B : Nat) (v : Value) : Prop := ∀ (s : Value) (b o l c : Nat), v = .agg #[s, .slice (some ⟨b, o, none⟩) l c] → B ≤ b
theorem Fr.le {A B : Nat} {v : Value} (h : Fr B v) (hA : A ≤ B) : Fr A v := fun s b o l c e => Nat.le_trans hA (h s b o l c e)
theorem Fr.nil (B : Nat) (s : Value) (l c : Nat) : Fr B (.agg #[s, .slice Option.none l c]) := fun s b o l c e => by simp at e
theorem Fr.mk {B g o : Nat} (s : Value) (l c : Nat) (h : B ≤ g) : Fr B (.agg #[s, .slice (some ⟨g, o, none⟩) l c]) := fun s b o l c e => by simp at e; omega
def PRGf (s : Int) (n : Nat) (w : World) (e : Ending) (w' : World) : Prop := Below w.heap.size w w' ∧ ∃ v, e = .returned v ∧ RG w' v s n ∧ Fr w.heap.size v
def PRZf (z : Int) (w : World) (e : Ending) (w' : World) : Prop := Below w.heap.size w w' ∧ ∃ v, e = .returned v ∧ RZ w' v z ∧ Fr w.heap.size v

set_option maxRecDepth 100000 in
set_option maxHeartbeats 1600000 in
theorem made_fr (s : Int) (vg : Value) (xs : List Int) (w : World) (h : SlI w vg xs) (hx : ∀ i, -100000000000000 ≤ xs.getD i 0 ∧ xs.getD i 0 ≤ 100000000000000) (h0 : 0 ≤ iv xs) (hl : xs.length ≤ 2000) :
    Calls Tryz.prog 94 #[.int .i64 s, vg] w (PRGf s (iv xs).toNat w) := by
  obtain ⟨p, cg, rfl, hcg, hmg, hrd⟩ := h.opened w.heap.size (Nat.le_refl _)
  have HR := Lib.hid hrd
  have HX := Lib.hid hx
  have H0 := Lib.hid h0
  clear hrd hx h0 h
  obtain ⟨i0, hi, hz0, hz1, hz2⟩ := info_parts Tryz.info3
  go_enter Tryz.func94, Tryz.ntmps94
  go_wp2
  go_loopw [5, 6, 7] (fun o c i wr => ∃ (k : Nat) (cc : Int) (out : List Nat), i = .int .i64 k ∧ c = .int .i64 cc ∧ Hid (Cb xs.length k cc) ∧ Hid (out.length = k) ∧ D4 out ∧ wr.ownsRow (w.heap.size + 1) 3 1 o k (dv out) ∧ Below (w.heap.size + 1) (w.alloc (.cells #[.int .i64 0, .slice none 0 0] 41)) wr ∧ Hid ((rv out : Int) + 10000 ^ k * cc = iv (xs.take k)))
    (fun _ c i _ => (xs.length - (intOf i).toNat) * 1000000000000 + (intOf c).natAbs)
  case atStart => exact ⟨0, 0, [], rfl, rfl, .inl ⟨Nat.zero_le _, by omega, by omega⟩, rfl, D4.nil, World.ownsRow_nil _ _ _ _, Below.refl _ _, by show _ = _; simp [rv, iv]⟩
  case round =>
    obtain ⟨k, cc, out, rfl, rfl, HB, HL, hd, hown, hbel, HV⟩ := hrel
    by_cases hlt : k < xs.length
    · obtain ⟨b, o, rfl, hbB, hbw, hcell⟩ := HR.out k hlt
      have c1 : wr.cell? ⟨b, o + k, none⟩ = some (.int .i64 (xs.getD k 0)) := (hbel.cell (p := ⟨b, o + k, none⟩) (show b < w.heap.size + 1 by omega)).trans ((World.cell?_alloc_old _ _ _ (Nat.ne_of_lt hbw)).trans hcell)
      have hgx := HX.out k
      have HG : Hid (∃ g, g = xs.getD k 0) := ⟨_, rfl⟩
      obtain ⟨hc1, hc2⟩ : -100000000000 ≤ cc ∧ cc ≤ 100000000000 := by have := HB.out; unfold Cb at this; omega
      obtain ⟨hg1, hg2⟩ := hgx
      generalize hgd : xs.getD k 0 = g at *
      have HGD := Lib.hid hgd
      clear hcell hgd HG
      obtain ⟨x, hxe⟩ : ∃ x, cc + g = x := ⟨_, rfl⟩
      have hx1 : -200000000000000 ≤ x := by omega
      have hx2 : x ≤ 200000000000000 := by omega
      obtain ⟨q, r, hqr, hr1⟩ : ∃ (q : Int) (r : Nat), x = 10000 * q + r ∧ r < 10000 := ⟨x / 10000, (x % 10000).toNat, by omega, by omega⟩
      have HQ := Lib.hid hqr
      have hq1 : -100000000000 ≤ q := by omega
      have hq2 : q ≤ 100000000000 := by omega
      have hbsz := hbel.size
      simp only [World.size_alloc] at hbsz
      have hown0 := hown.alloc (.cells #[.int .i64 (r : Int)] 3)
      have CN := Lib.hid (HB.out.step (q := q) (r := r) hlt (by omega) hg1 hg2 hr1)
      have ST := Lib.hid (made_step (r := r) (c' := q) HL.out HV.out (by rw [HGD.out]; omega))
      by_cases hx0 : 0 ≤ x
      · have e1 : x / 10000 = q := by omega
        have e2 : x % 10000 = r := by omega
        clear hqr
        go_wp2_with (at_builtin; refine wpList_append_own _ rfl _ _ 39 rfl (w.heap.size + 1) 3 i0 (.int .i64 0) 1 8 Tryz.underlying39 hi hz0 hz1 hz2 rfl (by decide) _ _ _ rfl hown0 ⟨wr.heap.size, 0, none⟩ 1 1 [.int .i64 (r : Int)] rfl rfl (cell_one_new _ _ _) (by simp [Value.oneCell']) (by unfold maxLen; omega) (by omega) (by simp; omega) ?_; intro v' w1 hown' hgrow _)
        have hown2 := hown'
        rw [← dv_snoc] at hown2
        have HO := Lib.hid hown2
        have HBL := Lib.hid ((hbel.alloc (show w.heap.size + 1 ≤ wr.heap.size by omega) (.cells #[.int .i64 (r : Int)] 3)).grown hgrow (by simp; omega) (fun j e => (hown0.lt j e).1))
        go_roundw
        case rel => exact ⟨k + 1, q, out ++ [r], by go_num, rfl, CN.out, by show _ = _; simp [HL.out], hd.snoc hr1, HO.out, HBL.out, ST.out⟩
        case measure => simp [intOf]; omega
      · have hx0' : x < 0 := by omega
        by_cases hr0 : r = 0
        · obtain ⟨e1, e2⟩ := td_neg0 q (by omega)
          rw [show 10000 * q = x by omega] at e1 e2
          have e3 : x.tmod 10000 = (r : Int) := by rw [e2, hr0]; rfl
          clear e2 hr0 hqr
          go_wp2_with (at_builtin; refine wpList_append_own _ rfl _ _ 39 rfl (w.heap.size + 1) 3 i0 (.int .i64 0) 1 8 Tryz.underlying39 hi hz0 hz1 hz2 rfl (by decide) _ _ _ rfl hown0 ⟨wr.heap.size, 0, none⟩ 1 1 [.int .i64 (r : Int)] rfl rfl (cell_one_new _ _ _) (by simp [Value.oneCell']) (by unfold maxLen; omega) (by omega) (by simp; omega) ?_; intro v' w1 hown' hgrow _)
          have hown2 := hown'
          rw [← dv_snoc] at hown2
          have HO := Lib.hid hown2
          have HBL := Lib.hid ((hbel.alloc (show w.heap.size + 1 ≤ wr.heap.size by omega) (.cells #[.int .i64 (r : Int)] 3)).grown hgrow (by simp; omega) (fun j e => (hown0.lt j e).1))
          go_roundw
          case rel => exact ⟨k + 1, q, out ++ [r], by go_num, rfl, CN.out, by show _ = _; simp [HL.out], hd.snoc hr1, HO.out, HBL.out, ST.out⟩
          case measure => simp [intOf]; omega
        · obtain ⟨e1, e2⟩ := td_neg q r (by omega) (by omega) hr1
          rw [← hqr] at e1 e2
          have hr2 : (0 : Int) ≤ (r : Int) := by omega
          have hr3 : (r : Int) < 10000 := by omega
          have HR0 := Lib.hid hr0
          clear hqr hr0
          go_wp2_with (at_builtin; refine wpList_append_own _ rfl _ _ 39 rfl (w.heap.size + 1) 3 i0 (.int .i64 0) 1 8 Tryz.underlying39 hi hz0 hz1 hz2 rfl (by decide) _ _ _ rfl hown0 ⟨wr.heap.size, 0, none⟩ 1 1 [.int .i64 (r : Int)] rfl rfl (cell_one_new _ _ _) (by simp [Value.oneCell']) (by unfold maxLen; omega) (by omega) (by simp; omega) ?_; intro v' w1 hown' hgrow _)
          have hown2 := hown'
          rw [← dv_snoc] at hown2
          have HO := Lib.hid hown2
          have HBL := Lib.hid ((hbel.alloc (show w.heap.size + 1 ≤ wr.heap.size by omega) (.cells #[.int .i64 (r : Int)] 3)).grown hgrow (by simp; omega) (fun j e => (hown0.lt j e).1))
          go_roundw
          case rel => exact ⟨k + 1, q, out ++ [r], by go_num, rfl, CN.out, by show _ = _; simp [HL.out], hd.snoc hr1, HO.out, HBL.out, ST.out⟩
          case measure => simp [intOf]; omega
    · have hge : xs.length ≤ k := by omega
      have hc0 := made_pos HL.out hd HV.out hge H0.out
      obtain ⟨hc2, hk3⟩ : cc ≤ 100000000000 ∧ k ≤ xs.length + 3 := by have := HB.out; unfold Cb at this; omega
      have hbsz := hbel.size
      simp only [World.size_alloc] at hbsz
      by_cases hz : cc = 0
      · subst hz
        have HE : Hid ((rv out : Int) = iv xs) := by
          have := HV.out
          rw [iv_take_ge _ _ hge] at this
          show _ = _
          simpa using this
        have r0 : wr.cell? ⟨w.heap.size, 0, none⟩ = some (.int .i64 0) := by rw [hbel.cell (p := ⟨w.heap.size, 0, none⟩) (Nat.lt_succ_self _)]; simp [go_sem]
        have r1 : wr.cell? ⟨w.heap.size, 1, none⟩ = some (.slice none 0 0) := by rw [hbel.cell (p := ⟨w.heap.size, 1, none⟩) (Nat.lt_succ_self _)]; simp [go_sem]
        have f0 : wr.frozen? ⟨w.heap.size, 0, none⟩ = false := by rw [hbel.frozen (p := ⟨w.heap.size, 0, none⟩) (Nat.lt_succ_self _)]; simp [go_sem]
        have f1 : wr.frozen? ⟨w.heap.size, 1, none⟩ = false := by rw [hbel.frozen (p := ⟨w.heap.size, 1, none⟩) (Nat.lt_succ_self _)]; simp [go_sem]
        have HB2 := Lib.hid ((bl1 w (.cells #[.int .i64 0, .slice none 0 0] 41)).trans (hbel.mono (Nat.le_succ _)))
        clear HB HV
        go_wp2
        go_loopw [5] (fun o wr' => wr' = wr ∧ ∃ (k2 : Nat) (l : List Nat), wr.ownsRow (w.heap.size + 1) 3 1 o k2 (dv l) ∧ D4 l ∧ k2 ≤ 2003 ∧ Hid (norm l = norm out)) (fun o _ => lenOf o)
        case atStart => exact ⟨rfl, k, out, hown, hd, by omega, rfl⟩
        case round =>
          obtain ⟨rfl, k2, l, hown2, hd2, hk2, HN⟩ := hrel
          rcases List.eq_nil_or_concat l with rfl | ⟨l', x, hl'⟩
          · have hv : (iv xs).toNat = 0 := by
              have h1 : norm out = [] := HN.out.symm
              have h2 := rv_norm out
              rw [h1] at h2
              have h3 := HE.out
              simp only [rv] at h2
              omega
            have HV0 := Lib.hid hv
            clear hv
            obtain ⟨g1, g2⟩ := two_cells r0 r1 (.int .i64 0) (.slice none 0 0)
            obtain ⟨h1, ⟨rfl, rfl⟩ | ⟨g, cap, cur, rfl, h2, h3, h4, h5, h6, h7⟩⟩ := hown2
            · clear h1
              go_wp2
              exact bodyPost_ret (v := .agg #[.int .i64 0, .slice none 0 0]) (by simp [results, Tryz.results94, go_sem, g1, g2]) rfl ⟨(HB2.out.setCell (Nat.le_refl _) _).setCell (Nat.le_refl _) _, _, rfl, rg_zero _ _ HV0.out, Fr.nil _ _ _ _⟩
            · obtain rfl : k2 = 0 := by simp [dv] at h1; omega
              clear h1 h3 h4 h5 h6 h7
              go_wp2
              exact bodyPost_ret (v := .agg #[.int .i64 0, .slice none 0 0]) (by simp [results, Tryz.results94, go_sem, g1, g2]) rfl ⟨(HB2.out.setCell (Nat.le_refl _) _).setCell (Nat.le_refl _) _, _, rfl, rg_zero _ _ HV0.out, Fr.nil _ _ _ _⟩
          · rw [List.concat_eq_append] at hl'
            subst hl'
            have hlen : l'.length + 1 = k2 := by have := hown2.1; simpa [dv] using this
            obtain ⟨g, cap, rfl, hbg, hcell, hown3, hcap⟩ := own_trim hown2
            have HO2 := Lib.hid hown2
            have HO3 := Lib.hid hown3
            have hll : l'.length ≤ 2002 := by omega
            clear hown2 hown3
            by_cases hx0 : x = 0
            · subst hx0
              have HN2 : Hid (norm l' = norm out) := by have := HN.out; rw [norm_snoc_zero] at this; exact this
              have HD2 : Hid (D4 l') := fun y hy => hd2 y (List.mem_append_left _ hy)
              clear hlen
              go_wp2
              go_round
              case rel => exact ⟨trivial, l'.length, l', HO3.out, HD2.out, by omega, HN2.out⟩
              case measure => simp [lenOf]
            · have hne : ((x : Int) == 0) = false := by rw [beq_eq_false_iff_ne]; omega
              have hneq : Nrm (l' ++ [x]) := by simp [Nrm, hx0]
              have hnn : norm (l' ++ [x]) = l' ++ [x] := norm_snoc _ _ hx0
              have hv : rv (l' ++ [x]) = (iv xs).toNat := by
                have h1 := HN.out
                rw [hnn] at h1
                have h2 := rv_norm out
                rw [← h1] at h2
                have h3 := HE.out
                omega
              have HNN := Lib.hid hneq
              have HVV := Lib.hid hv
              have HX0 := Lib.hid hx0
              have HLL := Lib.hid hlen
              clear hneq hnn hv hx0 hlen
              obtain ⟨g1, g2⟩ := two_cells r0 r1 (.int .i64 s) (.slice (some ⟨g, 0, none⟩) (l'.length + 1) cap)
              have HK := Lib.hid (HO2.out.kept (grown2 wr w.heap.size 0 1 (.int .i64 s) (.slice (some ⟨g, 0, none⟩) (l'.length + 1) cap)) (.inr (by simp [Value.ownBlock]; omega)))
              go_wp2
              exact bodyPost_ret (v := .agg #[.int .i64 s, .slice (some ⟨g, 0, none⟩) (l'.length + 1) cap]) (by simp [results, Tryz.results94, go_sem, g1, g2]) rfl ⟨(HB2.out.setCell (Nat.le_refl _) _).setCell (Nat.le_refl _) _, _, rfl, rg_mk HK.out (by simp; omega) hd2 HNN.out (by simp) HVV.out, Fr.mk _ _ _ (by omega)⟩
      · have hne : (cc != 0) = true := by simpa using hz
        have hne2 : (cc == 0) = false := by simpa using hz
        obtain ⟨q, r, hqr, hr1⟩ : ∃ (q : Int) (r : Nat), cc = 10000 * q + r ∧ r < 10000 := ⟨cc / 10000, (cc % 10000).toNat, by omega, by omega⟩
        obtain ⟨CN, q1, q2⟩ := HB.out.past hge hc0 hz hqr hr1
        have CN := Lib.hid CN
        have ST := Lib.hid (made_step (r := r) (c' := q) HL.out HV.out (by rw [List.getD_eq_getElem?_getD, List.getElem?_eq_none (by omega)]; simp; omega))
        have e1 : cc / 10000 = q := by omega
        have e2 : cc % 10000 = r := by omega
        have hown0 := hown.alloc (.cells #[.int .i64 (r : Int)] 3)
        have HZ := Lib.hid hz
        clear hqr hz
        go_wp2_with (at_builtin; refine wpList_append_own _ rfl _ _ 39 rfl (w.heap.size + 1) 3 i0 (.int .i64 0) 1 8 Tryz.underlying39 hi hz0 hz1 hz2 rfl (by decide) _ _ _ rfl hown0 ⟨wr.heap.size, 0, none⟩ 1 1 [.int .i64 (r : Int)] rfl rfl (cell_one_new _ _ _) (by simp [Value.oneCell']) (by unfold maxLen; omega) (by omega) (by simp; omega) ?_; intro v' w1 hown' hgrow _)
        have hown2 := hown'
        rw [← dv_snoc] at hown2
        have HO := Lib.hid hown2
        have HBL := Lib.hid ((hbel.alloc (show w.heap.size + 1 ≤ wr.heap.size by omega) (.cells #[.int .i64 (r : Int)] 3)).grown hgrow (by simp; omega) (fun j e => (hown0.lt j e).1))
        go_roundw
        case rel => exact ⟨k + 1, q, out ++ [r], by go_num, rfl, CN.out, by show _ = _; simp [HL.out], hd.snoc hr1, HO.out, HBL.out, ST.out⟩
        case measure => simp [intOf]; omega

set_option maxRecDepth 100000 in
set_option maxHeartbeats 1600000 in
theorem zaddr_gef (va vb : Value) (y z : Int) (w : World) (ha : RZ w va y) (hb : RZ w vb z) (hle : z.natAbs ≤ y.natAbs) (sy : Sr y) (sz : Sr z) : Calls Tryz.prog 98 #[va, vb] w (PRZf (y + z) w) := by
  obtain ⟨i0, hi, hz0, hz1, hz2⟩ := info_parts Tryz.info3
  obtain ⟨a, pa, ca, rfl, la, hca, hma, da, na, ra, hga⟩ := ha.opened
  obtain ⟨b, pb, cb, rfl, lb, hcb, hmb, db, nb, rb, hgb⟩ := hb.opened
  have la := sy.len na ra
  have lb := sz.len nb rb
  have hll : b.length ≤ a.length := by
    rcases Nat.lt_or_ge a.length b.length with h | h
    · have := rv_len_lt da nb h; omega
    · exact h
  obtain ⟨sa, sb, sc⟩ := sum_abs y z hle
  have SA := Lib.hid sa; have SB := Lib.hid sb; have SC := Lib.hid sc
  have HA := Lib.hid ha; have HB := Lib.hid hb
  have NA := Lib.hid na; have NB := Lib.hid nb
  have RA := Lib.hid ra; have RB := Lib.hid rb
  have HGA := Lib.hid hga; have HGB := Lib.hid hgb
  have DA := Lib.hid da; have DB := Lib.hid db
  have hcmp : 0 ≤ cmpN y.natAbs z.natAbs := by unfold cmpN; split <;> (try split) <;> omega
  clear ha hb na nb hga hgb da db ra rb sa sb sc hle
  go_enter Tryz.func98, Tryz.ntmps98
  go_wp2_with fail
  refine (larger_any _ _ y z _ (HA.out.keep (bl3 _ _ _ _) (Nat.le_refl _)) (HB.out.keep (bl3 _ _ _ _) (Nat.le_refl _))).mono ?_
  rintro e w1 ⟨hb1, rfl⟩
  generalize cmpN y.natAbs z.natAbs = cm at *
  have k1 := Below.thru (bl3 w (.cells #[.int .i64 y.sign, .slice pa a.length ca] 41) (.cells #[.int .i64 z.sign, .slice pb b.length cb] 41) (.cells #[.int .i64 0, .slice none 0 0] 41)) (by simp; omega) hb1
  have z1 : w.heap.size + 1 + 1 + 1 ≤ w1.heap.size := Nat.le_trans (by simp) hb1.size
  have X0 : Bz w.heap.size y.sign pa a.length ca w1 := (((bz_new w _ _ _ _ rfl).alloc _).alloc _).keep hb1 (by simp; omega)
  have X1 : Bz (w.heap.size + 1) z.sign pb b.length cb w1 := ((bz_new (w.alloc _) _ _ _ _ (by simp)).alloc _).keep hb1 (by simp)
  have X2 : Bz (w.heap.size + 1 + 1) 0 none 0 0 w1 := (bz_new ((w.alloc _).alloc _) _ _ _ _ (by simp)).keep hb1 (by simp)
  clear hb1
  obtain ⟨q1, q2, q3, q4⟩ := X0.cells
  have K1 := Lib.hid k1
  rcases Nat.eq_zero_or_pos a.length with h0 | h0
  · obtain rfl : a = [] := List.length_eq_zero_iff.1 h0
    obtain rfl : b = [] := List.length_eq_zero_iff.1 (by omega)
    have HY0 : Hid (y = 0) := by have := RA.out; simp only [rv] at this; show _ = _; omega
    have HZ0 : Hid (z = 0) := by have := RB.out; simp only [rv] at this; show _ = _; omega
    rcases HA.out.shape with ⟨rfl, rfl⟩ | ⟨ad, rfl⟩
    · go_wp2_with (at_builtin; refine wpList_append_own_none rfl _ _ 39 rfl (w.heap.size + 1 + 1 + 1) 3 i0 1 Tryz.underlying39 hi _ _ _ rfl (World.ownsRow_nil _ _ _ _) rfl ?_)
      clear q1 q2 q3 q4
      obtain ⟨q5, q6, _, _⟩ := X1.cells
      go_wp2
      go_loopw [6] (fun i wr => i = .int .i64 0 ∧ wr = w1) (fun _ _ => 0)
      case atStart => exact ⟨rfl, rfl⟩
      case round =>
        obtain ⟨rfl, rfl⟩ := hrel
        obtain ⟨q1, q2, q3, q4⟩ := X0.cells
        go_wp2_with fail
        refine (made_fr _ _ [] _ ⟨by simp, .inl ⟨rfl, rfl⟩⟩ (fun i => by simp) (by simp [iv]) (by simp)).mono ?_
        rintro e w3 ⟨hb3, v3, rfl, h3, f3⟩
        rw [show (iv []).toNat = (y + z).natAbs by rw [HY0.out, HZ0.out]; rfl] at h3
        have FRH := Lib.hid (f3.le (A := w.heap.size) (by first | exact kr.size | exact k1.size | omega))
        clear f3
        have HZ := Lib.hid (h3.toZ (fun h => absurd (by rw [HY0.out, HZ0.out]; rfl) h))
        clear h3
        have R3 := X2.keep hb3 (by omega)
        obtain ⟨m1, m2, m3, m4⟩ := R3.cells
        have kf := k1.trans (hb3.mono k1.size)
        obtain ⟨pz, lz, cz, rfl⟩ := HZ.out.agg
        obtain ⟨g1, g2⟩ := two_cells m1 m2 (.int .i64 (y + z).sign) (.slice pz lz cz)
        have HF := Lib.hid (HZ.out.store R3.noI (grown2 w3 (w.heap.size + 1 + 1) 0 1 (.int .i64 (y + z).sign) (.slice pz lz cz)))
        clear hb3 q1 q2 q3 q4 q5 q6
        go_wp2
        exact bodyPost_ret (v := .agg #[.int .i64 (y + z).sign, .slice pz lz cz]) (by simp [results, Tryz.results98, go_sem, g1, g2]) rfl ⟨(kf.setCell (by simp; omega) _).setCell (by simp; omega) _, _, rfl, HF.out, FRH.out⟩
    · go_wp2_with (at_builtin; refine wpList_append_own _ rfl _ _ 39 rfl (w.heap.size + 1 + 1 + 1) 3 i0 (.int .i64 0) 1 8 Tryz.underlying39 hi hz0 hz1 hz2 rfl (by decide) _ _ _ rfl (World.ownsRow_nil _ _ _ _) ad 0 ca [] rfl rfl (by simp) (by simp) (by unfold maxLen; omega) (by omega) z1 ?_; intro v' w2 hown hgrow hn)
      have hv' : v' = .slice none 0 0 := by first | exact hn.2 rfl | exact hn.2 ⟨rfl, trivial⟩ | exact hn.2 ⟨rfl, rfl⟩
      subst hv'
      have hgr : w1.grownBy w2 none := hgrow
      clear hgrow hown hn
      have Y0 := X0.grown hgr
      have Y1 := X1.grown hgr
      have Y2 := X2.grown hgr
      have hgs := hgr.size
      have k2 := k1.grown hgr k1.size (fun j e => by cases e)
      clear k1 X0 X1 X2
      clear q1 q2 q3 q4
      obtain ⟨q5, q6, _, _⟩ := Y1.cells
      go_wp2
      go_loopw [6] (fun i wr => i = .int .i64 0 ∧ wr = w2) (fun _ _ => 0)
      case atStart => exact ⟨rfl, rfl⟩
      case round =>
        obtain ⟨rfl, rfl⟩ := hrel
        obtain ⟨q1, q2, q3, q4⟩ := Y0.cells
        go_wp2_with fail
        refine (made_fr _ _ [] _ ⟨by simp, .inl ⟨rfl, rfl⟩⟩ (fun i => by simp) (by simp [iv]) (by simp)).mono ?_
        rintro e w3 ⟨hb3, v3, rfl, h3, f3⟩
        rw [show (iv []).toNat = (y + z).natAbs by rw [HY0.out, HZ0.out]; rfl] at h3
        have FRH := Lib.hid (f3.le (A := w.heap.size) (by first | exact kr.size | exact k1.size | omega))
        clear f3
        have HZ := Lib.hid (h3.toZ (fun h => absurd (by rw [HY0.out, HZ0.out]; rfl) h))
        clear h3
        have R3 := Y2.keep hb3 (by omega)
        obtain ⟨m1, m2, m3, m4⟩ := R3.cells
        have kf := k2.trans (hb3.mono k2.size)
        obtain ⟨pz, lz, cz, rfl⟩ := HZ.out.agg
        obtain ⟨g1, g2⟩ := two_cells m1 m2 (.int .i64 (y + z).sign) (.slice pz lz cz)
        have HF := Lib.hid (HZ.out.store R3.noI (grown2 w3 (w.heap.size + 1 + 1) 0 1 (.int .i64 (y + z).sign) (.slice pz lz cz)))
        clear hb3 q1 q2 q3 q4 q5 q6
        go_wp2
        exact bodyPost_ret (v := .agg #[.int .i64 (y + z).sign, .slice pz lz cz]) (by simp [results, Tryz.results98, go_sem, g1, g2]) rfl ⟨(kf.setCell (by simp; omega) _).setCell (by simp; omega) _, _, rfl, HF.out, FRH.out⟩
  · obtain ⟨ba, oa, rfl, hba, _⟩ := HGA.out 0 h0
    have HCA := Lib.hid (fun (i : Nat) (h : i < a.length) => by
      obtain ⟨b', o', he, hb', hc'⟩ := HGA.out i h
      cases he
      exact (K1.out.cell (p := ⟨ba, oa + i, none⟩) hb').trans hc')
    go_wp2_with (at_builtin; refine wpList_append_own _ rfl _ _ 39 rfl (w.heap.size + 1 + 1 + 1) 3 i0 (.int .i64 0) 1 8 Tryz.underlying39 hi hz0 hz1 hz2 rfl (by decide) _ _ _ rfl (World.ownsRow_nil _ _ _ _) ⟨ba, oa, none⟩ a.length ca (dv a) rfl (by simp [dv]) (dv_cells HCA.out) (dv_one a) (by unfold maxLen; omega) (by omega) z1 ?_; intro v' w2 hown hgrow _)
    have hgr : w1.grownBy w2 none := hgrow
    clear hgrow
    simp only [Nat.zero_add, List.nil_append] at hown
    obtain ⟨g, cap, rfl⟩ : ∃ g cap, v' = .slice (some ⟨g, 0, none⟩) a.length cap := by
      obtain ⟨n', hn'⟩ : ∃ n', a.length = n' + 1 := ⟨a.length - 1, by omega⟩
      rw [hn'] at hown ⊢
      exact ownsRow_succ' hown
    rw [dv_vi] at hown
    have HO := Lib.hid hown
    have Y0 := X0.grown hgr
    have Y1 := X1.grown hgr
    have Y2 := X2.grown hgr
    have hgs := hgr.size
    have k2 := k1.grown hgr k1.size (fun j e => by cases e)
    have K2 := Lib.hid k2
    obtain ⟨s1, hs1⟩ : ∃ s1, y.sign * z.sign = s1 := ⟨_, rfl⟩
    have hs2 : -1 ≤ s1 ∧ s1 ≤ 1 := by have := sgn_mul y z; omega
    have HS1 := Lib.hid hs1
    have hy1 : -1 ≤ y.sign ∧ y.sign ≤ 1 := by rcases Int.lt_trichotomy y 0 with h | h | h <;> simp [Int.sign_eq_neg_one_of_neg, Int.sign_eq_one_of_pos, h]
    have hz1' : -1 ≤ z.sign ∧ z.sign ≤ 1 := by rcases Int.lt_trichotomy z 0 with h | h | h <;> simp [Int.sign_eq_neg_one_of_neg, Int.sign_eq_one_of_pos, h]
    generalize hsy : y.sign = ys at *
    generalize hsz : z.sign = zs at *
    have HSY := Lib.hid hsy
    have HSZ := Lib.hid hsz
    clear hs1 hsy hsz hown q1 q2 q3 q4 X0 X1 X2 k1 HCA
    obtain ⟨q5, q6, _, _⟩ := Y1.cells
    go_loopw [6] (fun i wr => ∃ (k : Nat) (xs : List Int), k ≤ b.length ∧ i = .int .i64 k ∧ Below (w.heap.size + 1 + 1 + 1) w2 wr ∧ wr.ownsRow (w.heap.size + 1 + 1 + 1) 3 1 (.slice (some ⟨g, 0, none⟩) a.length cap) a.length (vi xs) ∧ Hid (Gk a b s1 k xs)) (fun i _ => b.length - (intOf i).toNat)
    case atStart => exact ⟨0, _, Nat.zero_le _, rfl, Below.refl _ _, HO.out, Gk.zero DA.out⟩
    case round =>
      obtain ⟨k, xs, hk, rfl, hbel, hown, HG⟩ := hrel
      have R0 := Y0.keep hbel (by omega)
      have R1 := Y1.keep hbel (by omega)
      have R2 := Y2.keep hbel (by omega)
      have kr := K2.out.trans (hbel.mono (by omega))
      obtain ⟨t1, t2, t3, t4⟩ := R0.cells
      obtain ⟨t5, t6, t7, t8⟩ := R1.cells
      obtain ⟨t9, t10, t11, t12⟩ := R2.cells
      have hbsz := hbel.size
      by_cases hlt : k < b.length
      · obtain ⟨bb, ob, rfl, hbb, hcb'⟩ := HGB.out k hlt
        have c1 := (kr.cell (p := ⟨bb, ob + k, none⟩) hbb).trans hcb'
        have c2 : wr.cell? ⟨g, k, none⟩ = some (.int .i64 (xs.getD k 0)) := by
          have hl := HG.out.1
          rw [hown.cellAt k (by omega)]
          simp [vi, List.getD_eq_getElem?_getD, show k < xs.length by omega]
        have c3 := hown.frozenAt k
        obtain ⟨t, ht⟩ : ∃ t, s1 * ((b.getD k 0 : Nat) : Int) = t := ⟨_, rfl⟩
        have hb9 := DB.out.getD k
        have ht1 : -9999 ≤ t ∧ t ≤ 9999 := by
          have := sgn_mul y z
          have h1 := HS1.out
          have h2 := HSY.out
          have h3 := HSZ.out
          rw [h2, h3, h1] at this
          rcases this with h | h | h <;> rw [h] at ht <;> omega
        have hx9 := HG.out.2.2.2 k
        have ST := Lib.hid (HG.out.step DA.out (by omega) ht ht1.1 ht1.2)
        have hst := (hown.stored k (.int .i64 (xs.getD k 0 + t))).1
        rw [show (vi xs).set k (.int .i64 (xs.getD k 0 + t)) = vi (xs.set k (xs.getD k 0 + t)) by simp [vi]] at hst
        have HST := Lib.hid hst
        have hgg := (hown.lt g rfl).1
        have HB2 := Lib.hid (hbel.setCell (p := ⟨g, k, none⟩) hgg (.int .i64 (xs.getD k 0 + t)))
        generalize xs.getD k 0 = x at *
        have e1 : IntKind.i64.wrap (ys * zs) = s1 := by rw [HS1.out]; exact IntWalk.i64_in _ (by omega)
        have e2 : IntKind.i64.wrap (s1 * ((b.getD k 0 : Nat) : Int)) = t := by rw [ht]; exact IntWalk.i64_in _ (by omega)
        have e3 : IntKind.i64.wrap (x + t) = x + t := IntWalk.i64_in _ (by omega)
        generalize b.getD k 0 = bk at *
        have hk1 : (k : Int) < (a.length : Int) := by omega
        have hk2 : (k : Int) < (b.length : Int) := by omega
        have hk3 : k < a.length := by omega
        clear ht hst hcb'
        go_wp2
        go_still_tail 19, (by kernel_rfl)
        go_wp2
        go_roundw
        case rel => exact ⟨k + 1, xs.set k (x + t), by omega, by go_num, HB2.out.drew, HST.out.drew, ST.out⟩
        case measure => simp [intOf]; omega
      · obtain rfl : k = b.length := by omega
        have HSL := Lib.hid (SlI.of_ownI hown (by have := HG.out.1; omega))
        have HV : Hid (iv xs = (y.natAbs : Int) + ys * zs * z.natAbs) := by
          have h := HG.out.2.1
          rw [List.take_length, RA.out, RB.out] at h
          show _ = _
          rw [h, HS1.out]
        have HL : Hid (xs.length ≤ 2000) := by have := HG.out.1; show _ ≤ _; omega
        clear hown
        go_wp2_with fail
        refine (made_fr _ _ _ _ HSL.out (fun i => by have := HG.out.2.2.2 i; omega) (by rw [HV.out]; exact SB.out) HL.out).mono ?_
        rintro e w3 ⟨hb3, v3, rfl, h3, f3⟩
        rw [HV.out, ← SA.out] at h3
        have FRH := Lib.hid (f3.le (A := w.heap.size) (by first | exact kr.size | exact k1.size | omega))
        clear f3
        have HZ := Lib.hid (h3.toZ SC.out)
        clear h3
        have R3 := R2.keep hb3 (by omega)
        obtain ⟨m1, m2, m3, m4⟩ := R3.cells
        have kf := kr.trans (hb3.mono (by omega))
        obtain ⟨pz, lz, cz, rfl⟩ := HZ.out.agg
        obtain ⟨g1, g2⟩ := two_cells m1 m2 (.int .i64 (y + z).sign) (.slice pz lz cz)
        have HF := Lib.hid (HZ.out.store R3.noI (grown2 w3 (w.heap.size + 1 + 1) 0 1 (.int .i64 (y + z).sign) (.slice pz lz cz)))
        clear hb3 t1 t2 t3 t4 t5 t6 t7 t8 t9 t10 t11 t12
        go_wp2
        exact bodyPost_ret (v := .agg #[.int .i64 (y + z).sign, .slice pz lz cz]) (by simp [results, Tryz.results98, go_sem, g1, g2]) rfl ⟨(kf.setCell (by simp; omega) _).setCell (by simp; omega) _, _, rfl, HF.out, FRH.out⟩

set_option maxRecDepth 100000 in
set_option maxHeartbeats 1600000 in
theorem zaddr_ltf (va vb : Value) (y z : Int) (w : World) (hb : RZ w va z) (ha : RZ w vb y) (hle' : z.natAbs < y.natAbs) (sy : Sr y) (sz : Sr z) : Calls Tryz.prog 98 #[va, vb] w (PRZf (y + z) w) := by
  obtain ⟨i0, hi, hz0, hz1, hz2⟩ := info_parts Tryz.info3
  have hle : z.natAbs ≤ y.natAbs := by omega
  obtain ⟨a, pa, ca, rfl, la, hca, hma, da, na, ra, hga⟩ := ha.opened
  obtain ⟨b, pb, cb, rfl, lb, hcb, hmb, db, nb, rb, hgb⟩ := hb.opened
  have la := sy.len na ra
  have lb := sz.len nb rb
  have hll : b.length ≤ a.length := by
    rcases Nat.lt_or_ge a.length b.length with h | h
    · have := rv_len_lt da nb h; omega
    · exact h
  obtain ⟨sa, sb, sc⟩ := sum_abs y z hle
  have SA := Lib.hid sa; have SB := Lib.hid sb; have SC := Lib.hid sc
  have HA := Lib.hid ha; have HB := Lib.hid hb
  have NA := Lib.hid na; have NB := Lib.hid nb
  have RA := Lib.hid ra; have RB := Lib.hid rb
  have HGA := Lib.hid hga; have HGB := Lib.hid hgb
  have DA := Lib.hid da; have DB := Lib.hid db
  have hcmp : cmpN z.natAbs y.natAbs = -1 := cmpN_lt hle'
  have HCM := Lib.hid hcmp
  clear ha hb na nb hga hgb da db ra rb sa sb sc hle hle' hcmp
  go_enter Tryz.func98, Tryz.ntmps98
  go_wp2_with fail
  refine (larger_any _ _ z y _ (HB.out.keep (bl3 _ _ _ _) (Nat.le_refl _)) (HA.out.keep (bl3 _ _ _ _) (Nat.le_refl _))).mono ?_
  rintro e w0 ⟨hb1, he⟩
  rw [HCM.out] at he
  subst he
  have k0 := Below.thru (bl3 w (.cells #[.int .i64 z.sign, .slice pb b.length cb] 41) (.cells #[.int .i64 y.sign, .slice pa a.length ca] 41) (.cells #[.int .i64 0, .slice none 0 0] 41)) (by simp; omega) hb1
  have z0 : w.heap.size + 1 + 1 + 1 ≤ w0.heap.size := Nat.le_trans (by simp) hb1.size
  have U0 : Bz w.heap.size z.sign pb b.length cb w0 := (((bz_new w _ _ _ _ rfl).alloc _).alloc _).keep hb1 (by simp; omega)
  have U1 : Bz (w.heap.size + 1) y.sign pa a.length ca w0 := ((bz_new (w.alloc _) _ _ _ _ (by simp)).alloc _).keep hb1 (by simp)
  have U2 : Bz (w.heap.size + 1 + 1) 0 none 0 0 w0 := (bz_new ((w.alloc _).alloc _) _ _ _ _ (by simp)).keep hb1 (by simp)
  clear hb1
  obtain ⟨q1, q2, q3, q4⟩ := U0.cells
  obtain ⟨q5, q6, q7, q8⟩ := U1.cells
  go_upto_region 3 with fail
  have grA := grown2 w0 w.heap.size 0 1 (.int .i64 y.sign) (.slice pa a.length ca)
  have V0 := U0.set y.sign pa a.length ca
  have V1 := U1.other grA (by omega)
  have V2 := U2.other grA (by omega)
  have kA := (k0.setCell (p := ⟨w.heap.size, 0, none⟩) (Nat.le_refl _) (.int .i64 y.sign)).setCell (p := ⟨w.heap.size, 1, none⟩) (Nat.le_refl _) (.slice pa a.length ca)
  have zA := Nat.le_trans z0 grA.size
  generalize (w0.setCell ⟨w.heap.size, 0, none⟩ (.int .i64 y.sign)).setCell ⟨w.heap.size, 1, none⟩ (.slice pa a.length ca) = wA at *
  have grB := grown2 wA (w.heap.size + 1) 0 1 (.int .i64 z.sign) (.slice pb b.length cb)
  have X1 := V1.set z.sign pb b.length cb
  have X0 := V0.other grB (by omega)
  have X2 := V2.other grB (by omega)
  have k1 := (kA.setCell (p := ⟨w.heap.size + 1, 0, none⟩) (by simp) (.int .i64 z.sign)).setCell (p := ⟨w.heap.size + 1, 1, none⟩) (by simp) (.slice pb b.length cb)
  have z1 := Nat.le_trans zA grB.size
  generalize (wA.setCell ⟨w.heap.size + 1, 0, none⟩ (.int .i64 z.sign)).setCell ⟨w.heap.size + 1, 1, none⟩ (.slice pb b.length cb) = w1 at *
  clear grA grB V0 V1 V2 kA zA U0 U1 U2 k0 z0 q1 q2 q3 q4 q5 q6 q7 q8
  obtain ⟨q1, q2, q3, q4⟩ := X0.cells
  have K1 := Lib.hid k1
  rcases Nat.eq_zero_or_pos a.length with h0 | h0
  · obtain rfl : a = [] := List.length_eq_zero_iff.1 h0
    obtain rfl : b = [] := List.length_eq_zero_iff.1 (by omega)
    have HY0 : Hid (y = 0) := by have := RA.out; simp only [rv] at this; show _ = _; omega
    have HZ0 : Hid (z = 0) := by have := RB.out; simp only [rv] at this; show _ = _; omega
    rcases HA.out.shape with ⟨rfl, rfl⟩ | ⟨ad, rfl⟩
    · go_wp2_with (at_builtin; refine wpList_append_own_none rfl _ _ 39 rfl (w.heap.size + 1 + 1 + 1) 3 i0 1 Tryz.underlying39 hi _ _ _ rfl (World.ownsRow_nil _ _ _ _) rfl ?_)
      clear q1 q2 q3 q4
      obtain ⟨q5, q6, _, _⟩ := X1.cells
      go_wp2
      go_loopw [6] (fun i wr => i = .int .i64 0 ∧ wr = w1) (fun _ _ => 0)
      case atStart => exact ⟨rfl, rfl⟩
      case round =>
        obtain ⟨rfl, rfl⟩ := hrel
        obtain ⟨q1, q2, q3, q4⟩ := X0.cells
        go_wp2_with fail
        refine (made_fr _ _ [] _ ⟨by simp, .inl ⟨rfl, rfl⟩⟩ (fun i => by simp) (by simp [iv]) (by simp)).mono ?_
        rintro e w3 ⟨hb3, v3, rfl, h3, f3⟩
        rw [show (iv []).toNat = (y + z).natAbs by rw [HY0.out, HZ0.out]; rfl] at h3
        have FRH := Lib.hid (f3.le (A := w.heap.size) (by first | exact kr.size | exact k1.size | omega))
        clear f3
        have HZ := Lib.hid (h3.toZ (fun h => absurd (by rw [HY0.out, HZ0.out]; rfl) h))
        clear h3
        have R3 := X2.keep hb3 (by omega)
        obtain ⟨m1, m2, m3, m4⟩ := R3.cells
        have kf := k1.trans (hb3.mono k1.size)
        obtain ⟨pz, lz, cz, rfl⟩ := HZ.out.agg
        obtain ⟨g1, g2⟩ := two_cells m1 m2 (.int .i64 (y + z).sign) (.slice pz lz cz)
        have HF := Lib.hid (HZ.out.store R3.noI (grown2 w3 (w.heap.size + 1 + 1) 0 1 (.int .i64 (y + z).sign) (.slice pz lz cz)))
        clear hb3 q1 q2 q3 q4 q5 q6
        go_wp2
        exact bodyPost_ret (v := .agg #[.int .i64 (y + z).sign, .slice pz lz cz]) (by simp [results, Tryz.results98, go_sem, g1, g2]) rfl ⟨(kf.setCell (by simp; omega) _).setCell (by simp; omega) _, _, rfl, HF.out, FRH.out⟩
    · go_wp2_with (at_builtin; refine wpList_append_own _ rfl _ _ 39 rfl (w.heap.size + 1 + 1 + 1) 3 i0 (.int .i64 0) 1 8 Tryz.underlying39 hi hz0 hz1 hz2 rfl (by decide) _ _ _ rfl (World.ownsRow_nil _ _ _ _) ad 0 ca [] rfl rfl (by simp) (by simp) (by unfold maxLen; omega) (by omega) z1 ?_; intro v' w2 hown hgrow hn)
      have hv' : v' = .slice none 0 0 := by first | exact hn.2 rfl | exact hn.2 ⟨rfl, trivial⟩ | exact hn.2 ⟨rfl, rfl⟩
      subst hv'
      have hgr : w1.grownBy w2 none := hgrow
      clear hgrow hown hn
      have Y0 := X0.grown hgr
      have Y1 := X1.grown hgr
      have Y2 := X2.grown hgr
      have hgs := hgr.size
      have k2 := k1.grown hgr k1.size (fun j e => by cases e)
      clear k1 X0 X1 X2
      clear q1 q2 q3 q4
      obtain ⟨q5, q6, _, _⟩ := Y1.cells
      go_wp2
      go_loopw [6] (fun i wr => i = .int .i64 0 ∧ wr = w2) (fun _ _ => 0)
      case atStart => exact ⟨rfl, rfl⟩
      case round =>
        obtain ⟨rfl, rfl⟩ := hrel
        obtain ⟨q1, q2, q3, q4⟩ := Y0.cells
        go_wp2_with fail
        refine (made_fr _ _ [] _ ⟨by simp, .inl ⟨rfl, rfl⟩⟩ (fun i => by simp) (by simp [iv]) (by simp)).mono ?_
        rintro e w3 ⟨hb3, v3, rfl, h3, f3⟩
        rw [show (iv []).toNat = (y + z).natAbs by rw [HY0.out, HZ0.out]; rfl] at h3
        have FRH := Lib.hid (f3.le (A := w.heap.size) (by first | exact kr.size | exact k1.size | omega))
        clear f3
        have HZ := Lib.hid (h3.toZ (fun h => absurd (by rw [HY0.out, HZ0.out]; rfl) h))
        clear h3
        have R3 := Y2.keep hb3 (by omega)
        obtain ⟨m1, m2, m3, m4⟩ := R3.cells
        have kf := k2.trans (hb3.mono k2.size)
        obtain ⟨pz, lz, cz, rfl⟩ := HZ.out.agg
        obtain ⟨g1, g2⟩ := two_cells m1 m2 (.int .i64 (y + z).sign) (.slice pz lz cz)
        have HF := Lib.hid (HZ.out.store R3.noI (grown2 w3 (w.heap.size + 1 + 1) 0 1 (.int .i64 (y + z).sign) (.slice pz lz cz)))
        clear hb3 q1 q2 q3 q4 q5 q6
        go_wp2
        exact bodyPost_ret (v := .agg #[.int .i64 (y + z).sign, .slice pz lz cz]) (by simp [results, Tryz.results98, go_sem, g1, g2]) rfl ⟨(kf.setCell (by simp; omega) _).setCell (by simp; omega) _, _, rfl, HF.out, FRH.out⟩
  · obtain ⟨ba, oa, rfl, hba, _⟩ := HGA.out 0 h0
    have HCA := Lib.hid (fun (i : Nat) (h : i < a.length) => by
      obtain ⟨b', o', he, hb', hc'⟩ := HGA.out i h
      cases he
      exact (K1.out.cell (p := ⟨ba, oa + i, none⟩) hb').trans hc')
    go_wp2_with (at_builtin; refine wpList_append_own _ rfl _ _ 39 rfl (w.heap.size + 1 + 1 + 1) 3 i0 (.int .i64 0) 1 8 Tryz.underlying39 hi hz0 hz1 hz2 rfl (by decide) _ _ _ rfl (World.ownsRow_nil _ _ _ _) ⟨ba, oa, none⟩ a.length ca (dv a) rfl (by simp [dv]) (dv_cells HCA.out) (dv_one a) (by unfold maxLen; omega) (by omega) z1 ?_; intro v' w2 hown hgrow _)
    have hgr : w1.grownBy w2 none := hgrow
    clear hgrow
    simp only [Nat.zero_add, List.nil_append] at hown
    obtain ⟨g, cap, rfl⟩ : ∃ g cap, v' = .slice (some ⟨g, 0, none⟩) a.length cap := by
      obtain ⟨n', hn'⟩ : ∃ n', a.length = n' + 1 := ⟨a.length - 1, by omega⟩
      rw [hn'] at hown ⊢
      exact ownsRow_succ' hown
    rw [dv_vi] at hown
    have HO := Lib.hid hown
    have Y0 := X0.grown hgr
    have Y1 := X1.grown hgr
    have Y2 := X2.grown hgr
    have hgs := hgr.size
    have k2 := k1.grown hgr k1.size (fun j e => by cases e)
    have K2 := Lib.hid k2
    obtain ⟨s1, hs1⟩ : ∃ s1, y.sign * z.sign = s1 := ⟨_, rfl⟩
    have hs2 : -1 ≤ s1 ∧ s1 ≤ 1 := by have := sgn_mul y z; omega
    have HS1 := Lib.hid hs1
    have hy1 : -1 ≤ y.sign ∧ y.sign ≤ 1 := by rcases Int.lt_trichotomy y 0 with h | h | h <;> simp [Int.sign_eq_neg_one_of_neg, Int.sign_eq_one_of_pos, h]
    have hz1' : -1 ≤ z.sign ∧ z.sign ≤ 1 := by rcases Int.lt_trichotomy z 0 with h | h | h <;> simp [Int.sign_eq_neg_one_of_neg, Int.sign_eq_one_of_pos, h]
    generalize hsy : y.sign = ys at *
    generalize hsz : z.sign = zs at *
    have HSY := Lib.hid hsy
    have HSZ := Lib.hid hsz
    clear hs1 hsy hsz hown q1 q2 q3 q4 X0 X1 X2 k1 HCA
    obtain ⟨q5, q6, _, _⟩ := Y1.cells
    go_loopw [6] (fun i wr => ∃ (k : Nat) (xs : List Int), k ≤ b.length ∧ i = .int .i64 k ∧ Below (w.heap.size + 1 + 1 + 1) w2 wr ∧ wr.ownsRow (w.heap.size + 1 + 1 + 1) 3 1 (.slice (some ⟨g, 0, none⟩) a.length cap) a.length (vi xs) ∧ Hid (Gk a b s1 k xs)) (fun i _ => b.length - (intOf i).toNat)
    case atStart => exact ⟨0, _, Nat.zero_le _, rfl, Below.refl _ _, HO.out, Gk.zero DA.out⟩
    case round =>
      obtain ⟨k, xs, hk, rfl, hbel, hown, HG⟩ := hrel
      have R0 := Y0.keep hbel (by omega)
      have R1 := Y1.keep hbel (by omega)
      have R2 := Y2.keep hbel (by omega)
      have kr := K2.out.trans (hbel.mono (by omega))
      obtain ⟨t1, t2, t3, t4⟩ := R0.cells
      obtain ⟨t5, t6, t7, t8⟩ := R1.cells
      obtain ⟨t9, t10, t11, t12⟩ := R2.cells
      have hbsz := hbel.size
      by_cases hlt : k < b.length
      · obtain ⟨bb, ob, rfl, hbb, hcb'⟩ := HGB.out k hlt
        have c1 := (kr.cell (p := ⟨bb, ob + k, none⟩) hbb).trans hcb'
        have c2 : wr.cell? ⟨g, k, none⟩ = some (.int .i64 (xs.getD k 0)) := by
          have hl := HG.out.1
          rw [hown.cellAt k (by omega)]
          simp [vi, List.getD_eq_getElem?_getD, show k < xs.length by omega]
        have c3 := hown.frozenAt k
        obtain ⟨t, ht⟩ : ∃ t, s1 * ((b.getD k 0 : Nat) : Int) = t := ⟨_, rfl⟩
        have hb9 := DB.out.getD k
        have ht1 : -9999 ≤ t ∧ t ≤ 9999 := by
          have := sgn_mul y z
          have h1 := HS1.out
          have h2 := HSY.out
          have h3 := HSZ.out
          rw [h2, h3, h1] at this
          rcases this with h | h | h <;> rw [h] at ht <;> omega
        have hx9 := HG.out.2.2.2 k
        have ST := Lib.hid (HG.out.step DA.out (by omega) ht ht1.1 ht1.2)
        have hst := (hown.stored k (.int .i64 (xs.getD k 0 + t))).1
        rw [show (vi xs).set k (.int .i64 (xs.getD k 0 + t)) = vi (xs.set k (xs.getD k 0 + t)) by simp [vi]] at hst
        have HST := Lib.hid hst
        have hgg := (hown.lt g rfl).1
        have HB2 := Lib.hid (hbel.setCell (p := ⟨g, k, none⟩) hgg (.int .i64 (xs.getD k 0 + t)))
        generalize xs.getD k 0 = x at *
        have e1 : IntKind.i64.wrap (ys * zs) = s1 := by rw [HS1.out]; exact IntWalk.i64_in _ (by omega)
        have e2 : IntKind.i64.wrap (s1 * ((b.getD k 0 : Nat) : Int)) = t := by rw [ht]; exact IntWalk.i64_in _ (by omega)
        have e3 : IntKind.i64.wrap (x + t) = x + t := IntWalk.i64_in _ (by omega)
        generalize b.getD k 0 = bk at *
        have hk1 : (k : Int) < (a.length : Int) := by omega
        have hk2 : (k : Int) < (b.length : Int) := by omega
        have hk3 : k < a.length := by omega
        clear ht hst hcb'
        go_wp2
        go_still_tail 19, (by kernel_rfl)
        go_wp2
        go_roundw
        case rel => exact ⟨k + 1, xs.set k (x + t), by omega, by go_num, HB2.out.drew, HST.out.drew, ST.out⟩
        case measure => simp [intOf]; omega
      · obtain rfl : k = b.length := by omega
        have HSL := Lib.hid (SlI.of_ownI hown (by have := HG.out.1; omega))
        have HV : Hid (iv xs = (y.natAbs : Int) + ys * zs * z.natAbs) := by
          have h := HG.out.2.1
          rw [List.take_length, RA.out, RB.out] at h
          show _ = _
          rw [h, HS1.out]
        have HL : Hid (xs.length ≤ 2000) := by have := HG.out.1; show _ ≤ _; omega
        clear hown
        go_wp2_with fail
        refine (made_fr _ _ _ _ HSL.out (fun i => by have := HG.out.2.2.2 i; omega) (by rw [HV.out]; exact SB.out) HL.out).mono ?_
        rintro e w3 ⟨hb3, v3, rfl, h3, f3⟩
        rw [HV.out, ← SA.out] at h3
        have FRH := Lib.hid (f3.le (A := w.heap.size) (by first | exact kr.size | exact k1.size | omega))
        clear f3
        have HZ := Lib.hid (h3.toZ SC.out)
        clear h3
        have R3 := R2.keep hb3 (by omega)
        obtain ⟨m1, m2, m3, m4⟩ := R3.cells
        have kf := kr.trans (hb3.mono (by omega))
        obtain ⟨pz, lz, cz, rfl⟩ := HZ.out.agg
        obtain ⟨g1, g2⟩ := two_cells m1 m2 (.int .i64 (y + z).sign) (.slice pz lz cz)
        have HF := Lib.hid (HZ.out.store R3.noI (grown2 w3 (w.heap.size + 1 + 1) 0 1 (.int .i64 (y + z).sign) (.slice pz lz cz)))
        clear hb3 t1 t2 t3 t4 t5 t6 t7 t8 t9 t10 t11 t12
        go_wp2
        exact bodyPost_ret (v := .agg #[.int .i64 (y + z).sign, .slice pz lz cz]) (by simp [results, Tryz.results98, go_sem, g1, g2]) rfl ⟨(kf.setCell (by simp; omega) _).setCell (by simp; omega) _, _, rfl, HF.out, FRH.out⟩

theorem zaddr_fr (va vb : Value) (y z : Int) (w : World) (ha : RZ w va y) (hb : RZ w vb z) (sy : Sr y) (sz : Sr z) : Calls Tryz.prog 98 #[va, vb] w (PRZf (y + z) w) := by
  rcases Nat.lt_or_ge y.natAbs z.natAbs with h | h
  · rw [Int.add_comm]; exact zaddr_ltf va vb z y w ha hb h sz sy
  · exact zaddr_gef va vb y z w ha hb h sy sz
/-- a box whose number's digits lie in no block below B -/
def Hf (T : Nat) (z : Int) (B : Nat) (w : World) : Prop := ∃ (s : Int) (p : Option Addr) (l c : Nat), Bz T s p l c w ∧ RZ w (.agg #[.int .i64 s, .slice p l c]) z ∧ Fr B (.agg #[.int .i64 s, .slice p l c])
theorem PRZf.kd {z : Int} {B : Nat} {w : World} {n : FuncId} {args : Array Value} (hB : B ≤ w.heap.size) (h : Calls Tryz.prog n args w (PRZf z w)) : Calls Tryz.prog n args w fun e w' => ∃ v, e = .returned v ∧ (Below w.heap.size w w' ∧ RZ w' v z ∧ Fr B v) :=
  h.mono fun _ _ ⟨hb, v, he, hv, hf⟩ => ⟨v, he, hb, hv, hf.le hB⟩
/-- what such a slot holds -/
def kf (z : Int) (B : Nat) : Kd := .c (fun v w => RZ w v z ∧ Fr B v) (fun _ _ _ h hb => ⟨h.1.keep hb (Nat.le_refl _), h.2⟩)
def tab17f (y z : Int) (B : Nat) (d : Nat) : Kd := [.r y, .r z, .r (-z), kf (y + -z) B].getD (d - 5) .any

set_option maxRecDepth 100000 in
set_option maxHeartbeats 800000 in
theorem zsubr_fr (va vb : Value) (y z : Int) (w : World) (ha : RZ w va y) (hb : RZ w vb z) (sy : Sr y) (sz : Sr z) : Calls Tryz.prog 128 #[va, vb] w (PRZf (y - z) w) := by
  have sz' : Sr (-z) := by obtain ⟨k, h1, h2⟩ := sz; exact ⟨k, h1, by rw [Int.natAbs_neg]; exact h2⟩
  obtain ⟨pa, la, ca, rfl⟩ := ha.agg
  obtain ⟨pb, lb, cb, rfl⟩ := hb.agg
  have A0 : Hr w.heap.size y (w.alloc (.cells #[.int .i64 y.sign, .slice pa la ca] 41)) := Hr.new ha
  have B0 : Hr (w.heap.size + 1) z ((w.alloc (.cells #[.int .i64 y.sign, .slice pa la ca] 41)).alloc (.cells #[.int .i64 z.sign, .slice pb lb cb] 41)) := by
    have := Hr.new (hb.keep (bl1 w (.cells #[.int .i64 y.sign, .slice pa la ca] 41)) (Nat.le_refl _))
    rw [World.size_alloc] at this
    exact this
  have S : S17 w y z (((w.alloc (.cells #[.int .i64 y.sign, .slice pa la ca] 41)).alloc (.cells #[.int .i64 z.sign, .slice pb lb cb] 41)).alloc (.cells #[.int .i64 0, .slice none 0 0] 41)) :=
    ⟨bl3 _ _ _ _, (A0.al _).al _, B0.al _, bz_new _ _ _ _ _ (by simp)⟩
  have S := Lib.hid S
  clear ha hb A0 B0
  go_enter Tryz.func128, Tryz.ntmps128
  go_wp2_with fail
  go_cut [] (fun wc => Below w.heap.size w wc ∧ Hf (w.heap.size + 1 + 1) (y - z) w.heap.size wc)
  case first =>
    rename_i J K' hJ hK
    refine wp_region_two D17 (tab17f y z w.heap.size) (S17 w y z) 4 (fun _ _ w' => Below w.heap.size w w' ∧ Hf (w.heap.size + 1 + 1) (y - z) w.heap.size w') (by kernel_rfl) (by kernel_rfl) (by kernel_rfl) (by kernel_rfl) (by decide) (by kernel_rfl) (fun _ _ h hb => h.keep hb) (S.out.keep (Below.refl _ _).drew) ?_ ?_ ?_
    · refine .cons (fun f w' hI hs => ?_) ?_
      · obtain ⟨s, p, l, c, h1, h2⟩ := hI.a
        exact ⟨wanted_none rfl, _, rfl, .val (rn_load32 rfl (fr_old rfl rfl) h1) ⟨Below.refl _ _, h2⟩⟩
      refine .cons (fun f w' hI hs => ?_) ?_
      · obtain ⟨s, p, l, c, h1, h2⟩ := hI.b
        exact ⟨wanted_none rfl, _, rfl, .val (rn_load32 rfl (fr_old rfl rfl) h1) ⟨Below.refl _ _, h2⟩⟩
      refine .cons (fun f w' hI hs => ⟨wanted_none rfl, _, rfl, .call1 rfl cf93 rfl rfl (PRZ.kd (znegr_any _ z _ (hs 6 (by kernel_rfl))))⟩) ?_
      refine .cons (fun f w' hI hs => ⟨wanted_none rfl, _, rfl, .call2 rfl cf98 rfl rfl rfl rfl (PRZf.kd hI.k.size (zaddr_fr _ _ y (-z) _ (hs 5 (by kernel_rfl)) (hs 7 (by kernel_rfl)) sy sz'))⟩) ?_
      exact .nil
    · refine .cons (fun f w' h => ⟨wanted_none rfl, ?_⟩) .nil
      obtain ⟨hI, hs⟩ := (if_pos rfl) ▸ h
      obtain ⟨h8, f8⟩ : RZ w' (f 8) (y + -z) ∧ Fr w.heap.size (f 8) := hs 8 (by kernel_rfl)
      obtain ⟨p, l, c, e8⟩ := h8.agg
      rw [e8] at h8 f8
      rw [← Int.sub_eq_add_neg] at h8 e8 f8
      exact .skip (rn_store32 rfl (fr_old rfl rfl) ((fr_own rfl rfl).trans e8) hI.t) ⟨below2 hI.k (by omega) _ _, _, _, _, _, hI.t.set _ _ _ _, h8.store hI.t.noI (grown2 _ _ 0 1 _ _), f8⟩
    · intro f w' h
      refine hK _ _ (Met.intro (hJ _ _ ?_))
      (repeat apply Exists.intro)
      refine ⟨?_, rfl⟩
      exact h
  case rest =>
    obtain ⟨kf, s2, p2, l2, c2, h3, h4, h5⟩ := hcut
    obtain ⟨g4, g5, _, _⟩ := h3.cells
    have KF := Lib.hid kf
    have V2 := Lib.hid h4
    have V3 := Lib.hid h5
    clear h3 h4 h5 kf S
    go_wp2
    exact bodyPost_ret (v := .agg #[.int .i64 s2, .slice p2 l2 c2]) (by simp [results, Tryz.results128, go_sem, g4, g5]) rfl ⟨KF.out, _, rfl, V2.out, V3.out⟩

/-- the groups of a small multiple: k groups of a are done -/
def Tk (a : List Nat) (n k : Nat) (xs : List Int) : Prop := xs.length = a.length ∧ iv xs = (n : Int) * rv (a.take k) ∧ (∀ j, 0 ≤ xs.getD j 0 ∧ xs.getD j 0 ≤ 100000000) ∧ (∀ j, k ≤ j → xs.getD j 0 = 0)
theorem Tk.zero (a : List Nat) (n : Nat) : Tk a n 0 (List.replicate a.length 0) :=
  ⟨by simp, by rw [iv_zeros]; simp [rv], fun j => by rw [getD_zeros]; omega, fun j _ => by rw [getD_zeros]⟩
theorem Tk.step {a : List Nat} {n k : Nat} {xs : List Int} {p : Int} (h : Tk a n k xs) (hk : k < a.length) (hp : ((a.getD k 0 : Nat) : Int) * (n : Int) = p) (hp0 : 0 ≤ p) (hp1 : p ≤ 99990000) : Tk a n (k + 1) (xs.set k p) := by
  obtain ⟨h1, h2, h3, h4⟩ := h
  have h0 := h4 k (Nat.le_refl _)
  refine ⟨by simpa using h1, ?_, fun j => ?_, fun j hj => ?_⟩
  · rw [iv_set _ _ _ (by omega), h2, rv_take_succ, h0, ← hp]
    simp only [Int.natCast_add, Int.natCast_mul, Int.natCast_pow, Int.mul_add, Int.sub_zero]
    congr 1
    simp only [show (((10000 : Nat)) : Int) = 10000 from rfl]
    ac_rfl
  · rw [getD_set _ _ _ _ (by omega)]
    split
    · omega
    · exact h3 j
  · rw [getD_set _ _ _ _ (by omega), if_neg (by omega)]
    exact h4 j (by omega)
theorem mul_abs (y : Int) (n : Nat) : (y * n).natAbs = ((n : Int) * (y.natAbs : Int)).toNat ∧ (y * n ≠ 0 → y.sign = (y * n).sign) := by
  constructor
  · rw [Int.natAbs_mul, Int.mul_comm]; simp [← Int.natCast_mul]
  · intro h
    rw [Int.sign_mul]
    have : (n : Int).sign = 1 := by
      rcases Nat.eq_zero_or_pos n with e | e
      · subst e; simp at h
      · exact Int.sign_eq_one_of_pos (by omega)
    rw [this, Int.mul_one]

set_option maxRecDepth 100000 in
set_option maxHeartbeats 1600000 in
theorem times_fr (va : Value) (y : Int) (f : Nat) (w : World) (ha : RZ w va y) (sy : Sr y) (hf : f ≤ 9999) : Calls Tryz.prog 129 #[va, .int .i64 (f : Int)] w (PRZf (y * f) w) := by
  obtain ⟨a, pa, ca, rfl, _, hca, hma, da, na, ra, hga⟩ := ha.opened
  have la := sy.len na ra
  obtain ⟨sa, sc⟩ := mul_abs y f
  have SA := Lib.hid sa; have SC := Lib.hid sc
  have HA := Lib.hid ha
  have RA := Lib.hid ra
  have HGA := Lib.hid hga
  have DA := Lib.hid da
  obtain ⟨n, hn⟩ : ∃ n, n = a.length := ⟨_, rfl⟩
  have hmk := mk30 n (by omega)
  have hn2 : n ≤ 900 := by omega
  have hna : (a.length : Int) = (n : Int) := by omega
  have HN := Lib.hid hn
  clear ha na hga da ra sa hn
  generalize hsy : y.sign = ys at *
  have HSY := Lib.hid hsy
  clear hsy sc
  go_enter Tryz.func129, Tryz.ntmps129
  go_wp2
  generalize hW : (((w.alloc (.cells #[.int .i64 ys, .slice pa a.length ca] 41)).alloc (.cells #[.int .i64 0, .slice none 0 0] 41)).alloc (.cells (madeCells #[.int .i64 0] n) 3)) = w2
  have X0 : Bz w.heap.size ys pa a.length ca w2 := by rw [← hW]; exact ((bz_new w _ _ _ _ rfl).alloc _).alloc _
  have X2 : Bz (w.heap.size + 1) 0 none 0 0 w2 := by rw [← hW]; exact (bz_new (w.alloc _) _ _ _ _ (by simp)).alloc _
  have k2 : Below w.heap.size w w2 := by rw [← hW]; exact (bl2 _ _ _).alloc (by simp; omega) _
  have own : w2.ownsRow (w.heap.size + 1 + 1) 3 1 (.slice (some ⟨w.heap.size + 1 + 1, 0, none⟩) n n) n (vi (List.replicate a.length 0)) := by
    rw [← hW, show a.length = n from HN.out.symm, show vi (List.replicate n 0) = (madeCells #[.int .i64 0] n).toList by rw [toList_madeCells_one]; simp [vi]]
    have h := World.ownsRow_lit (e := 3) (size := 1) (base := w.heap.size + 1 + 1) ((w.alloc (.cells #[.int .i64 ys, .slice pa n ca] 41)).alloc (.cells #[.int .i64 0, .slice none 0 0] 41)) (madeCells #[.int .i64 0] n) n (by simp) (by unfold maxLen; omega) (by rw [size_madeCells]; omega)
    simp only [World.size_alloc] at h
    exact h
  have hsz2 : w.heap.size + 1 + 1 < w2.heap.size := by rw [← hW]; simp
  have K2 := Lib.hid k2
  have OWN := Lib.hid own
  obtain ⟨q1, q2, q3, q4⟩ := X0.cells
  clear hW k2 own hmk
  go_loopw [6] (fun i wr => ∃ (k : Nat) (xs : List Int), k ≤ a.length ∧ i = .int .i64 k ∧ Below (w.heap.size + 1 + 1) w2 wr ∧ wr.ownsRow (w.heap.size + 1 + 1) 3 1 (.slice (some ⟨w.heap.size + 1 + 1, 0, none⟩) n n) n (vi xs) ∧ Hid (Tk a f k xs)) (fun i _ => a.length - (intOf i).toNat)
  case atStart => exact ⟨0, _, Nat.zero_le _, rfl, Below.refl _ _, OWN.out, Tk.zero a f⟩
  case round =>
    obtain ⟨k, xs, hk, rfl, hbel, hown, HM⟩ := hrel
    have R0 := X0.keep hbel (by omega)
    have R2 := X2.keep hbel (by omega)
    have kr := K2.out.trans (hbel.mono (by omega))
    obtain ⟨t1, t2, t3, t4⟩ := R0.cells
    have hb0 := hbel.size
    by_cases hlt : k < a.length
    · obtain ⟨ba, oa, rfl, hba, hca'⟩ := HGA.out k hlt
      have c0 := (kr.cell (p := ⟨ba, oa + k, none⟩) hba).trans hca'
      have hlx := HM.out.1
      have c3 := hown.frozenAt k
      have ha9 := DA.out.getD k
      obtain ⟨p, hp⟩ : ∃ p : Int, ((a.getD k 0 : Nat) : Int) * (f : Int) = p := ⟨_, rfl⟩
      have hp0 : 0 ≤ p := by rw [← hp]; exact Int.mul_nonneg (by omega) (by omega)
      have hp1 : p ≤ 99990000 := by
        rw [← hp]
        have h1 : ((a.getD k 0 : Nat) : Int) * (f : Int) ≤ 9999 * 9999 := Int.mul_le_mul (by omega) (by omega) (by omega) (by omega)
        omega
      have STH := Lib.hid (HM.out.step hlt hp hp0 hp1)
      have hst := (hown.stored k (.int .i64 p)).1
      rw [show (vi xs).set k (.int .i64 p) = vi (xs.set k p) by simp [vi]] at hst
      have c2 : wr.cell? ⟨w.heap.size + 1 + 1, k, none⟩ = some (.int .i64 (xs.getD k 0)) := by
        rw [hown.cellAt k (by omega)]
        have : k < xs.length := by have := HN.out; omega
        simp [vi, List.getD_eq_getElem?_getD, this]
      have HST := Lib.hid hst
      have HB2 := Lib.hid (hbel.setCell (p := ⟨w.heap.size + 1 + 1, k, none⟩) (Nat.le_refl _) (.int .i64 p))
      clear hst hown hbel R0 R2
      generalize xs.getD k 0 = x at *
      have e2 : IntKind.i64.wrap (((a.getD k 0 : Nat) : Int) * (f : Int)) = p := by rw [hp]; exact IntWalk.i64_in _ (by omega)
      generalize a.getD k 0 = ai at *
      have hk2 : (k : Int) < (n : Int) := by omega
      have hk3 : (k : Int) < (a.length : Int) := by omega
      clear hp hca'
      go_wp2
      go_roundw
      case rel => exact ⟨k + 1, xs.set k p, by omega, by go_num, HB2.out, HST.out, STH.out⟩
      case measure => simp [intOf]; omega
    · obtain rfl : k = a.length := by omega
      have HSL := Lib.hid (SlI.of_ownI hown (by have := HM.out.1; omega))
      have HV : Hid (iv xs = (f : Int) * (y.natAbs : Int)) := by
        have h := HM.out.2.1
        rw [List.take_length, RA.out] at h
        exact h
      have HL : Hid (xs.length ≤ 2000) := by have h1 := HM.out.1; have h2 := HN.out; show _ ≤ _; omega
      have HMB : Hid (∀ i, -100000000000000 ≤ xs.getD i 0 ∧ xs.getD i 0 ≤ 100000000000000) := fun j => by have := HM.out.2.2.1 j; omega
      clear hown
      go_wp2_with fail
      refine (made_fr _ _ _ _ HSL.out HMB.out (by rw [HV.out]; exact Int.mul_nonneg (by omega) (by omega)) HL.out).mono ?_
      rintro e w3 ⟨hb3, v3, rfl, h3, f3⟩
      rw [HV.out, ← SA.out] at h3
      have FRH := Lib.hid (f3.le (A := w.heap.size) (by first | exact kr.size | omega))
      clear f3
      have HZ := Lib.hid (h3.toZ (fun h => SC.out h))
      clear h3
      have R3 := R2.keep hb3 (by omega)
      obtain ⟨m1, m2, m3, m4⟩ := R3.cells
      have kf := kr.trans (hb3.mono (by omega))
      obtain ⟨sg, pz, lz, cz, rfl⟩ : ∃ (sg : Int) (p : Option Addr) (l c : Nat), v3 = .agg #[.int .i64 sg, .slice p l c] := ⟨_, HZ.out.agg⟩
      obtain ⟨g1, g2⟩ := two_cells m1 m2 (.int .i64 sg) (.slice pz lz cz)
      have HF := Lib.hid (HZ.out.store R3.noI (grown2 w3 (w.heap.size + 1) 0 1 (.int .i64 sg) (.slice pz lz cz)))
      clear hb3 t1 t2 t3 t4
      go_wp2
      exact bodyPost_ret (v := .agg #[.int .i64 sg, .slice pz lz cz]) (by simp [results, Tryz.results129, go_sem, g1, g2]) rfl ⟨(kf.setCell (by simp) _).setCell (by simp) _, _, rfl, HF.out, FRH.out⟩
end Go.Proofs.YtjjomjjgoceklaaGreat
namespace Go.Proofs.YtjjomjjgoceklaaGreat
set_option maxRecDepth 100000
open Go.RowKit

/-! ## the quotient of the reference: what lies where -/
/-- digits that do not lie in block Q -/
def Av (Q : Nat) (p : Option Addr) (l : Nat) : Prop := 0 < l → ∀ b o, p = some ⟨b, o, none⟩ → b ≠ Q
def Hv (T : Nat) (z : Int) (Q : Nat) (w : World) : Prop := ∃ (s : Int) (p : Option Addr) (l c : Nat), Bz T s p l c w ∧ RZ w (.agg #[.int .i64 s, .slice p l c]) z ∧ Av Q p l
theorem Hv.hr {T Q : Nat} {z : Int} {w : World} (h : Hv T z Q w) : Hr T z w := by obtain ⟨s, p, l, c, h1, h2, _⟩ := h; exact ⟨s, p, l, c, h1, h2⟩
theorem Hv.keep {T Q : Nat} {z : Int} {w w' : World} (h : Hv T z Q w) (hb : Below w.heap.size w w') : Hv T z Q w' := by
  obtain ⟨s, p, l, c, h1, h2, h3⟩ := h
  exact ⟨s, p, l, c, blk_keep h1 hb, h2.keep hb (Nat.le_refl _), h3⟩
theorem Hv.st {T U Q : Nat} {z : Int} {w w' : World} (h : Hv T z Q w) (hU : NoI w U) (hg : w.grownBy w' (some U)) (hne : T ≠ U) : Hv T z Q w' := by
  obtain ⟨s, p, l, c, h1, h2, h3⟩ := h
  exact ⟨s, p, l, c, blk_other h1 hg hne, h2.store hU hg, h3⟩
theorem Fr.av {B Q : Nat} {s : Value} {p : Option Addr} {l c : Nat} (h : Fr B (.agg #[s, .slice p l c])) (hQ : Q < B) : Av Q p l := by
  intro _ b o e
  subst e
  have := h _ _ _ _ _ rfl
  omega
theorem Av.nil (Q : Nat) (l : Nat) : Av Q none l := fun _ b o e => by cases e
/-- a number's digits stay while the row Q is written -/
theorem RZ.cellQ {w : World} {s : Int} {p : Option Addr} {l c Q i : Nat} {z : Int} {cur : Array Value} (h : RZ w (.agg #[.int .i64 s, .slice p l c]) z) (hav : Av Q p l) (hQ : w.heap[Q]? = some (.cells cur 3 (0, 0))) (v : Value) :
    RZ (w.setCell ⟨Q, i, none⟩ v) (.agg #[.int .i64 s, .slice p l c]) z := by
  obtain ⟨gs, sl, h1, ⟨h2, h3⟩, h4⟩ := h
  simp only [Value.agg.injEq, Array.mk.injEq, List.cons.injEq, and_true] at h1
  obtain ⟨hs, rfl⟩ := h1
  refine ⟨gs, _, by rw [hs], ⟨h2, ?_⟩, h4⟩
  rcases h3 with h3 | ⟨b, o, cap, e, hc, hm, ⟨cu, hcu⟩, hcell⟩
  · exact .inl h3
  · simp only [Value.slice.injEq] at e
    obtain ⟨rfl, rfl, rfl⟩ := e
    by_cases hb : b = Q
    · have hl : (gs.map fun (x : Nat) => (x : Int)).length = 0 := by
        rcases Nat.eq_zero_or_pos (gs.map fun (x : Nat) => (x : Int)).length with h | h
        · exact h
        · exact absurd hb (hav h b o rfl)
      refine .inr ⟨b, o, c, rfl, hc, hm, ?_, fun j hj => by omega⟩
      subst hb
      refine ⟨cur.setIfInBounds i v, ?_⟩
      simp [World.setCell, Array.getElem?_modify, hQ]
    · refine .inr ⟨b, o, c, rfl, hc, hm, ⟨cu, ?_⟩, fun j hj => ?_⟩
      · rw [Below.heap_setCell w ⟨Q, i, none⟩ v b hb]; exact hcu
      · rw [World.cell?_of_block (a := ⟨b, o + j, none⟩) (Below.heap_setCell w ⟨Q, i, none⟩ v b hb)]; exact hcell j hj
theorem Hv.setQ {T Q i : Nat} {z : Int} {w : World} {cur : Array Value} (h : Hv T z Q w) (hQ : w.heap[Q]? = some (.cells cur 3 (0, 0))) (hne : T ≠ Q) (v : Value) : Hv T z Q (w.setCell ⟨Q, i, none⟩ v) := by
  obtain ⟨s, p, l, c, h1, h2, h3⟩ := h
  exact ⟨s, p, l, c, (Below.heap_setCell w ⟨Q, i, none⟩ v T hne).trans h1, h2.cellQ h3 hQ v, h3⟩
def nf (xs : List Nat) : Nat → Value := fun i => .int .i64 ((xs.getD i 0 : Nat) : Int)
theorem row_downN {w : World} {b t n i : Nat} {tail : List Nat} (h : w.rowIs b t n (nf (List.replicate (i + 1) 0 ++ tail))) (q : Nat) : (w.setCell ⟨b, i, none⟩ (.int .i64 (q : Int))).rowIs b t n (nf (List.replicate i 0 ++ q :: tail)) := by
  refine (h.set i _).congr (fun j _ => ?_)
  unfold nf
  by_cases e : j = i
  · subst e; simp [List.getD_eq_getElem?_getD]
  · rw [if_neg e]
    simp only [List.getD_eq_getElem?_getD]
    rcases Nat.lt_or_ge j i with h1 | h1
    · rw [List.getElem?_append_left (by simp; omega), List.getElem?_append_left (by simp; omega)]
      simp [h1, show j < i + 1 by omega]
    · rw [List.getElem?_append_right (by simp; omega), List.getElem?_append_right (by simp; omega)]
      simp only [List.length_replicate]
      rw [show j - i = (j - (i + 1)) + 1 by omega, List.getElem?_cons_succ]
theorem SlI.of_rowN {w : World} {b n : Nat} {xs : List Nat} (h : w.rowIs b 3 n (nf xs)) (hl : xs.length = n) (h1 : n ≤ 2000) : SlI w (.slice (some ⟨b, 0, none⟩) n n) (xs.map fun (x : Nat) => (x : Int)) := by
  subst hl
  obtain ⟨c, hc, _, _⟩ := id h
  refine ⟨by simp; omega, .inr ⟨b, 0, xs.length, by simp, by simp, by unfold maxLen; omega, ⟨c, hc⟩, fun i hi => ?_⟩⟩
  rw [Nat.zero_add, castG, h.cell (by simpa using hi)]
  rfl
/-- the boxes of the quotient, its row -/
structure Q7 (w0 : World) (ys zs : Int) (n : Nat) (pa pb : Option Addr) (ca lb cb T7 : Nat) (d r : Nat) (xs : List Nat) (w : World) : Prop where
  lt : w0.heap.size + 1 + 1 + 1 + 1 < T7
  k : Below w0.heap.size w0 w
  a : Bz w0.heap.size ys pa n ca w
  b : Bz (w0.heap.size + 1) zs pb lb cb w
  c : Bz (w0.heap.size + 1 + 1) 0 none 0 0 w
  c2 : Bz (w0.heap.size + 1 + 1 + 1) 0 none 0 0 w
  q : w.rowIs (w0.heap.size + 1 + 1 + 1 + 1) 3 n (nf xs)
  r : Hv T7 (r : Int) (w0.heap.size + 1 + 1 + 1 + 1) w
  e : Hv (T7 + 1) (d : Int) (w0.heap.size + 1 + 1 + 1 + 1) w
section
variable {w0 : World} {ys zs : Int} {n : Nat} {pa pb : Option Addr} {ca lb cb T7 : Nat} {d r : Nat} {xs : List Nat} {w w' : World}
theorem Q7.keep (h : Q7 w0 ys zs n pa pb ca lb cb T7 d r xs w) (hb : Below w.heap.size w w') : Q7 w0 ys zs n pa pb ca lb cb T7 d r xs w' :=
  ⟨h.lt, Below.thru h.k h.k.size hb, blk_keep h.a hb, blk_keep h.b hb, blk_keep h.c hb, blk_keep h.c2 hb, row_keep h.q hb, h.r.keep hb, h.e.keep hb⟩
theorem Q7.size (h : Q7 w0 ys zs n pa pb ca lb cb T7 d r xs w) : T7 + 1 < w.heap.size := by obtain ⟨_, _, _, _, h1, _⟩ := h.e; exact blk_lt h1
/-- the rest written -/
theorem Q7.put (h : Q7 w0 ys zs n pa pb ca lb cb T7 d r xs w) {s : Int} {p : Option Addr} {l c r' : Nat} (hz : RZ w (.agg #[.int .i64 s, .slice p l c]) (r' : Int)) (hf : Fr (w0.heap.size + 1 + 1 + 1 + 1 + 1) (.agg #[.int .i64 s, .slice p l c])) :
    Q7 w0 ys zs n pa pb ca lb cb T7 d r' xs (st2 w T7 (.int .i64 s) (.slice p l c)) := by
  obtain ⟨_, _, _, _, hB, _⟩ := h.r
  have hg := grown2 w T7 0 1 (.int .i64 s) (.slice p l c)
  have hl := h.lt
  exact ⟨h.lt, below2 h.k (by omega) _ _, blk_other h.a hg (by omega), blk_other h.b hg (by omega), blk_other h.c hg (by omega), blk_other h.c2 hg (by omega),
    h.q.of_block (hg.block _ h.q.lt (by intro e; cases e; omega)), ⟨s, p, l, c, hB.set _ _ _ _, hz.store hB.noI hg, hf.av (by omega)⟩, h.e.st hB.noI hg (by omega)⟩
/-- a group of the quotient written -/
theorem Q7.group {i : Nat} {tail : List Nat} (h : Q7 w0 ys zs n pa pb ca lb cb T7 d r (List.replicate (i + 1) 0 ++ tail) w) (q : Nat) : Q7 w0 ys zs n pa pb ca lb cb T7 d r (List.replicate i 0 ++ q :: tail) (w.setCell ⟨w0.heap.size + 1 + 1 + 1 + 1, i, none⟩ (.int .i64 (q : Int))) := by
  obtain ⟨cur, hc, _⟩ := id h.q
  have ho : ∀ T, T ≠ w0.heap.size + 1 + 1 + 1 + 1 → (w.setCell ⟨w0.heap.size + 1 + 1 + 1 + 1, i, none⟩ (.int .i64 (q : Int))).heap[T]? = w.heap[T]? := fun T hT => Below.heap_setCell w _ _ T hT
  have hl := h.lt
  exact ⟨h.lt, h.k.setCell (by simp; omega) _, (ho _ (by omega)).trans h.a, (ho _ (by omega)).trans h.b, (ho _ (by omega)).trans h.c, (ho _ (by omega)).trans h.c2, row_downN h.q q, h.r.setQ hc (by omega) _, h.e.setQ hc (by omega) _⟩
end
/-! ## the numbers -/
theorem rv_drop (l : List Nat) (i : Nat) (h : i < l.length) : rv (l.drop i) = l.getD i 0 + 10000 * rv (l.drop (i + 1)) := by
  rw [drop_getD l i h]; rfl
theorem rv_drop_le' (l : List Nat) (i : Nat) : rv (l.drop i) ≤ rv l := by
  rcases Nat.lt_or_ge i l.length with h | h
  · have e := rv_append (l.take i) (l.drop i)
    rw [List.take_append_drop, List.length_take, Nat.min_eq_left (by omega)] at e
    have : 0 < 10000 ^ i := Nat.pow_pos (by omega)
    have := Nat.le_mul_of_pos_left (rv (l.drop i)) this
    omega
  · rw [List.drop_eq_nil_of_le h]; exact Nat.zero_le _
/-- the groups from k on are divided -/
def Zq (a : List Nat) (d k : Nat) (tail : List Nat) (r : Nat) : Prop := k + tail.length = a.length ∧ D4 tail ∧ rv (a.drop k) = rv tail * d + r ∧ r < d
theorem Zq.zero (a : List Nat) {d : Nat} (h : 0 < d) : Zq a d a.length [] 0 := ⟨rfl, D4.nil, by rw [List.drop_eq_nil_of_le (Nat.le_refl _)]; simp [rv], h⟩
/-- the next group taken down -/
def dn1 (a : List Nat) (i r : Nat) : Nat := a.getD i 0 + 10000 * r
theorem Zq.down {a tail : List Nat} {d i r : Nat} (h : Zq a d (i + 1) tail r) (ha : D4 a) : dn1 a i r < 10000 * d ∧ dn1 a i r ≤ rv a := by
  obtain ⟨h1, h2, h3, h4⟩ := h
  have h5 := rv_drop a i (by omega)
  have h6 := rv_drop_le' a i
  have h7 := ha.getD i
  rw [h3] at h5
  have h8 : 10000 * (rv tail * d + r) = 10000 * (rv tail * d) + 10000 * r := by rw [Nat.mul_add]
  unfold dn1
  omega
theorem Zq.step {a tail : List Nat} {d i r q : Nat} (h : Zq a d (i + 1) tail r) (hq : q < 10000) (h1 : q * d ≤ dn1 a i r) (h2 : dn1 a i r < (q + 1) * d) : Zq a d i (q :: tail) (dn1 a i r - d * q) := by
  obtain ⟨h3, h4, h5, h6⟩ := h
  refine ⟨by simp; omega, ?_, ?_, ?_⟩
  · intro x hx
    rcases List.mem_cons.1 hx with rfl | hx
    · exact hq
    · exact h4 x hx
  · rw [rv_drop a i (by omega), h5]
    have e1 : rv (q :: tail) = q + 10000 * rv tail := rfl
    rw [e1, Nat.add_mul, Nat.mul_add, Nat.mul_assoc, Nat.mul_comm d q]
    unfold dn1 at *
    omega
  · rw [Nat.add_mul] at h2
    rw [Nat.mul_comm d q]
    omega
theorem Sr.ofN {z : Int} {n : Nat} (h : Sr z) (hn : n ≤ z.natAbs) : Sr (n : Int) := Sr.le h (by simpa using hn)
/-! ## the operations -/
section
variable {ρ : Operand → Value} {o : Oper} {w : World} {t c x y : Operand} {a : Int}
theorem rn_field32_1 {b : Nat} (ho : o.op = .fieldAddr 41 t 1) (he : ρ t = .pointer (some ⟨b, 0, none⟩)) : (execOp ρ o).run Tryz.prog w = .ok (.value (.pointer (some ⟨b, 1, none⟩))) w := by
  unfold execOp; rw [ho]; simp [go_sem, he]
theorem rn_load30 {b i : Nat} {p : Option Addr} {l cp : Nat} (ho : o.op = .load 39 t) (he : ρ t = .pointer (some ⟨b, i, none⟩)) (h : w.cell? ⟨b, i, none⟩ = some (.slice p l cp)) : (execOp ρ o).run Tryz.prog w = .ok (.value (.slice p l cp)) w := by
  unfold execOp; rw [ho]; simp [go_sem, he, h]
theorem rn_idx30 {b off n cp k : Nat} (ho : o.op = .indexAddr 39 t c) (h1 : ρ t = .slice (some ⟨b, off, none⟩) n cp) (h2 : ρ c = .int .i64 (k : Int)) (hk : k < n) : (execOp ρ o).run Tryz.prog w = .ok (.value (.pointer (some ⟨b, off + k, none⟩))) w := by
  have h3 : (k : Int) < (n : Int) := by omega
  unfold execOp; rw [ho]; simp [go_sem, h1, h2, h3]
theorem rn_build30 (ho : o.op = .buildSlice 39 1 #[(0, x)]) (h1 : ρ x = .int .i64 a) : (execOp ρ o).run Tryz.prog w = .ok (.value (.slice (some ⟨w.heap.size, 0, none⟩) 1 1)) (w.alloc (.cells #[.int .i64 a] 3)) := by
  unfold execOp; rw [ho]; simp [go_sem, h1]
theorem rn_leq3 {n m : Int} {r : Bool} (ho : o.op = .binOp .leq 3 t c 3) (h1 : ρ t = .int .i64 n) (h2 : ρ c = .int .i64 m) (hc : decide (n ≤ m) = r) : (execOp ρ o).run Tryz.prog w = .ok (.value (.bool r)) w := by
  subst hc; unfold execOp; rw [ho]; simp [go_sem, h1, h2]
/-- a group in front of the digits of a number -/
theorem rn_front {T : Nat} {d : Nat} {sl : Value} {gs : List Nat} (ho : o.op = .call { callee := .builtin .append, args := #[x, y], argTypes := #[39, 39] }) (h1 : ρ x = .slice (some ⟨T, 0, none⟩) 1 1) (hT : w.heap[T]? = some (.cells #[.int .i64 (d : Int)] 3 (0, 0)))
    (h2 : ρ y = sl) (hsl : SlI w sl (gs.map fun (x : Nat) => (x : Int))) (hl : gs.length ≤ 1000) :
    ∃ v' w', (execOp ρ o).run Tryz.prog w = .ok (.value v') w' ∧ SlI w' v' ((d :: gs).map fun (x : Nat) => (x : Int)) ∧ w.grownBy w' (some T) := by
  obtain ⟨i0, hi, hz0, hz1, hz2⟩ := info_parts Tryz.info3
  have hTl := blk_lt hT
  have hown : w.ownsRow T 3 1 (.slice (some ⟨T, 0, none⟩) 1 1) 1 (dv [d]) := ⟨rfl, .inr ⟨T, 1, #[.int .i64 (d : Int)], rfl, Nat.le_refl _, hT, Nat.le_refl _, by unfold maxLen; omega, rfl, rfl⟩⟩
  have fin : ∀ v' w', (Builtin.append_ #[39, 39] o.type #[.slice (some ⟨T, 0, none⟩) 1 1, sl]).run Tryz.prog w = .ok v' w' → w'.ownsRow T 3 1 v' (1 + gs.length) (dv [d] ++ dv gs) → w.grownBy w' (some T) →
      ∃ v' w', (execOp ρ o).run Tryz.prog w = .ok (.value v') w' ∧ SlI w' v' ((d :: gs).map fun (x : Nat) => (x : Int)) ∧ w.grownBy w' (some T) := by
    intro v' w' hr h3 h4
    refine ⟨v', w', ?_, SlI.of_own (l := d :: gs) (by simpa [dv] using h3) (by simp; omega), h4⟩
    unfold execOp
    simp only [ho, resolve, invoke, builtin, Sem.run_bind, Sem.run_pure, Result.andThen_ok, List.map_toArray, List.map_cons, List.map_nil, h1, h2, hr]
  obtain ⟨h5, ⟨rfl, h6⟩ | ⟨b, off, cap, hv, hc, hm, _, hcell⟩⟩ := hsl
  · obtain rfl : gs = [] := List.map_eq_nil_iff.1 h6
    exact fin _ _ (run_append_owned_none (P := Tryz.prog) (w := w) T 39 o.type 3 i0 1 Tryz.underlying39 hi _ _ _ hown) (by simpa [dv] using hown) (World.grownBy.refl _ _)
  · simp only [List.length_map] at hv hc hcell
    subst hv
    obtain ⟨v', w', hr, h3, h4, _⟩ := run_append_own (P := Tryz.prog) w T 39 o.type 3 i0 (.int .i64 0) 1 8 Tryz.underlying39 hi hz0 hz1 hz2 rfl (by decide) _ 1 (dv [d]) hown ⟨b, off, none⟩ gs.length cap (dv gs) (by simp [dv])
      (dv_cells fun i hi => by rw [hcell i hi, castG]) (dv_one _) (by unfold maxLen; omega) (by omega) (by omega)
    exact fin v' w' hr h3 h4
end
theorem front_op {R : Value → World → Prop} {a0 : Act} {x y : Operand} {o : Oper} {w : World} {T : Nat} {d : Nat} {sl : Value} {gs : List Nat} (ho : o.op = .call { callee := .builtin .append, args := #[x, y], argTypes := #[39, 39] }) (h1 : a0.eval x = .slice (some ⟨T, 0, none⟩) 1 1) (hT : w.heap[T]? = some (.cells #[.int .i64 (d : Int)] 3 (0, 0)))
    (h2 : a0.eval y = sl) (hsl : SlI w sl (gs.map fun (x : Nat) => (x : Int))) (hl : gs.length ≤ 1000)
    (hR : ∀ v' w', SlI w' v' ((d :: gs).map fun (x : Nat) => (x : Int)) → w.grownBy w' (some T) → R v' w') : OpR Tryz.prog o a0 w R := by
  obtain ⟨v', w', hr, h3, h4⟩ := rn_front (ρ := a0.eval) ho h1 hT h2 hsl hl
  exact .val hr (hR v' w' h3 h4)
theorem cf94 : CF 94 := fun W args => by go_simp
theorem cf126 : CF 126 := fun W args => by go_simp
theorem cf129 : CF 129 := fun W args => by go_simp
/-- ZAbs keeps the digits where they lie -/
theorem zabsr_at (z s0 : Int) (p : Option Addr) (l c : Nat) (w : World) (h : RZ w (.agg #[.int .i64 s0, .slice p l c]) z) (h0 : s0 = z.sign) : Calls Tryz.prog 114 #[.agg #[.int .i64 s0, .slice p l c]] w
    (fun e w' => Below w.heap.size w w' ∧ ∃ t : Int, e = .returned (.agg #[.int .i64 t, .slice p l c]) ∧ RZ w' (.agg #[.int .i64 t, .slice p l c]) (z.natAbs : Int)) := by
  subst h0
  have H := Lib.hid h
  obtain ⟨h1, h2⟩ := sgn_bd z
  obtain ⟨s, hs⟩ : ∃ s, s = z.sign := ⟨_, rfl⟩
  rw [← hs] at h1 h2 ⊢
  obtain ⟨t, ht⟩ : ∃ t, t = s * s := ⟨_, rfl⟩
  have ht2 : IntKind.i64.wrap (s * s) = t := by
    rw [ht]
    refine IntWalk.i64_in _ ?_
    have : s = -1 ∨ s = 0 ∨ s = 1 := by omega
    rcases this with h | h | h <;> subst h <;> omega
  have HT : Hid (t = z.sign * z.sign) := by show _ = _; rw [ht, hs]
  clear h hs ht
  go_enter Tryz.func114, Tryz.ntmps114
  go_wp2
  refine bodyPost_ret (v := .agg #[.int .i64 t, .slice p l c]) (by simp [results, Tryz.results114, go_sem]) rfl ⟨bl2 _ _ _, t, rfl, ?_⟩
  exact (H.out.abs HT.out).keep (bl2 _ _ _) (Nat.le_refl _)
end Go.Proofs.YtjjomjjgoceklaaGreat
namespace Go.Proofs.YtjjomjjgoceklaaGreat
set_option maxRecDepth 100000
open Go.RowKit

/-! ## the quotient of the reference: the walk -/
theorem Q7.start {w w1 : World} {ys zs t : Int} {n : Nat} {pa pb : Option Addr} {ca lb cb d : Nat} (k : Below w.heap.size w w1) (a : Bz w.heap.size ys pa n ca w1) (b : Bz (w.heap.size + 1) zs pb lb cb w1) (c : Bz (w.heap.size + 1 + 1) 0 none 0 0 w1) (c2 : Bz (w.heap.size + 1 + 1 + 1) 0 none 0 0 w1)
    (q : w1.rowIs (w.heap.size + 1 + 1 + 1 + 1) 3 n (nf (List.replicate n 0 ++ []))) (hz : RZ w1 (.agg #[.int .i64 t, .slice pb lb cb]) (d : Int)) (hav : Av (w.heap.size + 1 + 1 + 1 + 1) pb lb) (hs : w.heap.size + 1 + 1 + 1 + 1 < w1.heap.size) :
    Q7 w ys zs n pa pb ca lb cb w1.heap.size d 0 (List.replicate n 0 ++ []) ((w1.alloc (.cells #[.int .i64 0, .slice none 0 0] 41)).alloc (.cells #[.int .i64 t, .slice pb lb cb] 41)) := by
  have K : Below w1.heap.size w1 ((w1.alloc (.cells #[.int .i64 0, .slice none 0 0] 41)).alloc (.cells #[.int .i64 t, .slice pb lb cb] 41)) := bl2 _ _ _
  exact ⟨hs, Below.thru k k.size K, blk_keep a K, blk_keep b K, blk_keep c K, blk_keep c2 K, row_keep q K, ⟨_, _, _, _, (bz_new w1 0 none 0 0 rfl).alloc _, ⟨[], _, rfl, ⟨by simp, .inl ⟨rfl, rfl⟩⟩, D4.nil, by simp [Nrm], rfl⟩, Av.nil _ _⟩,
    ⟨_, _, _, _, bz_new (w1.alloc _) t pb lb cb (by simp), hz.keep K (Nat.le_refl _), hav⟩⟩
def D6 (t : Nat) : Bool := Nat.ble 29 t && Nat.ble t 38
/-- digits of a number -/
def kdg (r : Nat) : Kd := .c (fun v w => ∃ gs : List Nat, SlI w v (gs.map fun (x : Nat) => (x : Int)) ∧ D4 gs ∧ Nrm gs ∧ rv gs = r) (fun _ _ _ ⟨gs, h1, h2⟩ hb => ⟨gs, h1.keep hb (Nat.le_refl _), h2⟩)
/-- one group in a new row -/
def kone (W x : Nat) : Kd := .c (fun v w => ∃ T, v = .slice (some ⟨T, 0, none⟩) 1 1 ∧ W ≤ T ∧ w.heap[T]? = some (.cells #[.int .i64 (x : Int)] 3 (0, 0))) (fun _ _ _ ⟨T, h1, h3, h2⟩ hb => ⟨T, h1, h3, blk_keep h2 hb⟩)
def tab6 (S T7 W ba oa n ca i x r : Nat) (d : Nat) : Kd := [kp S 1, .v (.slice (some ⟨ba, oa, none⟩) n ca), ki (i : Int), kp ba (oa + i), ki (x : Int), kone W x, kp T7 1, kdg r].getD (d - 29) .any
def DA10 (t : Nat) : Bool := Nat.ble 47 t && Nat.ble t 52
def tabA10 (d mid r1 : Nat) (b : Bool) (t : Nat) : Kd := [.r (d : Int), ki (mid : Int), .r ((d : Int) * (mid : Int)), .r (r1 : Int), ki (cmpN ((d : Int) * (mid : Int)).natAbs (r1 : Int).natAbs), .v (.bool b)].getD (t - 47) .any
def D5 (t : Nat) : Bool := Nat.beq t 9 || (Nat.ble 27 t && Nat.ble t 28)
def DA14m (t : Nat) : Bool := match t with | 59 => true | 60 => true | 61 => true | 62 => true | 63 => true | _ => false
def tabA14 (d lo r1 B : Nat) (t : Nat) : Kd := [.r (r1 : Int), .r (d : Int), ki (lo : Int), .r ((d : Int) * (lo : Int)), kf ((r1 : Int) - (d : Int) * (lo : Int)) B].getD (t - 59) .any
theorem cmp_le {d m r : Nat} : decide (cmpN ((d : Int) * (m : Int)).natAbs (r : Int).natAbs ≤ 0) = decide (m * d ≤ r) := by
  rw [show ((d : Int) * (m : Int)).natAbs = m * d by rw [← Int.natCast_mul, Int.natAbs_natCast, Nat.mul_comm], Int.natAbs_natCast]
  congr 1
  refine propext ?_
  rcases Nat.lt_trichotomy (m * d) r with h | h | h
  · rw [cmpN_lt h]; exact ⟨fun _ => by omega, fun _ => by decide⟩
  · rw [cmpN_eq h]; exact ⟨fun _ => by omega, fun _ => by decide⟩
  · rw [cmpN_gt h]; exact ⟨fun h2 => absurd h2 (by decide), fun h2 => by omega⟩
theorem front_iv (x : Nat) (gs : List Nat) : (iv ((x :: gs).map fun (x : Nat) => (x : Int))).toNat = x + 10000 * rv gs := by
  rw [iv_cast, Int.toNat_natCast]; rfl
theorem nat_sign {r : Nat} (h : (r : Int) ≠ 0) : (1 : Int) = (r : Int).sign := (Int.sign_eq_one_of_pos (by omega)).symm
/-- the number that the search keeps between -/
def Lo (d r1 lo hi : Nat) : Prop := lo < hi ∧ hi ≤ 10000 ∧ lo * d ≤ r1 ∧ r1 < hi * d
theorem Lo.up {d r1 lo hi mid : Nat} (h : Lo d r1 lo hi) (h1 : mid < hi) (h2 : mid * d ≤ r1) : Lo d r1 mid hi := ⟨h1, h.2.1, h2, h.2.2.2⟩
theorem Lo.dn {d r1 lo hi mid : Nat} (h : Lo d r1 lo hi) (h1 : lo < mid) (h3 : mid ≤ hi) (h2 : ¬ mid * d ≤ r1) : Lo d r1 lo mid := ⟨h1, Nat.le_trans h3 h.2.1, h.2.2.1, by omega⟩
theorem sr_mul {d m r : Nat} (h : Sr (r : Int)) (hm : m * d ≤ r) : Sr ((d : Int) * (m : Int)) := by
  refine Sr.le h ?_
  rw [← Int.natCast_mul, Int.natAbs_natCast, Int.natAbs_natCast, Nat.mul_comm]; exact hm
structure Q8 (w0 : World) (ys zs : Int) (n : Nat) (pa pb : Option Addr) (ca lb cb T7 Tq d : Nat) (q r : Int) (w : World) : Prop where
  lt : w0.heap.size + 1 + 1 + 1 + 1 < T7
  lq : T7 + 1 < Tq
  k : Below w0.heap.size w0 w
  a : Bz w0.heap.size ys pa n ca w
  b : Bz (w0.heap.size + 1) zs pb lb cb w
  c : Bz (w0.heap.size + 1 + 1) 0 none 0 0 w
  c2 : Bz (w0.heap.size + 1 + 1 + 1) 0 none 0 0 w
  r : Hr T7 r w
  e : Hr (T7 + 1) (d : Int) w
  q : Hr Tq q w
section
variable {w0 : World} {ys zs : Int} {n : Nat} {pa pb : Option Addr} {ca lb cb T7 Tq d : Nat} {q r : Int} {w w' : World}
theorem Q8.keep (h : Q8 w0 ys zs n pa pb ca lb cb T7 Tq d q r w) (hb : Below w.heap.size w w') : Q8 w0 ys zs n pa pb ca lb cb T7 Tq d q r w' :=
  ⟨h.lt, h.lq, Below.thru h.k h.k.size hb, blk_keep h.a hb, blk_keep h.b hb, blk_keep h.c hb, blk_keep h.c2 hb, h.r.keep hb, h.e.keep hb, h.q.keep hb⟩
theorem Q8.putR (h : Q8 w0 ys zs n pa pb ca lb cb T7 Tq d q r w) {s : Int} {p : Option Addr} {l c : Nat} {r' : Int} (hz : RZ w (.agg #[.int .i64 s, .slice p l c]) r') : Q8 w0 ys zs n pa pb ca lb cb T7 Tq d q r' (st2 w T7 (.int .i64 s) (.slice p l c)) := by
  obtain ⟨_, _, _, _, hB, _⟩ := h.r
  have hg := grown2 w T7 0 1 (.int .i64 s) (.slice p l c)
  have hl := h.lt; have hq := h.lq
  exact ⟨h.lt, h.lq, below2 h.k (by omega) _ _, blk_other h.a hg (by omega), blk_other h.b hg (by omega), blk_other h.c hg (by omega), blk_other h.c2 hg (by omega), Hr.stored hB hz, h.e.st hB.noI hg (by omega), h.q.st hB.noI hg (by omega)⟩
theorem Q8.putQ (h : Q8 w0 ys zs n pa pb ca lb cb T7 Tq d q r w) {s : Int} {p : Option Addr} {l c : Nat} {q' : Int} (hz : RZ w (.agg #[.int .i64 s, .slice p l c]) q') : Q8 w0 ys zs n pa pb ca lb cb T7 Tq d q' r (st2 w Tq (.int .i64 s) (.slice p l c)) := by
  obtain ⟨_, _, _, _, hB, _⟩ := h.q
  have hg := grown2 w Tq 0 1 (.int .i64 s) (.slice p l c)
  have hl := h.lt; have hq := h.lq
  exact ⟨h.lt, h.lq, below2 h.k (by omega) _ _, blk_other h.a hg (by omega), blk_other h.b hg (by omega), blk_other h.c hg (by omega), blk_other h.c2 hg (by omega), h.r.st hB.noI hg (by omega), h.e.st hB.noI hg (by omega), Hr.stored hB hz⟩
theorem Q7.toQ8 {r' : Nat} {xs : List Nat} {w1 : World} (h : Q7 w0 ys zs n pa pb ca lb cb T7 d r' xs w) (hb : Below w.heap.size w w1) {s : Int} {p : Option Addr} {l c : Nat} (hz : RZ w1 (.agg #[.int .i64 s, .slice p l c]) q) :
    Q8 w0 ys zs n pa pb ca lb cb T7 w1.heap.size d q (r' : Int) (w1.alloc (.cells #[.int .i64 s, .slice p l c] 41)) := by
  have hk := h.size
  have h := h.keep (hb.trans ((bl1 w1 (.cells #[.int .i64 s, .slice p l c] 41)).mono hb.size))
  exact ⟨h.lt, Nat.lt_of_lt_of_le hk hb.size, h.k, h.a, h.b, h.c, h.c2, h.r.hr, h.e.hr, Hr.new hz⟩
end
theorem eu_uniq {y z q r : Int} (h : y = z * q + r) (h0 : 0 ≤ r) (h1 : r < z.natAbs) : y / z = q ∧ y % z = r := by
  rcases Int.lt_trichotomy z 0 with hz | hz | hz
  · have h2 := (Int.ediv_emod_unique (a := y) (b := -z) (q := -q) (r := r) (by omega)).2 ⟨by rw [Int.neg_mul_neg, h, Int.add_comm], h0, by omega⟩
    rw [Int.ediv_neg, Int.emod_neg] at h2
    omega
  · subst hz; simp at h1; omega
  · exact (Int.ediv_emod_unique hz).2 ⟨by rw [h, Int.add_comm], h0, by omega⟩
/-- the quotient and the rest, made good -/
def qB (ys : Int) (r : Nat) : Bool := decide (ys < 0) && decide (r ≠ 0)
def q2 (b : Bool) (q : Int) : Int := if b = true then q - 1 else q
def r2 (b : Bool) (d r : Nat) : Int := if b = true then (d : Int) - (r : Int) else (r : Int)
def q3 (zs q : Int) : Int := if zs < 0 then -q else q
theorem q_end {y z : Int} {Q d r : Nat} (hd : d = z.natAbs) (h : y.natAbs = Q * d + r) (hr : r < d) : y / z = q3 z.sign (q2 (qB y.sign r) (y.sign * Q)) ∧ y % z = r2 (qB y.sign r) d r := by
  obtain ⟨P, hP⟩ : ∃ P : Int, P = (d : Int) * (Q : Int) := ⟨_, rfl⟩
  have hy : (y.natAbs : Int) = P + r := by rw [h, hP, Int.natCast_add, Int.natCast_mul, Int.mul_comm]
  have hP0 : 0 ≤ P := by rw [hP]; exact Int.mul_nonneg (by omega) (by omega)
  have key : ∀ q r' : Int, y = (d : Int) * q + r' → 0 ≤ r' → r' < d → y / z = q3 z.sign q ∧ y % z = r' := by
    intro q r' e h0 h1
    refine eu_uniq ?_ h0 (by omega)
    unfold q3
    split
    · rename_i hs
      have : z < 0 := Int.sign_neg_iff.1 hs
      rw [show z = -(d : Int) by omega, Int.neg_mul_neg]; exact e
    · rename_i hs
      have : ¬ z < 0 := fun h => hs (Int.sign_neg_iff.2 h)
      rw [show z = (d : Int) by omega]; exact e
  rcases Int.lt_trichotomy y 0 with hy0 | hy0 | hy0
  · rw [Int.sign_eq_neg_one_of_neg hy0]
    by_cases h0 : r = 0
    · have hb : qB (-1) r = false := by unfold qB; simp [h0]
      rw [hb]
      refine key _ _ ?_ (by simp [r2]) (by simp [r2]; omega)
      have e1 : (d : Int) * (-1 * (Q : Int)) = -P := by rw [Int.neg_one_mul, Int.mul_neg, hP]
      simp only [q2, r2, Bool.false_eq_true, if_false, e1]
      omega
    · have hb : qB (-1) r = true := by unfold qB; simp [h0]
      rw [hb]
      refine key _ _ ?_ (by simp [r2]; omega) (by simp [r2]; omega)
      have e1 : (d : Int) * (-1 * (Q : Int) - 1) = -P - d := by rw [Int.neg_one_mul, Int.mul_sub, Int.mul_neg, hP, Int.mul_one]
      simp only [q2, r2, if_true, e1]
      omega
  · subst hy0
    have hb : qB (0 : Int).sign r = false := by unfold qB; simp
    rw [hb]
    refine key _ _ ?_ (by simp [r2]) (by simp [r2]; omega)
    simp [q2, r2] at *
    omega
  · rw [Int.sign_eq_one_of_pos hy0]
    have hb : qB 1 r = false := by unfold qB; simp
    rw [hb]
    refine key _ _ ?_ (by simp [r2]) (by simp [r2]; omega)
    simp only [q2, r2, Bool.false_eq_true, if_false, Int.one_mul]
    rw [← hP]
    omega
def PZQ (y z : Int) (w : World) (e : Ending) (w' : World) : Prop := Below w.heap.size w w' ∧ ∃ v1 v2, e = .returned (.tuple #[v1, v2]) ∧ RZ w' v1 (y / z) ∧ RZ w' v2 (y % z)
def D17q (t : Nat) : Bool := Nat.ble 76 t && Nat.ble t 78
def tab17q (q : Int) (t : Nat) : Kd := [.r q, .r 1, .r (q - 1)].getD (t - 76) .any
def D21 (t : Nat) : Bool := Nat.ble 87 t && Nat.ble t 88
def tab21 (q r : Int) (t : Nat) : Kd := [.r q, .r r].getD (t - 87) .any
theorem tab21_st {q r : Int} {w w' : World} {T : Nat} (hT : NoI w T) (hg : w.grownBy w' (some T)) (t : Nat) (v : Value) (h : kd (tab21 q r t) v w) : kd (tab21 q r t) v w' := by
  unfold tab21 at *
  generalize t - 87 = j at *
  match j with
  | 0 => exact RZ.store h hT hg
  | 1 => exact RZ.store h hT hg
  | j + 2 => trivial
theorem PRZ.box {w : World} {v : Value} {z : Int} (h : RZ w v z) : ∃ (s : Int) (p : Option Addr) (l c : Nat), v = .agg #[.int .i64 s, .slice p l c] ∧ RZ w (.agg #[.int .i64 s, .slice p l c]) z := by
  obtain ⟨p, l, c, rfl⟩ := h.agg; exact ⟨_, p, l, c, rfl, h⟩
set_option maxRecDepth 100000 in
set_option maxHeartbeats 3200000 in
theorem zquotient_any (va vb : Value) (y z : Int) (w : World) (ha : RZ w va y) (hb : RZ w vb z) (sy : Sr y) (sz : Sr z) (hz0 : z ≠ 0) : Calls Tryz.prog 104 #[va, vb] w (PZQ y z w) := by
  obtain ⟨a, pa, ca, rfl, _, hca, hma, da, na, ra, hga⟩ := ha.opened
  obtain ⟨b, pb, cb, rfl, _, hcb, hmb, _, nb, rb, hgb⟩ := hb.opened
  have la := sy.len na ra
  have lb := sz.len nb rb
  have HB := Lib.hid hb
  obtain ⟨ys, hys⟩ : ∃ s, s = y.sign := ⟨_, rfl⟩
  obtain ⟨zs, hzs⟩ : ∃ s, s = z.sign := ⟨_, rfl⟩
  rw [← hys] at ha ⊢
  rw [← hzs] at hb HB ⊢
  obtain ⟨d, hd⟩ : ∃ d, d = z.natAbs := ⟨_, rfl⟩
  have hd0 : 0 < d := by omega
  obtain ⟨n, hn⟩ : ∃ n, n = a.length := ⟨_, rfl⟩
  obtain ⟨lb', hlb⟩ : ∃ n, n = b.length := ⟨_, rfl⟩
  have hav : Av (w.heap.size + 1 + 1 + 1 + 1) pb lb' := fun h0 bb oo e => by
    obtain ⟨b1, o1, e1, h1, _⟩ := hgb 0 (by omega)
    rw [e] at e1
    cases e1
    omega
  have SD : Hid (Sr (d : Int)) := sz.ofN (by omega)
  rw [← hn] at ha la hca hga ⊢
  rw [← hlb] at HB lb hcb ⊢
  have hmk := mk30 n (by omega)
  have SY := Lib.hid sy; have SZ := Lib.hid sz
  have HN := Lib.hid hn; have HYS := Lib.hid hys; have HZS := Lib.hid hzs; have HDD := Lib.hid hd; have HD0 := Lib.hid hd0
  have DA := Lib.hid da; have RA := Lib.hid ra; have HGA := Lib.hid hga; have AV := Lib.hid hav
  clear ha hb sy sz hz0 na ra hga nb rb hgb da hav hn hys hzs hd hlb hd0 hcb hmb
  go_enter Tryz.func104, Tryz.ntmps104
  go_wp2_with fail
  generalize hW : (((((w.alloc (.cells #[.int .i64 ys, .slice pa n ca] 41)).alloc (.cells #[.int .i64 zs, .slice pb lb' cb] 41)).alloc (.cells #[.int .i64 0, .slice none 0 0] 41)).alloc (.cells #[.int .i64 0, .slice none 0 0] 41)).alloc (.cells (madeCells #[.int .i64 0] n) 3)) = w2
  have X0 : Bz w.heap.size ys pa n ca w2 := by rw [← hW]; exact ((((bz_new w _ _ _ _ rfl).alloc _).alloc _).alloc _).alloc _
  have X1 : Bz (w.heap.size + 1) zs pb lb' cb w2 := by rw [← hW]; exact (((bz_new (w.alloc _) _ _ _ _ (by simp)).alloc _).alloc _).alloc _
  have X2 : Bz (w.heap.size + 1 + 1) 0 none 0 0 w2 := by rw [← hW]; exact ((bz_new ((w.alloc _).alloc _) _ _ _ _ (by simp)).alloc _).alloc _
  have X3 : Bz (w.heap.size + 1 + 1 + 1) 0 none 0 0 w2 := by rw [← hW]; exact (bz_new (((w.alloc _).alloc _).alloc _) _ _ _ _ (by simp)).alloc _
  have k2 : Below w.heap.size w w2 := by rw [← hW]; exact ((bl3 _ _ _ _).alloc (by simp; omega) _).alloc (by simp; omega) _
  have row : w2.rowIs (w.heap.size + 1 + 1 + 1 + 1) 3 n (nf (List.replicate n 0 ++ [])) := by
    rw [← hW]
    have h := World.rowIs_made ((((w.alloc (.cells #[.int .i64 ys, .slice pa n ca] 41)).alloc (.cells #[.int .i64 zs, .slice pb lb' cb] 41)).alloc (.cells #[.int .i64 0, .slice none 0 0] 41)).alloc (.cells #[.int .i64 0, .slice none 0 0] 41)) (.int .i64 0) n 3
    simp only [World.size_alloc] at h
    refine h.congr fun j hj => ?_
    unfold nf
    rw [List.append_nil, List.getD_eq_getElem?_getD, List.getElem?_replicate]
    split <;> rfl
  have hsz2 : w.heap.size + 1 + 1 + 1 + 1 < w2.heap.size := by rw [← hW]; simp
  have X0 := Lib.hid X0; have X1 := Lib.hid X1; have X2 := Lib.hid X2; have X3 := Lib.hid X3; have K2 := Lib.hid k2; have ROW := Lib.hid row
  clear hW k2 row hmk
  refine (zabsr_at z zs pb lb' cb _ (HB.out.keep K2.out (Nat.le_refl _)) HZS.out).mono ?_
  rintro e w1 ⟨hb1, t, rfl, hz1⟩
  rw [show (z.natAbs : Int) = (d : Int) by rw [HDD.out]] at hz1
  have Q0 := Lib.hid (Q7.start (Below.thru K2.out K2.out.size hb1) (blk_keep X0.out hb1) (blk_keep X1.out hb1) (blk_keep X2.out hb1) (blk_keep X3.out hb1) (row_keep ROW.out hb1) hz1 AV.out (Nat.lt_of_lt_of_le hsz2 hb1.size))
  clear hb1 hz1 X0 X1 X2 X3 ROW K2
  go_upto_region 3 with fail
  generalize hW3 : (w1.alloc (.cells #[.int .i64 0, .slice none 0 0] 41)).alloc (.cells #[.int .i64 t, .slice pb lb' cb] 41) = w3 at *
  clear hW3
  obtain ⟨T7, hT7⟩ : ∃ T, T = w1.heap.size := ⟨_, rfl⟩
  rw [← hT7] at Q0 ⊢
  clear hT7 hsz2
  obtain ⟨q1, q2, q3, q4⟩ := Q0.out.a.cells
  have ZQ0 : Hid (Zq a d n [] 0) := by have := Zq.zero a (d := d) HD0.out; rw [← HN.out] at this; exact this
  go_wp2
  go_loopw [9] (fun iv wr => ∃ (k r : Nat) (tail : List Nat), iv = .int .i64 ((k : Int) - 1) ∧ Hid (Q7 w ys zs n pa pb ca lb' cb T7 d r (List.replicate k 0 ++ tail) wr) ∧ Hid (Zq a d k tail r)) (fun iv _ => (intOf iv + 1).toNat)
  case atStart => exact ⟨n, 0, [], by go_num, Q0, ZQ0⟩
  case round =>
    obtain ⟨k, r, tail, rfl, QW, ZQ⟩ := hrel
    clear q1 q2 q3 q4 Q0 ZQ0
    have hkn : k ≤ n := by have := ZQ.out.1; have := HN.out; omega
    cases k with
    | zero =>
      obtain ⟨hz1, hz2, hz3, hz4⟩ := ZQ.out
      rw [List.drop_zero, RA.out] at hz3
      have HZ3 := Lib.hid hz3
      have HZ4 := Lib.hid hz4
      have hqy : rv tail ≤ y.natAbs := by
        rw [hz3]
        have := Nat.le_mul_of_pos_right (rv tail) HD0.out
        omega
      have SQ : Hid (Sr (ys * (rv tail : Int))) := by
        refine Sr.le SY.out ?_
        rw [Int.natAbs_mul, Int.natAbs_natCast, HYS.out]
        have : y.sign.natAbs ≤ 1 := by
          rcases Int.lt_trichotomy y 0 with h | h | h
          · rw [Int.sign_eq_neg_one_of_neg h]; decide
          · subst h; decide
          · rw [Int.sign_eq_one_of_pos h]; decide
        have := Nat.mul_le_mul_right (rv tail) this
        omega
      have SRr : Hid (Sr (r : Int)) := SZ.out.ofN (by have := HDD.out; omega)
      have HQS : Hid ((rv tail) = (ys * (rv tail : Int)).natAbs ∧ (ys * (rv tail : Int) ≠ 0 → ys = (ys * (rv tail : Int)).sign)) := by
        rw [HYS.out]
        rcases Int.lt_trichotomy y 0 with h | h | h
        · rw [Int.sign_eq_neg_one_of_neg h]; exact ⟨by rw [Int.neg_one_mul, Int.natAbs_neg, Int.natAbs_natCast], fun h => (Int.sign_eq_neg_one_of_neg (by omega)).symm⟩
        · subst h
          have : rv tail = 0 := by simp at hqy; exact hqy
          rw [this]; exact ⟨rfl, fun h => absurd rfl h⟩
        · rw [Int.sign_eq_one_of_pos h]; exact ⟨by rw [Int.one_mul, Int.natAbs_natCast], fun h => (Int.sign_eq_one_of_pos (by omega)).symm⟩
      have D4T := Lib.hid hz2
      have hlt : tail.length = n := by have := HN.out; omega
      have HLT := Lib.hid hlt
      have SLQ := Lib.hid (SlI.of_rowN QW.out.q (by simpa using hlt) (by omega))
      obtain ⟨q1, q2, q3, q4⟩ := QW.out.a.cells
      clear hz1 hz2 hz3 hz4 hqy hlt
      go_wp2_with fail
      refine (made_fr ys _ _ wr SLQ.out (fun j => cast_bd D4T.out j) (by rw [iv_cast]; omega) (by have := HLT.out; simp; omega)).mono ?_
      rintro e w4 ⟨hb4, v4, rfl, h4, _⟩
      rw [iv_cast, Int.toNat_natCast, show List.replicate 0 0 ++ tail = tail from rfl, HQS.out.1] at h4
      obtain ⟨sq, p4, l4, c4, rfl, h5⟩ := PRZ.box (h4.toZ HQS.out.2)
      generalize hqq : ys * (rv tail : Int) = qv at *
      have HQV := Lib.hid hqq
      have E8 := Lib.hid (QW.out.toQ8 hb4 h5)
      clear hb4 h4 h5 hqq q1 q2 q3 q4 SLQ QW
      go_upto_region 16 with fail
      generalize hW4 : w4.alloc (.cells #[.int .i64 sq, .slice p4 l4 c4] 41) = w5 at *
      obtain ⟨Tq, hTq⟩ : ∃ T, T = w4.heap.size := ⟨_, rfl⟩
      rw [← hTq] at E8 ⊢
      clear hW4 hTq
      obtain ⟨cb1, hcb1⟩ : ∃ b, b = qB ys r := ⟨_, rfl⟩
      have HCB := Lib.hid hcb1
      go_cut [75] (fun v wc => v = .bool cb1 ∧ Q8 w ys zs n pa pb ca lb' cb T7 Tq d qv (r : Int) wc)
      case first =>
        obtain ⟨a1, a2, a3, a4⟩ := E8.out.a.cells
        have r1 := E8.out.r.sgn.1
        rcases Int.lt_trichotomy ys 0 with hy | hy | hy
        · by_cases h0 : r = 0
          · have hs : ((r : Int).sign != 0) = false := by rw [h0]; rfl
            have hcb : cb1 = false := by rw [hcb1]; unfold qB; simp [h0]
            generalize (r : Int).sign = sr at *
            clear hcb1 h0
            go_wp2
            go_meet
            case rel => exact ⟨by rw [hcb], E8.out⟩
          · have hs : ((r : Int).sign != 0) = true := by rw [Int.sign_eq_one_of_pos (by omega)]; rfl
            have hcb : cb1 = true := by rw [hcb1]; unfold qB; simp [h0, hy]
            generalize (r : Int).sign = sr at *
            clear hcb1 h0
            go_wp2
            go_meet
            case rel => exact ⟨by rw [hcb], E8.out⟩
        all_goals
          have hy' : ¬ ys < 0 := by omega
          have hcb : cb1 = false := by rw [hcb1]; unfold qB; simp [hy']
          clear hcb1 hy
          go_wp2
          go_meet
          case rel => exact ⟨by rw [hcb], E8.out⟩
      case rest =>
        obtain ⟨rfl, e8⟩ := hcut
        have E8 := Lib.hid e8
        clear e8 hcb1
        go_upto_if 75 with fail
        go_cut [] (fun wc => Q8 w ys zs n pa pb ca lb' cb T7 Tq d (q2 cb1 qv) (r2 cb1 d r) wc)
        case first =>
          cases cb1 with
          | false =>
            go_wp2
            go_meet
            case rel => exact E8.out
          | true =>
            go_upto_region 17 with fail
            go_cut [] (fun wc => Q8 w ys zs n pa pb ca lb' cb T7 Tq d (qv - 1) (r : Int) wc)
            case first =>
              rename_i J K' hJ hK
              refine wp_region_two D17q (tab17q qv) (fun w' => Q8 w ys zs n pa pb ca lb' cb T7 Tq d qv (r : Int) w') 3 (fun _ _ w' => Q8 w ys zs n pa pb ca lb' cb T7 Tq d (qv - 1) (r : Int) w') (by kernel_rfl) (by kernel_rfl) (by kernel_rfl) (by kernel_rfl) (by decide) (by kernel_rfl) (fun _ _ h hb => h.keep hb) (E8.out.keep (Below.refl _ _).drew) ?_ ?_ ?_
              · refine .cons (fun f w' hI hs => ?_) ?_
                · obtain ⟨s, p, l, c, h1, h2⟩ := hI.q
                  exact ⟨wanted_none rfl, _, rfl, .val (rn_load32 rfl (fr_old rfl rfl) h1) ⟨Below.refl _ _, h2⟩⟩
                refine .cons (fun f w' hI hs => ⟨wanted_none rfl, _, rfl, .inr (.inr ⟨100, _, rn_call1 rfl rfl cf100, PRZ.kd (zint_any 1 _ (by decide))⟩)⟩) ?_
                exact .cons (fun f w' hI hs => ⟨wanted_none rfl, _, rfl, .call2 rfl cf128 rfl rfl rfl rfl (PRZ.kd (zsubr_any _ _ qv 1 _ (hs 76 (by kernel_rfl)) (hs 77 (by kernel_rfl)) SQ.out ⟨1, by omega, by decide⟩))⟩) .nil
              · refine .cons (fun f w' h => ⟨wanted_none rfl, ?_⟩) .nil
                obtain ⟨hI, hs⟩ := (if_pos rfl) ▸ h
                have hz : RZ w' (f 78) (qv - 1) := hs 78 (by kernel_rfl)
                obtain ⟨p, l, c, e⟩ := hz.agg
                rw [e] at hz
                obtain ⟨_, _, _, _, hB, _⟩ := hI.q
                exact .skip (rn_store32 rfl (fr_old rfl rfl) ((fr_own rfl rfl).trans e) hB) (hI.putQ hz)
              · intro f w' h
                refine hK _ _ (Met.intro (hJ _ _ ?_))
                (repeat apply Exists.intro)
                refine ⟨?_, rfl⟩
                exact h
            case rest =>
              rename_i wx
              obtain ⟨s7, p7, l7, c7, f1, f2⟩ := hcut.r
              obtain ⟨s8, p8, l8, c8, f3, f4⟩ := hcut.e
              have F2 := Lib.hid f2; have F4 := Lib.hid f4
              have E9 := Lib.hid hcut
              obtain ⟨g1, g2, g3, g4⟩ := f1.cells
              obtain ⟨g5, g6, g7, g8⟩ := f3.cells
              clear hcut f1 f2 f3 f4 E8
              go_wp2_with fail
              refine (zsubr_any _ _ (d : Int) (r : Int) _ F4.out F2.out SD.out SRr.out).mono ?_
              rintro e w7 ⟨hb7, v7, rfl, h7⟩
              obtain ⟨s9, p9, l9, c9, rfl, h9⟩ := PRZ.box h7
              have E10 := E9.out.keep hb7
              obtain ⟨_, _, _, _, k1, _⟩ := E10.r
              obtain ⟨k2, k3, k4, k5⟩ := k1.cells
              have E11 := Lib.hid (E10.putR h9)
              clear E10 k1 h7 h9 hb7 g1 g2 g3 g4 g5 g6 g7 g8
              go_wp2
              go_meet
              case rel => exact E11.out
        case rest =>
          have E12 := Lib.hid hcut
          clear hcut E8
          obtain ⟨m1, m2, m3, m4⟩ := E12.out.b.cells
          go_upto_if 84 with fail
          clear m1 m2 m3 m4
          go_cut [] (fun wc => Q8 w ys zs n pa pb ca lb' cb T7 Tq d (q3 zs (q2 cb1 qv)) (r2 cb1 d r) wc)
          case first =>
            obtain ⟨s7, p7, l7, c7, f1, f2⟩ := E12.out.q
            obtain ⟨g1, g2, g3, g4⟩ := f1.cells
            have F2 := Lib.hid f2
            clear f1 f2
            by_cases hs : zs < 0
            · have HS := Lib.hid hs
              go_wp2_with fail
              refine (znegr_any _ (q2 cb1 qv) _ F2.out).mono ?_
              rintro e w7 ⟨hb7, v7, rfl, h7⟩
              obtain ⟨s9, p9, l9, c9, rfl, h9⟩ := PRZ.box h7
              have E10 := E12.out.keep hb7
              obtain ⟨_, _, _, _, k1, _⟩ := E10.q
              obtain ⟨k2, k3, k4, k5⟩ := k1.cells
              have E11 := Lib.hid (E10.putQ h9)
              clear E10 k1 h7 h9 hb7 g1 g2 g3 g4
              go_wp2
              go_meet
              case rel => unfold q3; rw [if_pos HS.out]; exact E11.out
            · have HS := Lib.hid hs
              go_wp2
              go_meet
              case rel => unfold q3; rw [if_neg (by have := HS.out; omega)]; exact E12.out
          case rest =>
            have E13 := Lib.hid hcut
            clear hcut E12
            obtain ⟨qe, re⟩ := q_end (y := y) (z := z) HDD.out HZ3.out HZ4.out
            rw [← HYS.out, ← HZS.out, ← HCB.out, HQV.out] at qe
            rw [← HYS.out, ← HCB.out] at re
            have QE := Lib.hid qe; have RE := Lib.hid re
            clear qe re
            generalize q3 zs (q2 cb1 qv) = qf at *
            generalize r2 cb1 d r = rf at *
            go_upto_region 21 with fail
            go_cut [] (fun wc => Below w.heap.size w wc ∧ Hr (w.heap.size + 1 + 1) qf wc ∧ Hr (w.heap.size + 1 + 1 + 1) rf wc)
            case first =>
              rename_i J K' hJ hK
              refine wp_region_flt D21 (tab21 qf rf) 2 (fun s w' => Below w.heap.size w w' ∧ T7 + 1 < Tq ∧ w.heap.size + 1 + 1 + 1 + 1 < T7 ∧ Hr T7 rf w' ∧ Hr Tq qf w' ∧ (∃ s p l c, Bz (w.heap.size + 1 + 1) s p l c w') ∧ (∃ s p l c, Bz (w.heap.size + 1 + 1 + 1) s p l c w') ∧ (3 ≤ s → Hr (w.heap.size + 1 + 1) qf w') ∧ (4 ≤ s → Hr (w.heap.size + 1 + 1 + 1) rf w')) (by kernel_rfl) (by kernel_rfl) (by kernel_rfl) (by kernel_rfl) (by decide) (by kernel_rfl) (fun _ _ _ ⟨h1, h2, h3, h4, h5, ⟨s1, p1, l1, c1, h6⟩, ⟨s2, p2, l2, c2, h7⟩, h8, h9⟩ hb => ⟨Below.thru h1 h1.size hb, h2, h3, h4.keep hb, h5.keep hb, ⟨_, _, _, _, blk_keep h6 hb⟩, ⟨_, _, _, _, blk_keep h7 hb⟩, fun h => (h8 h).keep hb, fun h => (h9 h).keep hb⟩) (by
                have E := E13.out.keep (Below.refl _ _).drew
                exact ⟨E.k, E.lq, E.lt, E.r, E.q, ⟨_, _, _, _, E.c⟩, ⟨_, _, _, _, E.c2⟩, fun h => by omega, fun h => by omega⟩) ?_ ?_ ?_
              · refine .cons (fun s f w' hI hs => ?_) ?_
                · obtain ⟨s, p, l, c, h1, h2⟩ := hI.2.2.2.2.1
                  exact ⟨wanted_none rfl, _, rfl, .val (rn_load32 rfl (fr_old rfl rfl) h1) ⟨Below.refl _ _, h2⟩⟩
                refine .cons (fun s f w' hI hs => ?_) .nil
                obtain ⟨s, p, l, c, h1, h2⟩ := hI.2.2.2.1
                exact ⟨wanted_none rfl, _, rfl, .val (rn_load32 rfl (fr_old rfl rfl) h1) ⟨Below.refl _ _, h2⟩⟩
              · refine .cons (fun f w' hI hs => ⟨wanted_none rfl, rfl, ?_⟩) ?_
                · have hz : RZ w' (f 87) qf := hs 87 (by kernel_rfl)
                  obtain ⟨p, l, c, e⟩ := hz.agg
                  rw [e] at hz
                  obtain ⟨h1, h2, h3, h4, h5, ⟨s1, p1, l1, c1, h6⟩, ⟨s2, p2, l2, c2, h7⟩, _, _⟩ := hI
                  have hg : w'.grownBy (st2 w' (w.heap.size + 1 + 1) (.int .i64 qf.sign) (.slice p l c)) (some (w.heap.size + 1 + 1)) := grown2 _ _ _ _ _ _
                  exact .skip (rn_store32 rfl (fr_old rfl rfl) ((fr_own rfl rfl).trans e) h6) ⟨⟨below2 h1 (by omega) _ _, h2, h3, h4.st h6.noI hg (by omega), h5.st h6.noI hg (by omega), ⟨_, _, _, _, h6.set _ _ _ _⟩, ⟨_, _, _, _, blk_other h7 hg (by omega)⟩, fun _ => Hr.stored h6 hz, fun h => by omega⟩, tab21_st h6.noI hg⟩
                refine .cons (fun f w' hI hs => ⟨wanted_none rfl, rfl, ?_⟩) .nil
                have hz : RZ w' (f 88) rf := hs 88 (by kernel_rfl)
                obtain ⟨p, l, c, e⟩ := hz.agg
                rw [e] at hz
                obtain ⟨h1, h2, h3, h4, h5, ⟨s1, p1, l1, c1, h6⟩, ⟨s2, p2, l2, c2, h7⟩, h8, _⟩ := hI
                have hg : w'.grownBy (st2 w' (w.heap.size + 1 + 1 + 1) (.int .i64 rf.sign) (.slice p l c)) (some (w.heap.size + 1 + 1 + 1)) := grown2 _ _ _ _ _ _
                exact .skip (rn_store32 rfl (fr_old rfl rfl) ((fr_own rfl rfl).trans e) h7) ⟨⟨below2 h1 (by omega) _ _, h2, h3, h4.st h7.noI hg (by omega), h5.st h7.noI hg (by omega), ⟨_, _, _, _, blk_other h6 hg (by omega)⟩, ⟨_, _, _, _, h7.set _ _ _ _⟩, fun _ => (h8 (by decide)).st h7.noI hg (by omega), fun _ => Hr.stored h7 hz⟩, tab21_st h7.noI hg⟩
              · intro f w' h _
                refine hK _ _ (Met.intro (hJ _ _ ?_))
                (repeat apply Exists.intro)
                refine ⟨?_, rfl⟩
                exact ⟨h.1, h.2.2.2.2.2.2.2.1 (by decide), h.2.2.2.2.2.2.2.2 (by decide)⟩
            case rest =>
              obtain ⟨kf, ⟨s1, p1, l1, c1, h1, h2⟩, ⟨s2, p2, l2, c2, h3, h4⟩⟩ := hcut
              obtain ⟨g4, g5, _, _⟩ := h1.cells
              obtain ⟨g6, g7, _, _⟩ := h3.cells
              have KF := Lib.hid kf
              have V1 := Lib.hid h2; have V2 := Lib.hid h4
              clear h1 h2 h3 h4 kf E13
              go_wp2
              exact bodyPost_ret (v := .tuple #[.agg #[.int .i64 s1, .slice p1 l1 c1], .agg #[.int .i64 s2, .slice p2 l2 c2]]) (by simp [results, Tryz.results104, go_sem, g4, g5, g6, g7]) rfl ⟨KF.out, _, _, rfl, by rw [QE.out]; exact V1.out, by rw [RE.out]; exact V2.out⟩
    | succ i =>
      have ei : ((i + 1 : Nat) : Int) - 1 = (i : Int) := by omega
      rw [ei]
      have hin : i < n := by omega
      obtain ⟨ba, oa, rfl, hba, hca'⟩ := HGA.out i hin
      have HCA := Lib.hid hca'
      obtain ⟨r1, hr1⟩ : ∃ r1, r1 = dn1 a i r := ⟨_, rfl⟩
      have HR1 := Lib.hid hr1
      have ZD := ZQ.out.down DA.out
      rw [← hr1] at ZD
      have SR1 : Hid (Sr (r1 : Int)) := SY.out.ofN (by have := RA.out; omega)
      have SRR : Hid (Sr (r : Int)) := SY.out.ofN (by have := RA.out; have := HR1.out; unfold dn1 at this; omega)
      have L0 : Hid (Lo d r1 0 10000) := ⟨by omega, by omega, by omega, ZD.1⟩
      have hi0 : (0 : Int) ≤ (i : Int) := by omega
      clear hr1 ZD hca'
      go_upto_region 6 with fail
      go_cut [] (fun wc => Q7 w ys zs n (some ⟨ba, oa, none⟩) pb ca lb' cb T7 d r1 (List.replicate (i + 1) 0 ++ tail) wc)
      case first =>
        rename_i J K' hJ hK
        refine wp_region_two D6 (tab6 w.heap.size T7 wr.heap.size ba oa n ca i (a.getD i 0) r) (fun w' => Below wr.heap.size wr w') 8 (fun j f w' => match j with
              | 9 => Below wr.heap.size wr w' ∧ ∃ gs : List Nat, SlI w' (f 37) ((a.getD i 0 :: gs).map fun (x : Nat) => (x : Int)) ∧ D4 gs ∧ gs.length ≤ 1000 ∧ rv gs = r
              | 10 => Below wr.heap.size wr w' ∧ RZ w' (f 38) (r1 : Int) ∧ Fr (w.heap.size + 1 + 1 + 1 + 1 + 1) (f 38)
              | _ => Q7 w ys zs n (some ⟨ba, oa, none⟩) pb ca lb' cb T7 d r1 (List.replicate (i + 1) 0 ++ tail) w') (by kernel_rfl) (by kernel_rfl) (by kernel_rfl) (by kernel_rfl) (by decide) (by kernel_rfl) (fun _ _ h hb => Below.thru h h.size hb) (Below.refl _ _).drew ?_ ?_ ?_
        · refine .cons (fun f w' hI hs => ⟨wanted_none rfl, _, rfl, .val (rn_field32_1 rfl (fr_old rfl rfl)) ⟨Below.refl _ _, rfl⟩⟩) ?_
          refine .cons (fun f w' hI hs => ⟨wanted_none rfl, _, rfl, .val (rn_load30 rfl ((fr_own rfl rfl).trans (hs 29 (by kernel_rfl))) (QW.out.keep hI).a.cells.2.1) ⟨Below.refl _ _, rfl⟩⟩) ?_
          refine .cons (fun f w' hI hs => ⟨wanted_none rfl, _, rfl, .val (rn_move rfl) ⟨Below.refl _ _, fr_old rfl rfl⟩⟩) ?_
          refine .cons (fun f w' hI hs => ⟨wanted_none rfl, _, rfl, .val (rn_idx30 rfl ((fr_own rfl rfl).trans (hs 30 (by kernel_rfl))) ((fr_own rfl rfl).trans (hs 31 (by kernel_rfl))) hin) ⟨Below.refl _ _, rfl⟩⟩) ?_
          refine .cons (fun f w' hI hs => ⟨wanted_none rfl, _, rfl, .val (rn_load3 rfl ((fr_own rfl rfl).trans (hs 32 (by kernel_rfl))) (((QW.out.keep hI).k.cell (p := ⟨ba, oa + i, none⟩) hba).trans HCA.out)) ⟨Below.refl _ _, rfl⟩⟩) ?_
          refine .cons (fun f w' hI hs => ⟨wanted_none rfl, _, rfl, .val (rn_build30 rfl ((fr_own rfl rfl).trans (hs 33 (by kernel_rfl)))) ⟨bl1 _ _, _, rfl, hI.size, Go.Deep.blk_alloc_new _ _⟩⟩) ?_
          refine .cons (fun f w' hI hs => ⟨wanted_none rfl, _, rfl, .val (rn_field32_1 rfl (fr_old rfl rfl)) ⟨Below.refl _ _, rfl⟩⟩) ?_
          refine .cons (fun f w' hI hs => ?_) .nil
          obtain ⟨s, p, l, c, h1, ⟨gs, sl, e, h2, h3, h4, h5⟩, _⟩ := (QW.out.keep hI).r
          simp only [Value.agg.injEq, Array.mk.injEq, List.cons.injEq, and_true] at e
          obtain ⟨_, rfl⟩ := e
          exact ⟨wanted_none rfl, _, rfl, .val (rn_load30 rfl ((fr_own rfl rfl).trans (hs 35 (by kernel_rfl))) h1.cells.2.1) ⟨Below.refl _ _, gs, h2, h3, h4, by rw [h5, Int.natAbs_natCast]⟩⟩
        · refine .cons (fun f w' h => ⟨wanted_none rfl, ?_⟩) ?_
          · obtain ⟨hI, hs⟩ := (if_pos rfl) ▸ h
            obtain ⟨T, hT, hTW, hTh⟩ : ∃ T, f 34 = .slice (some ⟨T, 0, none⟩) 1 1 ∧ wr.heap.size ≤ T ∧ w'.heap[T]? = some (.cells #[.int .i64 ((a.getD i 0 : Nat) : Int)] 3 (0, 0)) := hs 34 (by kernel_rfl)
            obtain ⟨gs, hsl, hd4, hnr, hrv⟩ : ∃ gs : List Nat, SlI w' (f 36) (gs.map fun (x : Nat) => (x : Int)) ∧ D4 gs ∧ Nrm gs ∧ rv gs = r := hs 36 (by kernel_rfl)
            have hgl : gs.length ≤ 1000 := Nat.le_trans (SRR.out.len hnr (by rw [hrv, Int.natAbs_natCast])) (by omega)
            refine front_op rfl ((fr_own rfl rfl).trans hT) hTh (fr_own rfl rfl) hsl hgl ?_
            intro v' w1 h3 h4
            exact ⟨hI.grown h4 hI.size (fun j e => by cases e; exact hTW), gs, by simpa [updo, upd] using h3, hd4, hgl, hrv⟩
          refine .cons (fun f w' h => ⟨wanted_none rfl, ?_⟩) ?_
          · obtain ⟨hI, gs, hsl, hd4, hgl, hrv⟩ : Below wr.heap.size wr w' ∧ ∃ gs : List Nat, SlI w' (f 37) ((a.getD i 0 :: gs).map fun (x : Nat) => (x : Int)) ∧ D4 gs ∧ gs.length ≤ 1000 ∧ rv gs = r := h
            refine .inr (.inr ⟨94, _, rn_call2 rfl rfl cf94, ?_⟩)
            rw [fr_own (t := 37) rfl rfl]
            have hd5 : D4 (a.getD i 0 :: gs) := fun x hx => by
              rcases List.mem_cons.1 hx with rfl | hx
              · exact DA.out.getD i
              · exact hd4 x hx
            refine (made_fr 1 (f 37) _ w' hsl (fun j => cast_bd hd5 j) (by rw [iv_cast]; omega) (by simp; omega)).mono ?_
            rintro e w3 ⟨hb3, v3, rfl, h3, f3⟩
            rw [front_iv, hrv, show a.getD i 0 + 10000 * r = r1 from HR1.out.symm, show r1 = (r1 : Int).natAbs from (Int.natAbs_natCast r1).symm] at h3
            have hlt := QW.out.size
            have hlt2 := QW.out.lt
            have hIs := hI.size
            refine ⟨v3, rfl, ?_⟩
            exact ⟨Below.thru hI hI.size hb3, by simpa [updo, upd] using h3.toZ nat_sign, by simpa [updo, upd] using f3.le (by omega)⟩
          refine .cons (fun f w' h => ⟨wanted_none rfl, ?_⟩) .nil
          obtain ⟨hI, hz, hf⟩ : Below wr.heap.size wr w' ∧ RZ w' (f 38) (r1 : Int) ∧ Fr (w.heap.size + 1 + 1 + 1 + 1 + 1) (f 38) := h
          obtain ⟨p, l, c, e⟩ := hz.agg
          rw [e] at hz hf
          obtain ⟨_, _, _, _, hB, _⟩ := (QW.out.keep hI).r
          exact .skip (rn_store32 rfl (fr_old rfl rfl) ((fr_own rfl rfl).trans e) hB) ((QW.out.keep hI).put hz hf)
        · intro f w' h
          refine hK _ _ (Met.intro (hJ _ _ ?_))
          (repeat apply Exists.intro)
          refine ⟨?_, rfl⟩
          exact h
      case rest =>
        have QC := Lib.hid hcut
        clear hcut QW
        go_wp2
        go_loopw [10, 11] (fun lv hv wr => ∃ lo hi : Nat, lv = .int .i64 lo ∧ hv = .int .i64 hi ∧ Hid (Q7 w ys zs n (some ⟨ba, oa, none⟩) pb ca lb' cb T7 d r1 (List.replicate (i + 1) 0 ++ tail) wr) ∧ Hid (Lo d r1 lo hi)) (fun lv hv _ => (intOf hv).toNat - (intOf lv).toNat)
        case atStart => exact ⟨0, 10000, rfl, rfl, QC, L0⟩
        case round =>
          obtain ⟨lo, hi, rfl, rfl, QI, HL⟩ := hrel
          have hlh := HL.out.1
          have hhi := HL.out.2.1
          by_cases h1 : lo + 1 < hi
          · obtain ⟨mid, hmid⟩ : ∃ m, m = (lo + hi) / 2 := ⟨_, rfl⟩
            have m1 : lo < mid := by omega
            have m2 : mid < hi := by omega
            have d1 : ((lo : Int) + (hi : Int)).tdiv 2 = (mid : Int) := by rw [Int.tdiv_eq_ediv_of_nonneg (by omega)]; omega
            have e8 : IntKind.i64.wrap (mid : Int) = mid := IntWalk.i64_in _ (by omega)
            have h1' : (1 : Int) < (hi : Int) - (lo : Int) := by omega
            clear hmid
            go_upto_region 10 with fail
            go_cut [52] (fun v wc => v = .bool (decide (mid * d ≤ r1)) ∧ Q7 w ys zs n (some ⟨ba, oa, none⟩) pb ca lb' cb T7 d r1 (List.replicate (i + 1) 0 ++ tail) wc)
            case first =>
              rename_i J K' hJ hK
              refine wp_region_kd DA10 (tabA10 d mid r1 (decide (mid * d ≤ r1))) (fun w' => Q7 w ys zs n (some ⟨ba, oa, none⟩) pb ca lb' cb T7 d r1 (List.replicate (i + 1) 0 ++ tail) w') (by kernel_rfl) (by kernel_rfl) (by kernel_rfl) (by kernel_rfl) (fun _ _ h hb => h.keep hb) (QI.out.keep (Below.refl _ _).drew) ?_ ?_
              · refine .cons (fun f w' hI hs => ?_) ?_
                · obtain ⟨s, p, l, c, h1, h2⟩ := hI.e.hr
                  exact ⟨wanted_none rfl, _, rfl, .val (rn_load32 rfl (fr_old rfl rfl) h1) ⟨Below.refl _ _, h2⟩⟩
                refine .cons (fun f w' hI hs => ⟨wanted_none rfl, _, rfl, .val (rn_move rfl) ⟨Below.refl _ _, fr_old rfl rfl⟩⟩) ?_
                refine .cons (fun f w' hI hs => ⟨wanted_none rfl, _, rfl, .call2 rfl cf129 rfl rfl rfl rfl ?_⟩) ?_
                · rw [show f 48 = _ from (hs 48 (by kernel_rfl))]
                  exact (times_fr _ (d : Int) mid _ (hs 47 (by kernel_rfl)) SD.out (by omega)).mono fun e w2 ⟨hb, v, he, hv, _⟩ => ⟨v, he, hb, hv⟩
                refine .cons (fun f w' hI hs => ?_) ?_
                · obtain ⟨s, p, l, c, h1, h2⟩ := hI.r.hr
                  exact ⟨wanted_none rfl, _, rfl, .val (rn_load32 rfl (fr_old rfl rfl) h1) ⟨Below.refl _ _, h2⟩⟩
                refine .cons (fun f w' hI hs => ⟨wanted_none rfl, _, rfl, .call2 rfl cf126 rfl rfl rfl rfl ((larger_any _ _ ((d : Int) * (mid : Int)) (r1 : Int) _ (hs 49 (by kernel_rfl)) (hs 50 (by kernel_rfl))).mono fun _ _ ⟨hb, he⟩ => ⟨_, he, hb, rfl⟩)⟩) ?_
                refine .cons (fun f w' hI hs => ⟨wanted_none rfl, _, rfl, .val (rn_leq3 rfl ((fr_own rfl rfl).trans (hs 51 (by kernel_rfl))) rfl cmp_le) ⟨Below.refl _ _, rfl⟩⟩) .nil
              · intro f w' hI hk
                have h52 : f 52 = .bool (decide (mid * d ≤ r1)) := hk 52 (by kernel_rfl)
                refine hK _ _ (Met.intro (hJ _ _ ?_))
                (repeat apply Exists.intro)
                refine ⟨?_, rfl⟩
                exact ⟨h52, hI⟩
            case rest =>
              obtain ⟨rfl, hq⟩ := hcut
              have QJ := Lib.hid hq
              clear hq QI
              by_cases hm : mid * d ≤ r1
              · have LN := Lib.hid (HL.out.up m2 hm)
                rw [decide_eq_true hm]
                clear hm d1 e8 h1'
                go_wp2
                go_roundw
                case rel => exact ⟨mid, hi, rfl, rfl, QJ, LN⟩
                case measure => simp [intOf]; omega
              · have LN := Lib.hid (HL.out.dn m1 (by omega) hm)
                rw [decide_eq_false hm]
                clear hm d1 e8 h1'
                go_wp2
                go_roundw
                case rel => exact ⟨lo, mid, rfl, rfl, QJ, LN⟩
                case measure => simp [intOf]; omega
          · obtain rfl : hi = lo + 1 := by omega
            have h1' : ¬ (1 : Int) < ((lo + 1 : Nat) : Int) - (lo : Int) := by omega
            have c2 := QI.out.q.cell hin
            have c3 := QI.out.q.frozen i
            have QG := Lib.hid (QI.out.group lo)
            have hlb := HL.out.2.2.1
            have ZN := Lib.hid (ZQ.out.step (q := lo) (by omega) (by rw [← HR1.out]; exact hlb) (by rw [← HR1.out]; exact HL.out.2.2.2))
            rw [← HR1.out] at ZN
            have SM : Hid (Sr ((d : Int) * (lo : Int))) := sr_mul SR1.out hlb
            have ES : Hid ((r1 : Int) - (d : Int) * (lo : Int) = ((r1 - d * lo : Nat) : Int)) := by
              show _ = _
              rw [Nat.mul_comm] at hlb
              rw [← Int.natCast_mul]; omega
            have hi3 : (i : Int) < (n : Int) := by omega
            have WI : Hid (IntKind.i64.wrap ((i : Int) - 1) = (i : Int) - 1) := IntWalk.i64_in _ (by omega)
            clear QI hlb
            go_upto_region 14 with fail
            clear c2 c3
            refine wp_region_two DA14m (tabA14 d lo r1 (w.heap.size + 1 + 1 + 1 + 1 + 1)) (fun w' => Q7 w ys zs n (some ⟨ba, oa, none⟩) pb ca lb' cb T7 d r1 (List.replicate i 0 ++ lo :: tail) w') 5 (fun _ _ w' => Q7 w ys zs n (some ⟨ba, oa, none⟩) pb ca lb' cb T7 d (r1 - d * lo) (List.replicate i 0 ++ lo :: tail) w') (by kernel_rfl) (by kernel_rfl) (by kernel_rfl) (by kernel_rfl) (by decide) (by kernel_rfl) (fun _ _ h hb => h.keep hb) (QG.out.keep (Below.refl _ _).drew) ?_ ?_ ?_
            · refine .cons (fun f w' hI hs => ?_) ?_
              · obtain ⟨s, p, l, c, h1, h2⟩ := hI.r.hr
                exact ⟨wanted_none rfl, _, rfl, .val (rn_load32 rfl (fr_old rfl rfl) h1) ⟨Below.refl _ _, h2⟩⟩
              refine .cons (fun f w' hI hs => ?_) ?_
              · obtain ⟨s, p, l, c, h1, h2⟩ := hI.e.hr
                exact ⟨wanted_none rfl, _, rfl, .val (rn_load32 rfl (fr_old rfl rfl) h1) ⟨Below.refl _ _, h2⟩⟩
              refine .cons (fun f w' hI hs => ⟨wanted_none rfl, _, rfl, .val (rn_move rfl) ⟨Below.refl _ _, fr_old rfl rfl⟩⟩) ?_
              refine .cons (fun f w' hI hs => ⟨wanted_none rfl, _, rfl, .call2 rfl cf129 rfl rfl rfl rfl ?_⟩) ?_
              · rw [show f 61 = _ from (hs 61 (by kernel_rfl))]
                exact (times_fr _ (d : Int) lo _ (hs 60 (by kernel_rfl)) SD.out (by omega)).mono fun e w2 ⟨hb, v, he, hv, _⟩ => ⟨v, he, hb, hv⟩
              refine .cons (fun f w' hI hs => ⟨wanted_none rfl, _, rfl, .call2 rfl cf128 rfl rfl rfl rfl ?_⟩) .nil
              have hlt := hI.size
              have hlt2 := hI.lt
              exact PRZf.kd (by omega) (zsubr_fr _ _ (r1 : Int) ((d : Int) * (lo : Int)) _ (hs 59 (by kernel_rfl)) (hs 62 (by kernel_rfl)) SR1.out SM.out)
            · refine .cons (fun f w' h => ⟨wanted_none rfl, ?_⟩) .nil
              obtain ⟨hI, hs⟩ := (if_pos rfl) ▸ h
              obtain ⟨hz, hf⟩ : RZ w' (f 63) ((r1 : Int) - (d : Int) * (lo : Int)) ∧ Fr (w.heap.size + 1 + 1 + 1 + 1 + 1) (f 63) := hs 63 (by kernel_rfl)
              rw [show (r1 : Int) - (d : Int) * (lo : Int) = ((r1 - d * lo : Nat) : Int) from ES.out] at hz
              obtain ⟨p, l, c, e⟩ := hz.agg
              rw [e] at hz hf
              obtain ⟨_, _, _, _, hB, _⟩ := hI.r
              exact .skip (rn_store32 rfl (fr_old rfl rfl) ((fr_own rfl rfl).trans e) hB) (hI.put hz hf)
            · intro f w' h
              have QE := Lib.hid h
              clear h QG
              go_step
              go_step
              simp only [fr, over, DA14m, Nat.reduceAdd]
              go_wp2
              go_roundw
              case rel => exact ⟨i, r1 - d * lo, lo :: tail, rfl, QE, ZN⟩
              case measure => simp [intOf]
end Go.Proofs.YtjjomjjgoceklaaGreat
namespace Go.Proofs.YtjjomjjgoceklaaGreat
set_option maxRecDepth 100000
open Go.RowKit

/-! ## the reference's greatest common divisor -/
structure G9 (w0 : World) (A B : Int) (w : World) : Prop where
  k : Below w0.heap.size w0 w
  a : Hr w0.heap.size A w
  b : Hr (w0.heap.size + 1) B w
  c : Bz (w0.heap.size + 1 + 1) 0 none 0 0 w
theorem G9.keep {w0 : World} {A B : Int} {w w' : World} (h : G9 w0 A B w) (hb : Below w.heap.size w w') : G9 w0 A B w' := ⟨Below.thru h.k h.k.size hb, h.a.keep hb, h.b.keep hb, blk_keep h.c hb⟩
theorem G9.putA {w0 : World} {A B A' : Int} {w : World} (h : G9 w0 A B w) {s : Int} {p : Option Addr} {l c : Nat} (hz : RZ w (.agg #[.int .i64 s, .slice p l c]) A') : G9 w0 A' B (st2 w w0.heap.size (.int .i64 s) (.slice p l c)) := by
  obtain ⟨_, _, _, _, hB, _⟩ := h.a
  have hg := grown2 w w0.heap.size 0 1 (.int .i64 s) (.slice p l c)
  exact ⟨below2 h.k (Nat.le_refl _) _ _, Hr.stored hB hz, h.b.st hB.noI hg (by omega), blk_other h.c hg (by omega)⟩
theorem G9.putB {w0 : World} {A B B' : Int} {w : World} (h : G9 w0 A B w) {s : Int} {p : Option Addr} {l c : Nat} (hz : RZ w (.agg #[.int .i64 s, .slice p l c]) B') : G9 w0 A B' (st2 w (w0.heap.size + 1) (.int .i64 s) (.slice p l c)) := by
  obtain ⟨_, _, _, _, hB, _⟩ := h.b
  have hg := grown2 w (w0.heap.size + 1) 0 1 (.int .i64 s) (.slice p l c)
  exact ⟨below2 h.k (by omega) _ _, h.a.st hB.noI hg (by omega), Hr.stored hB hz, blk_other h.c hg (by omega)⟩
section
variable {P : Program} {ops : Array Oper} {Q : Exit → Act → World → Prop}
/-- loads in whatever order, stores one behind the other between them: a load that a store waits for comes before it -/
theorem wp_region_fls {id : Nat} {a0 : Act} {w : World} (D : Nat → Bool) (tab : Nat → Kd) (m : Nat) (I : Nat → World → Prop) (hm : P.follows .mixedOrders = true) (hback : backB .any ops = true) (hu : uniqB ops = true) (hch : tailB ops m = true) (hms : m ≤ ops.size)
    (hD : (ops.toList.filterMap (·.dst)).all D = true) (hI : ∀ i w w', I i w → Below w.heap.size w w' → I i w') (h0 : I m { w with drawn := w.drawn + 1 })
    (hstep : AllFrom (fun i o => ∀ s f w, (∀ j, m ≤ j → j < s → (edgesOf ops j).contains i = false) → I s w → (∀ d, (predD ops i).contains d = true → kd (tab d) (f d) w) →
      Region.wanted o (yielded ops (fr a0 D f).tmps) = true ∧ ∃ d, o.dst = some d ∧ OpR P o (fr a0 D f) w fun v w' => Below w.heap.size w w' ∧ kd (tab d) v w') 0 (ops.toList.take m))
    (htail : AllFrom (fun i o => ∀ f w, I i w → (∀ d, (predD ops i).contains d = true → kd (tab d) (f d) w) →
      Region.wanted o (yielded ops (fr a0 D f).tmps) = true ∧ o.dst = none ∧ OpR P o (fr a0 D f) w fun _ w' => I (i + 1) w' ∧ ∀ d v, kd (tab d) v w → kd (tab d) v w') m (ops.toList.drop m))
    (hend : ∀ f w, I ops.size w → (∀ d, (ops.toList.filterMap (·.dst)).contains d = true → kd (tab d) (f d) w) → Q .normal (fr a0 D f) w) : (Code.region id ops true).wp P Q a0 w := by
  let J : (Nat → Bool) → (Nat → Value) → World → Prop := fun L f w => Closed ops L ∧ ∃ i, (m ≤ i ∧ i ≤ ops.size) ∧ (∀ j, m ≤ j → j < i → L j = true) ∧ (∀ j, i ≤ j → L j = false) ∧ I i w ∧ KdAll tab ops L f w
  have hclosed : ∀ (L : Nat → Bool) (n : Nat), Closed ops L → (∀ j ∈ edgesOf ops n, L j = true) → Closed ops (dn L n) := by
    intro L n hcl hedge i hi j hj
    unfold dn at hi ⊢
    by_cases e : i = n
    · subst e
      split
      · rfl
      · exact hedge j hj
    · rw [if_neg e] at hi
      split
      · rfl
      · exact hcl i hi j hj
  refine wp_region_fr D J hm hback hD ⟨_, fr_self a0 D, (by intro i h; cases h), m, ⟨Nat.le_refl _, hms⟩, fun j h1 h2 => by omega, fun _ _ => rfl, h0, (by intro i o d _ h; cases h)⟩ ?_ ?_
  · refine .of fun n o ho => ?_
    rw [Nat.zero_add]
    rintro L f w ⟨hcl, i, ⟨hi1, hi2⟩, hdone, hfar, hIw, hk⟩ hL hdep
    have ho : ops[n]? = some o := by simpa using ho
    have hn : n < ops.size := (Array.getElem?_eq_some_iff.1 ho).1
    have hedge : ∀ j ∈ edgesOf ops n, L j = true := by
      intro j hj
      unfold edgesOf at hj
      rw [ho] at hj
      obtain ⟨e, he, rfl⟩ := List.mem_map.1 hj
      obtain ⟨he1, he2⟩ := List.mem_filter.1 he
      exact hdep e (by simpa using he1) he2
    have hpr := predGo_ok hcl n _ hedge
    have hpre : ∀ d, (predD ops n).contains d = true → kd (tab d) (f d) w := by
      intro d hd
      unfold predD at hd
      obtain ⟨j, hj, hjd⟩ := List.mem_filterMap.1 (List.contains_iff_mem.1 hd)
      obtain ⟨oj, hoj, hdj⟩ := Option.bind_eq_some_iff.1 hjd
      exact hk j oj d hoj (hpr j hj) hdj
    rcases Nat.lt_or_ge n m with hnm | hnm
    · have hg := hstep.get (i := n) (o := o) (by rw [List.getElem?_take_of_lt hnm]; simpa using ho)
      rw [Nat.zero_add] at hg
      obtain ⟨hw, d, hd, hr⟩ := hg i f w (fun j h1 h2 => by
        cases hc : (edgesOf ops j).contains n with
        | false => rfl
        | true => rw [hcl j (hdone j h1 h2) n (List.contains_iff_mem.1 hc)] at hL; cases hL) hIw hpre
      refine ⟨hw, ?_⟩
      have step : ∀ v w', (Below w.heap.size w w' ∧ kd (tab d) v w') → J (dn L n) (updo f o.dst v) w' := by
        rintro v w' ⟨hb, hkd⟩
        refine ⟨hclosed _ _ hcl hedge, i, ⟨hi1, hi2⟩, fun j h1 h2 => by unfold dn; rw [if_neg (by omega)]; exact hdone j h1 h2, fun j hj => by unfold dn; rw [if_neg (by omega)]; exact hfar j hj, hI _ _ _ hIw hb, ?_⟩
        intro i' p d' hp hi' hd'
        rw [hd]
        unfold dn at hi'
        by_cases e : i' = n
        · subst e
          rw [ho] at hp
          cases hp
          rw [hd] at hd'
          cases hd'
          simpa [updo, upd] using hkd
        · rw [if_neg e] at hi'
          have hne : d' ≠ d := fun he => e (uniq_spec hu hp ho (he ▸ hd') hd)
          simp only [updo, upd, if_neg hne]
          exact (hk i' p d' hp hi' hd').keep hb
      rcases hr with ⟨v, w', h1, h2⟩ | ⟨w', h1, h2⟩ | ⟨g, args, h1, h2⟩
      · exact .inl ⟨v, w', h1, step _ _ h2⟩
      · exact .inr (.inl ⟨w', h1, step _ _ h2⟩)
      · exact .inr (.inr ⟨g, args, h1, h2.mono fun e w' ⟨v, he, hr⟩ => ⟨v, he, step _ _ hr⟩⟩)
    · have hin : i = n := by
        rcases Nat.lt_trichotomy i n with h | h | h
        · have h1 := hedge _ (tail_spec hch hn (by omega))
          rw [hfar (n - 1) (by omega)] at h1
          cases h1
        · exact h
        · have := hdone n hnm h; rw [this] at hL; cases hL
      subst hin
      have hg := htail.get (i := i - m) (o := o) (by rw [List.getElem?_drop, show m + (i - m) = i by omega]; simpa using ho)
      rw [show m + (i - m) = i by omega] at hg
      obtain ⟨hw, hdn, hr⟩ := hg f w hIw hpre
      refine ⟨hw, ?_⟩
      have step : ∀ v w', (I (i + 1) w' ∧ ∀ d v, kd (tab d) v w → kd (tab d) v w') → J (dn L i) (updo f o.dst v) w' := by
        rintro v w' ⟨hI', hkk⟩
        rw [hdn]
        refine ⟨hclosed _ _ hcl hedge, i + 1, ⟨by omega, hn⟩, fun j h1 h2 => by unfold dn; split; rfl; exact hdone j h1 (by omega), fun j hj => by unfold dn; rw [if_neg (by omega)]; exact hfar j (by omega), hI', ?_⟩
        intro i' p d' hp hi' hd'
        unfold dn at hi'
        by_cases e : i' = i
        · subst e
          rw [ho] at hp
          cases hp
          rw [hdn] at hd'
          cases hd'
        · rw [if_neg e] at hi'
          exact hkk _ _ (hk i' p d' hp hi' hd')
      rcases hr with ⟨v, w', h1, h2⟩ | ⟨w', h1, h2⟩ | ⟨g, args, h1, h2⟩
      · exact .inl ⟨v, w', h1, step _ _ h2⟩
      · exact .inr (.inl ⟨w', h1, step _ _ h2⟩)
      · exact .inr (.inr ⟨g, args, h1, h2.mono fun e w' ⟨v, he, hr⟩ => ⟨v, he, step _ _ hr⟩⟩)
  · rintro L f w ⟨_, i, ⟨hi1, hi2⟩, _, hfar, hIw, hk⟩ hall
    have hie : i = ops.size := by
      rcases Nat.lt_or_ge i ops.size with h | h
      · have := hfar i (Nat.le_refl _); rw [hall i h] at this; cases this
      · omega
    subst hie
    refine hend f w hIw fun d hd => ?_
    obtain ⟨o, ho, hod⟩ := List.mem_filterMap.1 (List.contains_iff_mem.1 hd)
    obtain ⟨i, hi⟩ := List.getElem?_of_mem ho
    have hi' : ops[i]? = some o := by simpa using hi
    exact hk i o d hi' (hall i (Array.getElem?_eq_some_iff.1 hi').1) hod
end
def D1g (t : Nat) : Bool := Nat.ble 9 t && Nat.ble t 12
def tab1g (y z : Int) (t : Nat) : Kd := [.r y, .r (y.natAbs : Int), .r z, .r (z.natAbs : Int)].getD (t - 9) .any
def D4g (t : Nat) : Bool := (Nat.ble 5 t && Nat.ble t 6) || (Nat.ble 26 t && Nat.ble t 29)
def tab4g (A B : Int) (t : Nat) : Kd := if t = 5 then ki A else if t = 6 then ki B else [.r A, ki A, .r B, ki B].getD (t - 26) .any
def D6g (t : Nat) : Bool := match t with | 5 => true | 6 => true | 32 => true | 33 => true | 34 => true | 35 => true | _ => false
def tab6g (X Y R : Int) (t : Nat) : Kd := if t = 5 then ki Y else if t = 6 then ki R else [ki Y, ki X, ki Y, ki R].getD (t - 32) .any
def D9g (t : Nat) : Bool := match t with | 44 => true | 45 => true | _ => false
def tab9g (B R : Int) (t : Nat) : Kd := [.r B, .r R].getD (t - 44) .any
theorem tab9g_st {B R : Int} {w w' : World} {T : Nat} (hT : NoI w T) (hg : w.grownBy w' (some T)) (t : Nat) (v : Value) (h : kd (tab9g B R t) v w) : kd (tab9g B R t) v w' := by
  unfold tab9g at *
  generalize t - 44 = j at *
  match j with
  | 0 => exact RZ.store h hT hg
  | 1 => exact RZ.store h hT hg
  | j + 2 => trivial
theorem cf127 : CF 127 := fun W args => by go_simp
theorem PI.kdi {a : Int} {w : World} {n : FuncId} {args : Array Value} (h : Calls Tryz.prog n args w (PI a w)) : Calls Tryz.prog n args w fun e w' => ∃ v, e = .returned v ∧ (Below w.heap.size w w' ∧ Go.Proofs.YtjjomjjgoceklaaGreat.kd (ki a) v w') :=
  h.mono fun _ _ ⟨hb, he⟩ => ⟨_, he, hb, rfl⟩
theorem rn_rem2 {ρ : Operand → Value} {o : Oper} {w : World} {t c : Operand} {a b r : Int} (ho : o.op = .binOp .rem 2 t c 2) (h1 : ρ t = .int .i64 a) (h2 : ρ c = .int .i64 b) (hb : b ≠ 0) (hr : a.tmod b = r) : (execOp ρ o).run Tryz.prog w = .ok (.value (.int .i64 r)) w := by
  subst hr; unfold execOp; rw [ho]; simp [go_sem, h1, h2, hb]
/-- short digits are an int64 -/
theorem short64 {w : World} {s : Int} {p : Option Addr} {l c A : Nat} (h : RZ w (.agg #[.int .i64 s, .slice p l c]) (A : Int)) (hl : l ≤ 4) : (A : Int) < 10000000000000000 := by
  obtain ⟨gs, pa, ca, e, _, _, _, hd, _, hv, _⟩ := h.opened
  simp only [Value.agg.injEq, Array.mk.injEq, List.cons.injEq, and_true, Value.slice.injEq] at e
  obtain ⟨_, _, hl2, _⟩ := e
  have h1 := rv_lt gs hd
  have h2 : 10000 ^ gs.length ≤ 10000 ^ 4 := Nat.pow_le_pow_right (by decide) (by omega)
  rw [hv, Int.natAbs_natCast] at h1
  have h3 : (10000 : Nat) ^ 4 = 10000000000000000 := by decide
  omega
set_option maxRecDepth 100000 in
set_option maxHeartbeats 3200000 in
theorem zgcd_any (va vb : Value) (y z : Int) (w : World) (ha : RZ w va y) (hb : RZ w vb z) (sy : Sr y) (sz : Sr z) : Calls Tryz.prog 102 #[va, vb] w (PRZ (Int.gcd y z : Int) w) := by
  obtain ⟨pa, la, ca, rfl⟩ := ha.agg
  obtain ⟨pb, lb, cb, rfl⟩ := hb.agg
  have S0 : G9 w y z (((w.alloc (.cells #[.int .i64 y.sign, .slice pa la ca] 41)).alloc (.cells #[.int .i64 z.sign, .slice pb lb cb] 41)).alloc (.cells #[.int .i64 0, .slice none 0 0] 41)) :=
    ⟨bl3 _ _ _ _, ((Hr.new ha).al _).al _, by
      have := Hr.new (hb.keep (bl1 w (.cells #[.int .i64 y.sign, .slice pa la ca] 41)) (Nat.le_refl _))
      rw [World.size_alloc] at this
      exact this.al _, bz_new _ _ _ _ _ (by simp)⟩
  have S0 := Lib.hid S0
  have SY := Lib.hid sy; have SZ := Lib.hid sz
  clear ha hb sy sz
  go_enter Tryz.func102, Tryz.ntmps102
  go_wp2_with fail
  go_cut [] (fun wc => G9 w (y.natAbs : Int) (z.natAbs : Int) wc)
  case first =>
    rename_i J K' hJ hK
    refine wp_region_two D1g (tab1g y z) (fun w' => G9 w y z w') 4 (fun i f w' => match i with
      | 5 => G9 w (y.natAbs : Int) z w' ∧ RZ w' (f 12) (z.natAbs : Int)
      | _ => G9 w (y.natAbs : Int) (z.natAbs : Int) w') (by kernel_rfl) (by kernel_rfl) (by kernel_rfl) (by kernel_rfl) (by decide) (by kernel_rfl) (fun _ _ h hb => h.keep hb) (S0.out.keep (Below.refl _ _).drew) ?_ ?_ ?_
    · refine .cons (fun f w' hI hs => ?_) ?_
      · obtain ⟨s, p, l, c, h1, h2⟩ := hI.a
        exact ⟨wanted_none rfl, _, rfl, .val (rn_load32 rfl (fr_old rfl rfl) h1) ⟨Below.refl _ _, h2⟩⟩
      refine .cons (fun f w' hI hs => ⟨wanted_none rfl, _, rfl, .call1 rfl cf114 rfl rfl (PRZ.kd (zabsr_any _ y _ (hs 9 (by kernel_rfl))))⟩) ?_
      refine .cons (fun f w' hI hs => ?_) ?_
      · obtain ⟨s, p, l, c, h1, h2⟩ := hI.b
        exact ⟨wanted_none rfl, _, rfl, .val (rn_load32 rfl (fr_old rfl rfl) h1) ⟨Below.refl _ _, h2⟩⟩
      refine .cons (fun f w' hI hs => ⟨wanted_none rfl, _, rfl, .call1 rfl cf114 rfl rfl (PRZ.kd (zabsr_any _ z _ (hs 11 (by kernel_rfl))))⟩) ?_
      exact .nil
    · refine .cons (fun f w' h => ⟨wanted_none rfl, ?_⟩) ?_
      · obtain ⟨hI, hs⟩ := (if_pos rfl) ▸ h
        have hz : RZ w' (f 10) (y.natAbs : Int) := hs 10 (by kernel_rfl)
        have hz2 : RZ w' (f 12) (z.natAbs : Int) := hs 12 (by kernel_rfl)
        obtain ⟨p, l, c, e⟩ := hz.agg
        rw [e] at hz
        obtain ⟨_, _, _, _, hB, _⟩ := hI.a
        exact .skip (rn_store32 rfl (fr_old rfl rfl) ((fr_own rfl rfl).trans e) hB) ⟨hI.putA hz, hz2.store hB.noI (grown2 _ _ 0 1 _ _)⟩
      refine .cons (fun f w' h => ⟨wanted_none rfl, ?_⟩) .nil
      obtain ⟨hI, hz⟩ : G9 w (y.natAbs : Int) z w' ∧ RZ w' (f 12) (z.natAbs : Int) := h
      obtain ⟨p, l, c, e⟩ := hz.agg
      rw [e] at hz
      obtain ⟨_, _, _, _, hB, _⟩ := hI.b
      exact .skip (rn_store32 rfl (fr_old rfl rfl) ((fr_own rfl rfl).trans e) hB) (hI.putB hz)
    · intro f w' h
      refine hK _ _ (Met.intro (hJ _ _ ?_))
      (repeat apply Exists.intro)
      refine ⟨?_, rfl⟩
      exact h
  case rest =>
    have G0 := Lib.hid hcut
    clear hcut S0
    go_wp2
    go_loopg [] (z.natAbs) (fun gb wr => ∃ A B : Nat, Hid (G9 w (A : Int) (B : Int) wr) ∧ Hid (gb = B) ∧ Hid (Nat.gcd A B = Int.gcd y z) ∧ Hid (Sr (A : Int)) ∧ Hid (Sr (B : Int)))
    case atStart => exact ⟨_, _, G0, rfl, rfl, SY.out.ofN (by omega), SZ.out.ofN (by omega)⟩
    case round =>
      obtain ⟨A, B, GG, HGB, HGC, SA, SB⟩ := hrel
      obtain ⟨sa, p1, l1, c1, f1, f2⟩ := GG.out.a
      obtain ⟨sb, p2, l2, c2, f3, f4⟩ := GG.out.b
      have hsb : sb = (B : Int).sign := by obtain ⟨_, _, _, e⟩ := f4.agg; simp at e; exact e.1
      have F2 := Lib.hid f2; have F4 := Lib.hid f4
      obtain ⟨g1, g2, g3, g4⟩ := f1.cells
      obtain ⟨g5, g6, g7, g8⟩ := f3.cells
      obtain ⟨j1, j2, j3, j4⟩ := GG.out.c.cells
      clear f1 f2 f3 f4 G0
      by_cases hB : B = 0
      · have hs0 : (sb != 0) = false := by rw [hsb, hB]; rfl
        have HA : Hid (A = Int.gcd y z) := by have := HGC.out; rw [hB, Nat.gcd_zero_right] at this; exact this
        obtain ⟨k1, k2⟩ := two_cells j1 j2 (.int .i64 sa) (.slice p1 l1 c1)
        have HF := Lib.hid (F2.out.store GG.out.c.noI (grown2 wr (w.heap.size + 1 + 1) 0 1 (.int .i64 sa) (.slice p1 l1 c1)))
        have KF := Lib.hid (below2 GG.out.k (show w.heap.size ≤ w.heap.size + 1 + 1 by omega) (.int .i64 sa) (.slice p1 l1 c1))
        rw [HA.out] at HF
        clear hsb hB
        go_wp2
        exact bodyPost_ret (v := .agg #[.int .i64 sa, .slice p1 l1 c1]) (by simp [results, Tryz.results102, go_sem, k1, k2]) rfl ⟨KF.out, _, rfl, HF.out⟩
      · have hs0 : (sb != 0) = true := by rw [hsb, Int.sign_eq_one_of_pos (by omega)]; rfl
        have HB0 := Lib.hid hB
        clear hsb hB
        by_cases hl : l1 ≤ 4 ∧ l2 ≤ 4
        · have h1 : (l1 : Int) ≤ 4 := by omega
          have h2 : (l2 : Int) ≤ 4 := by omega
          have a1 := short64 F2.out hl.1
          have b1 := short64 F4.out hl.2
          clear hl
          go_upto_region 4 with fail
          clear g1 g2 g3 g4 g5 g6 g7 g8 j1 j2 j3 j4
          go_cut [5, 6] (fun u v wc => u = .int .i64 (A : Int) ∧ v = .int .i64 (B : Int) ∧ G9 w (A : Int) (B : Int) wc)
          case first =>
            rename_i J K' hJ hK
            refine wp_region_kd D4g (tab4g (A : Int) (B : Int)) (fun w' => G9 w (A : Int) (B : Int) w') (by kernel_rfl) (by kernel_rfl) (by kernel_rfl) (by kernel_rfl) (fun _ _ h hb => h.keep hb) (GG.out.keep (Below.refl _ _).drew) ?_ ?_
            · refine .cons (fun f w' hI hs => ?_) ?_
              · obtain ⟨s, p, l, c, h1, h2⟩ := hI.a
                exact ⟨wanted_none rfl, _, rfl, .val (rn_load32 rfl (fr_old rfl rfl) h1) ⟨Below.refl _ _, h2⟩⟩
              refine .cons (fun f w' hI hs => ⟨wanted_none rfl, _, rfl, .call1 rfl cf127 rfl rfl (PI.kdi (value_any _ (A : Int) _ (hs 26 (by kernel_rfl)) ⟨by omega, by omega⟩))⟩) ?_
              refine .cons (fun f w' hI hs => ?_) ?_
              · obtain ⟨s, p, l, c, h1, h2⟩ := hI.b
                exact ⟨wanted_none rfl, _, rfl, .val (rn_load32 rfl (fr_old rfl rfl) h1) ⟨Below.refl _ _, h2⟩⟩
              refine .cons (fun f w' hI hs => ⟨wanted_none rfl, _, rfl, .call1 rfl cf127 rfl rfl (PI.kdi (value_any _ (B : Int) _ (hs 28 (by kernel_rfl)) ⟨by omega, by omega⟩))⟩) ?_
              refine .cons (fun f w' hI hs => ⟨wanted_none rfl, _, rfl, .val (rn_assign rfl) ⟨Below.refl _ _, ((fr_own rfl rfl).trans (hs 27 (by kernel_rfl)))⟩⟩) ?_
              refine .cons (fun f w' hI hs => ⟨wanted_none rfl, _, rfl, .val (rn_assign rfl) ⟨Below.refl _ _, ((fr_own rfl rfl).trans (hs 29 (by kernel_rfl)))⟩⟩) ?_
              exact .nil
            · intro f w' hI hk
              refine hK _ _ (Met.intro (hJ _ _ ?_))
              (repeat apply Exists.intro)
              refine ⟨?_, rfl⟩
              exact ⟨hk 5 (by kernel_rfl), hk 6 (by kernel_rfl), hI⟩
          case rest =>
            obtain ⟨rfl, rfl, e9⟩ := hcut
            have E9 := Lib.hid e9
            clear e9 GG
            go_wp2
            go_loopg [5, 6] B (fun gy u v wr => ∃ X Y : Nat, u = .int .i64 X ∧ v = .int .i64 Y ∧ Hid (gy = Y) ∧ Hid ((X : Int) < 10000000000000000 ∧ (Y : Int) < 10000000000000000) ∧ Hid (Nat.gcd X Y = Nat.gcd A B) ∧ Hid (G9 w (A : Int) (B : Int) wr))
            case atStart => exact ⟨A, B, rfl, rfl, rfl, ⟨a1, b1⟩, rfl, E9⟩
            case round =>
              obtain ⟨X, Y, rfl, rfl, HGY, HXY, HC2, G2⟩ := hrel
              clear E9
              by_cases hY : Y = 0
              · subst hY
                have hy0 : (((0 : Nat) : Int) != 0) = false := rfl
                have HX : Hid (X = Int.gcd y z) := by have := HC2.out; rw [Nat.gcd_zero_right] at this; exact this.trans HGC.out
                have hx1 := HXY.out.1
                go_wp2_with fail
                refine (zint_any (X : Int) _ (by omega)).mono ?_
                rintro e w7 ⟨hb7, v7, rfl, h7⟩
                obtain ⟨s9, p9, l9, c9, rfl, h9⟩ := PRZ.box h7
                have G3 := G2.out.keep hb7
                obtain ⟨j1, j2, j3, j4⟩ := G3.c.cells
                obtain ⟨k1, k2⟩ := two_cells j1 j2 (.int .i64 s9) (.slice p9 l9 c9)
                have HF := Lib.hid (h9.store G3.c.noI (grown2 w7 (w.heap.size + 1 + 1) 0 1 (.int .i64 s9) (.slice p9 l9 c9)))
                have KF := Lib.hid (below2 G3.k (show w.heap.size ≤ w.heap.size + 1 + 1 by omega) (.int .i64 s9) (.slice p9 l9 c9))
                rw [HX.out] at HF
                clear G3 h7 h9 hb7
                go_wp2
                exact bodyPost_ret (v := .agg #[.int .i64 s9, .slice p9 l9 c9]) (by simp [results, Tryz.results102, go_sem, k1, k2]) rfl ⟨KF.out, _, rfl, HF.out⟩
              · have hy0 : ((Y : Int) != 0) = true := by simpa using hY
                have hm : Nat.gcd Y (X % Y) = Nat.gcd X Y := by rw [Nat.gcd_comm Y, ← Nat.gcd_rec, Nat.gcd_comm]
                have hr : (X : Int).tmod (Y : Int) = ((X % Y : Nat) : Int) := by rw [Int.tmod_eq_emod_of_nonneg (by omega)]; rfl
                have hlt : X % Y < Y := Nat.mod_lt _ (by omega)
                have hle : X % Y ≤ X := Nat.mod_le _ _
                have hx1 := HXY.out.1; have hx2 := HXY.out.2
                have C3 : Hid (Nat.gcd Y (X % Y) = Nat.gcd A B) := hm.trans HC2.out
                have HY := Lib.hid hY; have HRR := Lib.hid hr
                obtain ⟨R, hR⟩ : ∃ R, R = X % Y := ⟨_, rfl⟩
                rw [← hR] at C3 HRR hlt hle
                clear hm hr hY hR
                go_upto_region 6 with fail
                refine wp_region_kdo D6g (tab6g (X : Int) (Y : Int) (R : Int)) (fun w' => G9 w (A : Int) (B : Int) w') (by kernel_rfl) (by kernel_rfl) (by kernel_rfl) (by kernel_rfl) (fun _ _ h hb => h.keep hb) (G2.out.keep (Below.refl _ _).drew) ?_ ?_
                · refine .cons (fun f w' hI hs ho => ⟨wanted_none rfl, _, rfl, .val (rn_move rfl) ⟨Below.refl _ _, (fr_own rfl rfl).trans (ho 6 (by kernel_rfl))⟩⟩) ?_
                  refine .cons (fun f w' hI hs ho => ⟨wanted_none rfl, _, rfl, .val (rn_move rfl) ⟨Below.refl _ _, (fr_own rfl rfl).trans (ho 5 (by kernel_rfl))⟩⟩) ?_
                  refine .cons (fun f w' hI hs ho => ⟨wanted_none rfl, _, rfl, .val (rn_move rfl) ⟨Below.refl _ _, (fr_own rfl rfl).trans (ho 6 (by kernel_rfl))⟩⟩) ?_
                  refine .cons (fun f w' hI hs ho => ⟨wanted_none rfl, _, rfl, .val (rn_rem2 rfl ((fr_own rfl rfl).trans (hs 33 (by kernel_rfl))) ((fr_own rfl rfl).trans (hs 34 (by kernel_rfl))) (by have := HY.out; omega) HRR.out) ⟨Below.refl _ _, rfl⟩⟩) ?_
                  refine .cons (fun f w' hI hs ho => ⟨wanted_none rfl, _, rfl, .val (rn_assign rfl) ⟨Below.refl _ _, ((fr_own rfl rfl).trans (hs 32 (by kernel_rfl)))⟩⟩) ?_
                  refine .cons (fun f w' hI hs ho => ⟨wanted_none rfl, _, rfl, .val (rn_assign rfl) ⟨Below.refl _ _, ((fr_own rfl rfl).trans (hs 35 (by kernel_rfl)))⟩⟩) ?_
                  exact .nil
                · intro f w' hI hk
                  have h5 : f 5 = .int .i64 (Y : Int) := hk 5 (by kernel_rfl)
                  have h6 : f 6 = .int .i64 (R : Int) := hk 6 (by kernel_rfl)
                  have HI := Lib.hid hI
                  clear hI hk
                  go_step
                  first | (go_step; go_roundg R) | (apply_assumption; go_roundg R) | go_roundg R
                  case measure => rw [HGY.out]; exact hlt
                  case rel => exact ⟨Y, R, h5, h6, rfl, ⟨hx2, by omega⟩, C3, HI⟩
        · have hl' : ¬ (l1 : Int) ≤ 4 ∨ ¬ (l2 : Int) ≤ 4 := by omega
          have HB1 : Hid ((B : Int) ≠ 0) := by have := HB0.out; show _ ≠ _; omega
          have cont : ∀ R, R = A % B → R < B ∧ Nat.gcd B R = Nat.gcd A B ∧ (A : Int) % (B : Int) = (R : Int) := by
            intro R e
            subst e
            have := HB0.out
            exact ⟨Nat.mod_lt _ (by omega), by rw [Nat.gcd_comm B, ← Nat.gcd_rec, Nat.gcd_comm], rfl⟩
          obtain ⟨R, hR⟩ : ∃ R, R = A % B := ⟨_, rfl⟩
          obtain ⟨r1, r2, r3⟩ := cont R hR
          have R1 := Lib.hid r1; have R2 := Lib.hid r2; have R3 := Lib.hid r3
          have SR : Hid (Sr (R : Int)) := SB.out.ofN (by omega)
          clear cont hR r1 r2 r3 hl
          by_cases h1 : (l1 : Int) ≤ 4
          · have h2 : ¬ (l2 : Int) ≤ 4 := hl'.resolve_left (fun h => h h1)
            clear hl'
            go_wp2_with fail
            refine (zquotient_any _ _ (A : Int) (B : Int) _ F2.out F4.out SA.out SB.out HB1.out).mono ?_
            rintro e w7 ⟨hb7, v1, v2, rfl, h7, h8⟩
            obtain ⟨s8, p8, l8, c8, rfl, h9⟩ := PRZ.box h7
            obtain ⟨s9, p9, l9, c9, rfl, h10⟩ := PRZ.box h8
            rw [R3.out] at h10
            have E0 := (GG.out.keep hb7).keep (bl2 w7 (.cells #[.int .i64 s8, .slice p8 l8 c8] 41) (.cells #[.int .i64 s9, .slice p9 l9 c9] 41))
            have E1 : Hr (w7.heap.size + 1) (R : Int) ((w7.alloc (.cells #[.int .i64 s8, .slice p8 l8 c8] 41)).alloc (.cells #[.int .i64 s9, .slice p9 l9 c9] 41)) := by
              have := Hr.new (h10.keep (bl1 w7 (.cells #[.int .i64 s8, .slice p8 l8 c8] 41)) (Nat.le_refl _))
              rw [World.size_alloc] at this
              exact this
            have LT7 : Hid (w.heap.size + 1 + 1 < w7.heap.size + 1) := by have h1 := blk_lt GG.out.c; have h2 := hb7.size; show _ < _; omega
            have E0 := Lib.hid E0; have E1 := Lib.hid E1
            clear h7 h8 h9 h10 hb7 g1 g2 g3 g4 g5 g6 g7 g8 j1 j2 j3 j4
            go_upto_region 9 with fail
            refine wp_region_fls D9g (tab9g (B : Int) (R : Int)) 2 (fun j w' => Below w.heap.size w w' ∧ w.heap.size + 1 + 1 < w7.heap.size + 1 ∧ (∃ s p l c, Bz w.heap.size s p l c w') ∧ (∃ s p l c, Bz (w.heap.size + 1) s p l c w') ∧ Bz (w.heap.size + 1 + 1) 0 none 0 0 w' ∧ Hr (w7.heap.size + 1) (R : Int) w' ∧ (j ≤ 2 → Hr (w.heap.size + 1) (B : Int) w') ∧ (3 ≤ j → Hr w.heap.size (B : Int) w') ∧ (4 ≤ j → Hr (w.heap.size + 1) (R : Int) w')) (by kernel_rfl) (by kernel_rfl) (by kernel_rfl) (by kernel_rfl) (by decide) (by kernel_rfl) (fun _ _ _ ⟨h1, h2, ⟨_, _, _, _, h3⟩, ⟨_, _, _, _, h4⟩, h5, h6, h7, h8, h9⟩ hb => ⟨Below.thru h1 h1.size hb, h2, ⟨_, _, _, _, blk_keep h3 hb⟩, ⟨_, _, _, _, blk_keep h4 hb⟩, blk_keep h5 hb, h6.keep hb, fun h => (h7 h).keep hb, fun h => (h8 h).keep hb, fun h => (h9 h).keep hb⟩) (by
              have E := E0.out.keep (Below.refl _ _).drew
              exact ⟨E.k, LT7.out, E.a.bz, E.b.bz, E.c, E1.out.keep (Below.refl _ _).drew, fun _ => E.b, fun h => by omega, fun h => by omega⟩) ?_ ?_ ?_
            · refine .cons (fun j f w' hj hI hs => ?_) ?_
              · have hj2 : j ≤ 2 := by
                  rcases Nat.lt_or_ge 2 j with h | h
                  · exact absurd (hj 2 (Nat.le_refl _) h) (by decide)
                  · exact h
                obtain ⟨s, p, l, c, h1, h2⟩ := hI.2.2.2.2.2.2.1 hj2
                exact ⟨wanted_none rfl, _, rfl, .val (rn_load32 rfl (fr_old rfl rfl) h1) ⟨Below.refl _ _, h2⟩⟩
              refine .cons (fun j f w' hj hI hs => ?_) .nil
              obtain ⟨s, p, l, c, h1, h2⟩ := hI.2.2.2.2.2.1
              exact ⟨wanted_none rfl, _, rfl, .val (rn_load32 rfl (fr_old rfl rfl) h1) ⟨Below.refl _ _, h2⟩⟩
            · refine .cons (fun f w' hI hs => ⟨wanted_none rfl, rfl, ?_⟩) ?_
              · have hz : RZ w' (f 44) (B : Int) := hs 44 (by kernel_rfl)
                obtain ⟨p, l, c, e⟩ := hz.agg
                rw [e] at hz
                obtain ⟨h1, h2, ⟨_, _, _, _, h3⟩, ⟨_, _, _, _, h4⟩, h5, h6, h7, h8, h9⟩ := hI
                have hg : w'.grownBy (st2 w' w.heap.size (.int .i64 (B : Int).sign) (.slice p l c)) (some w.heap.size) := grown2 _ _ _ _ _ _
                exact .skip (rn_store32 rfl (fr_old rfl rfl) ((fr_own rfl rfl).trans e) h3) ⟨⟨below2 h1 (Nat.le_refl _) _ _, h2, ⟨_, _, _, _, h3.set _ _ _ _⟩, ⟨_, _, _, _, blk_other h4 hg (by omega)⟩, blk_other h5 hg (by omega), h6.st h3.noI hg (by omega), fun h => by omega, fun _ => Hr.stored h3 hz, fun h => by omega⟩, tab9g_st h3.noI hg⟩
              refine .cons (fun f w' hI hs => ⟨wanted_none rfl, rfl, ?_⟩) .nil
              have hz : RZ w' (f 45) (R : Int) := hs 45 (by kernel_rfl)
              obtain ⟨p, l, c, e⟩ := hz.agg
              rw [e] at hz
              obtain ⟨h1, h2, ⟨_, _, _, _, h3⟩, ⟨_, _, _, _, h4⟩, h5, h6, h7, h8, h9⟩ := hI
              have hg : w'.grownBy (st2 w' (w.heap.size + 1) (.int .i64 (R : Int).sign) (.slice p l c)) (some (w.heap.size + 1)) := grown2 _ _ _ _ _ _
              exact .skip (rn_store32 rfl (fr_old rfl rfl) ((fr_own rfl rfl).trans e) h4) ⟨⟨below2 h1 (by omega) _ _, h2, ⟨_, _, _, _, blk_other h3 hg (by omega)⟩, ⟨_, _, _, _, h4.set _ _ _ _⟩, blk_other h5 hg (by omega), h6.st h4.noI hg (by omega), fun h => by omega, fun _ => (h8 (by decide)).st h4.noI hg (by omega), fun _ => Hr.stored h4 hz⟩, tab9g_st h4.noI hg⟩
            · intro f w' h _
              have HI : Hid (G9 w (B : Int) (R : Int) w') := ⟨h.1, h.2.2.2.2.2.2.2.1 (by decide), h.2.2.2.2.2.2.2.2 (by decide), h.2.2.2.2.1⟩
              clear h
              go_step
              first | (go_step; go_roundg R) | (apply_assumption; go_roundg R) | go_roundg R
              case measure => rw [HGB.out]; exact R1.out
              case rel => exact ⟨B, R, HI, rfl, R2.out.trans HGC.out, SB, SR⟩
          · clear hl'
            go_wp2_with fail
            refine (zquotient_any _ _ (A : Int) (B : Int) _ F2.out F4.out SA.out SB.out HB1.out).mono ?_
            rintro e w7 ⟨hb7, v1, v2, rfl, h7, h8⟩
            obtain ⟨s8, p8, l8, c8, rfl, h9⟩ := PRZ.box h7
            obtain ⟨s9, p9, l9, c9, rfl, h10⟩ := PRZ.box h8
            rw [R3.out] at h10
            have E0 := (GG.out.keep hb7).keep (bl2 w7 (.cells #[.int .i64 s8, .slice p8 l8 c8] 41) (.cells #[.int .i64 s9, .slice p9 l9 c9] 41))
            have E1 : Hr (w7.heap.size + 1) (R : Int) ((w7.alloc (.cells #[.int .i64 s8, .slice p8 l8 c8] 41)).alloc (.cells #[.int .i64 s9, .slice p9 l9 c9] 41)) := by
              have := Hr.new (h10.keep (bl1 w7 (.cells #[.int .i64 s8, .slice p8 l8 c8] 41)) (Nat.le_refl _))
              rw [World.size_alloc] at this
              exact this
            have LT7 : Hid (w.heap.size + 1 + 1 < w7.heap.size + 1) := by have h1 := blk_lt GG.out.c; have h2 := hb7.size; show _ < _; omega
            have E0 := Lib.hid E0; have E1 := Lib.hid E1
            clear h7 h8 h9 h10 hb7 g1 g2 g3 g4 g5 g6 g7 g8 j1 j2 j3 j4
            go_upto_region 9 with fail
            refine wp_region_fls D9g (tab9g (B : Int) (R : Int)) 2 (fun j w' => Below w.heap.size w w' ∧ w.heap.size + 1 + 1 < w7.heap.size + 1 ∧ (∃ s p l c, Bz w.heap.size s p l c w') ∧ (∃ s p l c, Bz (w.heap.size + 1) s p l c w') ∧ Bz (w.heap.size + 1 + 1) 0 none 0 0 w' ∧ Hr (w7.heap.size + 1) (R : Int) w' ∧ (j ≤ 2 → Hr (w.heap.size + 1) (B : Int) w') ∧ (3 ≤ j → Hr w.heap.size (B : Int) w') ∧ (4 ≤ j → Hr (w.heap.size + 1) (R : Int) w')) (by kernel_rfl) (by kernel_rfl) (by kernel_rfl) (by kernel_rfl) (by decide) (by kernel_rfl) (fun _ _ _ ⟨h1, h2, ⟨_, _, _, _, h3⟩, ⟨_, _, _, _, h4⟩, h5, h6, h7, h8, h9⟩ hb => ⟨Below.thru h1 h1.size hb, h2, ⟨_, _, _, _, blk_keep h3 hb⟩, ⟨_, _, _, _, blk_keep h4 hb⟩, blk_keep h5 hb, h6.keep hb, fun h => (h7 h).keep hb, fun h => (h8 h).keep hb, fun h => (h9 h).keep hb⟩) (by
              have E := E0.out.keep (Below.refl _ _).drew
              exact ⟨E.k, LT7.out, E.a.bz, E.b.bz, E.c, E1.out.keep (Below.refl _ _).drew, fun _ => E.b, fun h => by omega, fun h => by omega⟩) ?_ ?_ ?_
            · refine .cons (fun j f w' hj hI hs => ?_) ?_
              · have hj2 : j ≤ 2 := by
                  rcases Nat.lt_or_ge 2 j with h | h
                  · exact absurd (hj 2 (Nat.le_refl _) h) (by decide)
                  · exact h
                obtain ⟨s, p, l, c, h1, h2⟩ := hI.2.2.2.2.2.2.1 hj2
                exact ⟨wanted_none rfl, _, rfl, .val (rn_load32 rfl (fr_old rfl rfl) h1) ⟨Below.refl _ _, h2⟩⟩
              refine .cons (fun j f w' hj hI hs => ?_) .nil
              obtain ⟨s, p, l, c, h1, h2⟩ := hI.2.2.2.2.2.1
              exact ⟨wanted_none rfl, _, rfl, .val (rn_load32 rfl (fr_old rfl rfl) h1) ⟨Below.refl _ _, h2⟩⟩
            · refine .cons (fun f w' hI hs => ⟨wanted_none rfl, rfl, ?_⟩) ?_
              · have hz : RZ w' (f 44) (B : Int) := hs 44 (by kernel_rfl)
                obtain ⟨p, l, c, e⟩ := hz.agg
                rw [e] at hz
                obtain ⟨h1, h2, ⟨_, _, _, _, h3⟩, ⟨_, _, _, _, h4⟩, h5, h6, h7, h8, h9⟩ := hI
                have hg : w'.grownBy (st2 w' w.heap.size (.int .i64 (B : Int).sign) (.slice p l c)) (some w.heap.size) := grown2 _ _ _ _ _ _
                exact .skip (rn_store32 rfl (fr_old rfl rfl) ((fr_own rfl rfl).trans e) h3) ⟨⟨below2 h1 (Nat.le_refl _) _ _, h2, ⟨_, _, _, _, h3.set _ _ _ _⟩, ⟨_, _, _, _, blk_other h4 hg (by omega)⟩, blk_other h5 hg (by omega), h6.st h3.noI hg (by omega), fun h => by omega, fun _ => Hr.stored h3 hz, fun h => by omega⟩, tab9g_st h3.noI hg⟩
              refine .cons (fun f w' hI hs => ⟨wanted_none rfl, rfl, ?_⟩) .nil
              have hz : RZ w' (f 45) (R : Int) := hs 45 (by kernel_rfl)
              obtain ⟨p, l, c, e⟩ := hz.agg
              rw [e] at hz
              obtain ⟨h1, h2, ⟨_, _, _, _, h3⟩, ⟨_, _, _, _, h4⟩, h5, h6, h7, h8, h9⟩ := hI
              have hg : w'.grownBy (st2 w' (w.heap.size + 1) (.int .i64 (R : Int).sign) (.slice p l c)) (some (w.heap.size + 1)) := grown2 _ _ _ _ _ _
              exact .skip (rn_store32 rfl (fr_old rfl rfl) ((fr_own rfl rfl).trans e) h4) ⟨⟨below2 h1 (by omega) _ _, h2, ⟨_, _, _, _, blk_other h3 hg (by omega)⟩, ⟨_, _, _, _, h4.set _ _ _ _⟩, blk_other h5 hg (by omega), h6.st h4.noI hg (by omega), fun h => by omega, fun _ => (h8 (by decide)).st h4.noI hg (by omega), fun _ => Hr.stored h4 hz⟩, tab9g_st h4.noI hg⟩
            · intro f w' h _
              have HI : Hid (G9 w (B : Int) (R : Int) w') := ⟨h.1, h.2.2.2.2.2.2.2.1 (by decide), h.2.2.2.2.2.2.2.2 (by decide), h.2.2.2.2.1⟩
              clear h
              go_step
              first | (go_step; go_roundg R) | (apply_assumption; go_roundg R) | go_roundg R
              case measure => rw [HGB.out]; exact R1.out
              case rel => exact ⟨B, R, HI, rfl, R2.out.trans HGC.out, SB, SR⟩
end Go.Proofs.YtjjomjjgoceklaaGreat
namespace Go.Proofs.YtjjomjjgoceklaaGreat
set_option maxRecDepth 100000
open Go.RowKit

/-! ## WholeQuotients: the law's walk -/
theorem cf76 : CF 76 := fun W args => by go_simp
theorem cf102 : CF 102 := fun W args => by go_simp
theorem rn_not {ρ : Operand → Value} {o : Oper} {w : World} {t : Operand} {b : Bool} (ho : o.op = .unOp .not 4 t) (h1 : ρ t = .bool b) : (execOp ρ o).run Tryz.prog w = .ok (.value (.bool (!b))) w := by
  unfold execOp; rw [ho]; simp [go_sem, h1]
end Go.Proofs.YtjjomjjgoceklaaGreat
