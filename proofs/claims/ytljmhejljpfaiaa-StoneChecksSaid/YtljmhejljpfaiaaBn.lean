import Derived.Test.YtljmhejljpfaiaaBm
namespace Go.Proofs.Ytljmhejljpfaiaa
set_option maxRecDepth 100000
open Go.RowKit Go.Shelf

/-! MinFunc by lower -/
/-- the least of the first k + 1 corners -/
def mnL (l : List Pt) : Nat → Pt
  | 0 => (px l 0, pz l 0)
  | k + 1 => if lowI (px l (k + 1)) (pz l (k + 1)) (mnL l k).1 (mnL l k).2 < 0 then (px l (k + 1), pz l (k + 1)) else mnL l k
set_option maxHeartbeats 4000000 in
theorem minFunc_any (b o c : Nat) (l : List Pt) (w : World) (hr : Row w b o l) (h3 : 0 < l.length) (h12 : l.length ≤ 1000000) :
    Calls Try.prog 100 #[.slice (some ⟨b, o, none⟩) l.length c, .func (.func 101) #[] #[]] w fun e w' => e = .returned (.agg #[.int .i64 (mnL l (l.length - 1)).1, .int .i64 (mnL l (l.length - 1)).2]) ∧ Below w.heap.size w w' := by
  have HR := Lib.hid hr
  obtain ⟨n, hn⟩ : ∃ n, n = l.length := ⟨_, rfl⟩
  rw [← hn] at h3 h12 ⊢
  have HN := Lib.hid hn
  have hbw := hr.lt (by omega)
  obtain ⟨c0x, c0z⟩ := hr 0 (by omega)
  simp only [Nat.zero_mul, Nat.add_zero] at c0x c0z
  have H0 : Hid (mnL l 0 = (px l 0, pz l 0)) := rfl
  clear hr hn
  go_enter Try.func100, Try.ntmps100
  go_wp2
  go_loopw [6] (fun i wr => ∃ k : Nat, k + 1 ≤ n ∧ i = .int .i64 (k + 1 : Nat) ∧ B2 (w.heap.size + 1) (mnL l k).1 (mnL l k).2 wr ∧ B2 w.heap.size 0 0 wr ∧ Below w.heap.size w wr) (fun i _ => n - (intOf i).toNat)
  case atStart => exact ⟨0, by omega, rfl, ⟨by simp [go_sem, H0.out], by simp [go_sem, H0.out], by simp [go_sem], by simp [go_sem]⟩, ⟨by simp [go_sem], by simp [go_sem], by simp [go_sem], by simp [go_sem]⟩, bl2 _ _ _⟩
  case round =>
    obtain ⟨k, hk, rfl, hM, hZ, hB⟩ := hrel
    obtain ⟨m, hm⟩ : ∃ m, m = k + 1 := ⟨_, rfl⟩
    rw [← hm]
    rw [← hm] at hk
    have HMk := Lib.hid hm
    by_cases hlt : m < n
    · have hrow := HR.out.keep hB
      obtain ⟨ckx, ckz⟩ := hrow m (by rw [← HN.out]; exact hlt)
      clear hrow
      have HMS : Hid (mnL l m = if lowI (px l m) (pz l m) (mnL l k).1 (mnL l k).2 < 0 then (px l m, pz l m) else mnL l k) := by
        show _ = _
        rw [hm]; rfl
      have HL := Lib.hid (fun W => lower_any (px l m) (pz l m) (mnL l k).1 (mnL l k).2 W)
      have HLT := Lib.hid hlt
      generalize lowI (px l m) (pz l m) (mnL l k).1 (mnL l k).2 = lv at *
      generalize hcur : mnL l k = cur at *
      obtain ⟨mx, mz⟩ := cur
      dsimp only at *
      generalize px l m = fx at *
      generalize pz l m = fz at *
      have c1 := cell_regrown hM.1
      have c2 := cell_regrown hM.2.1
      have ckx' := cell_regrown ckx
      have ckz' := cell_regrown ckz
      clear hm hcur
      by_cases hl : lv < 0
      · have HR2 : Hid (mnL l m = (fx, fz)) := by show _ = _; rw [HMS.out, if_pos hl]
        go_wp2_with fail
        refine wp_region_quiet_below (by kernel_rfl) (by kernel_rfl) ?_
        repeat (any_goals (first | go_big_quiet_step (exact quiet_below HL.out wr _ _) | quiet_step (exact quiet_below HL.out wr _ _)))
        refine wpQuiet_nil ?_
        intro _ hw'
        obtain ⟨⟨dq, osq⟩, hw''⟩ := hw'
        subst hw''
        have k2 := Below.thru hB hB.size (below_regrown wr dq osq)
        have m2 := hM.keep (below_regrown wr dq osq)
        have z2 := hZ.keep (below_regrown wr dq osq)
        replace ckx := ckx' dq osq
        replace ckz := ckz' dq osq
        clear c1 c2 ckx' ckz' hB hM hZ
        generalize Sort.grow (redrawn wr dq) osq = w1 at *
        obtain ⟨g0, g1, g2, g3⟩ := id m2
        go_wp2
        go_roundw
        case rel => exact ⟨m, by have := HLT.out; omega, by go_num, by rw [HR2.out]; exact m2.put fx fz, z2.far (by omega) _ _, (k2.setCell (by simp) _).setCell (by simp) _⟩
        case measure =>
          have e9 : ((m : Int) + 1).toNat = m + 1 := by omega
          have := HLT.out
          simp only [intOf, Int.toNat_natCast, e9]
          omega
      · have HR2 : Hid (mnL l m = (mx, mz)) := by show _ = _; rw [HMS.out, if_neg hl]
        go_wp2_with fail
        refine wp_region_quiet_below (by kernel_rfl) (by kernel_rfl) ?_
        repeat (any_goals (first | go_big_quiet_step (exact quiet_below HL.out wr _ _) | quiet_step (exact quiet_below HL.out wr _ _)))
        refine wpQuiet_nil ?_
        intro _ hw'
        obtain ⟨⟨dq, osq⟩, hw''⟩ := hw'
        subst hw''
        have k2 := Below.thru hB hB.size (below_regrown wr dq osq)
        have m2 := hM.keep (below_regrown wr dq osq)
        have z2 := hZ.keep (below_regrown wr dq osq)
        replace ckx := ckx' dq osq
        replace ckz := ckz' dq osq
        clear c1 c2 ckx' ckz' hB hM hZ
        generalize Sort.grow (redrawn wr dq) osq = w1 at *
        obtain ⟨g0, g1, g2, g3⟩ := id m2
        go_wp2
        go_roundw
        case rel => exact ⟨m, by have := HLT.out; omega, by go_num, by rw [HR2.out]; exact m2, z2, k2⟩
        case measure =>
          have e9 : ((m : Int) + 1).toNat = m + 1 := by omega
          have := HLT.out
          simp only [intOf, Int.toNat_natCast, e9]
          omega
    · have hmn : m = n := by omega
      have hk9 : k = n - 1 := by omega
      subst hmn
      rw [hk9] at hM
      obtain ⟨g0, g1, g2, g3⟩ := hM
      obtain ⟨r0, r1, r2, r3⟩ := id hZ
      generalize hx1 : (mnL l (m - 1)).1 = mx at *
      generalize hx2 : (mnL l (m - 1)).2 = mz at *
      have X1 := Lib.hid hx1; have X2 := Lib.hid hx2
      have R9 := B2.put hZ mx mz
      have k9 := below_put hB (Nat.le_refl _) (.int .i64 mx) (.int .i64 mz)
      obtain ⟨q0, q1, _, _⟩ := R9
      clear hm hk9 hx1 hx2
      go_wp2
      exact bodyPost_ret (v := .agg #[.int .i64 mx, .int .i64 mz]) (by simp [results, Try.results100, go_sem, q0, q1]) rfl ⟨by rw [X1.out, X2.out], k9⟩
end Go.Proofs.Ytljmhejljpfaiaa
