import Derived.Test.YtljmhejljpfaiaaV
namespace Go.Proofs.Ytljmhejljpfaiaa
set_option maxRecDepth 100000
open Go.RowKit

/-! steps -/
/-- the number of steps of an edge -/
def sn (x1 z1 x2 z2 : Int) : Nat := Nat.gcd (x2 - x1).natAbs (z2 - z1).natAbs
theorem sn_pos {x1 z1 x2 z2 : Int} (h : ¬ (x2 = x1 ∧ z2 = z1)) : 0 < sn x1 z1 x2 z2 := by
  unfold sn
  rcases Nat.eq_zero_or_pos (x2 - x1).natAbs with e | e
  · rw [e, Nat.gcd_zero_left]; omega
  · exact Nat.gcd_pos_of_pos_left _ e
theorem tdiv_bd {a n : Int} (ha : -4000 ≤ a ∧ a ≤ 4000) (_hn : 1 ≤ n) : -4000 ≤ a.tdiv n ∧ a.tdiv n ≤ 4000 := by
  have h2 : (a.tdiv n).natAbs ≤ a.natAbs := by rw [Int.natAbs_tdiv]; exact Nat.div_le_self _ _
  omega
set_option maxHeartbeats 2000000 in
theorem steps_any (x1 z1 x2 z2 : Int) (w : World) (b1 : 0 ≤ x1 ∧ x1 ≤ 2000) (b2 : 0 ≤ z1 ∧ z1 ≤ 2000) (b3 : 0 ≤ x2 ∧ x2 ≤ 2000) (b4 : 0 ≤ z2 ∧ z2 ≤ 2000) (hne : ¬ (x2 = x1 ∧ z2 = z1)) :
    Calls Try.prog 84 #[.agg #[.int .i64 x1, .int .i64 z1], .agg #[.int .i64 x2, .int .i64 z2]] w fun e w' =>
      e = .returned (.tuple #[.int .i64 (sn x1 z1 x2 z2 : Nat), .agg #[.int .i64 ((x2 - x1).tdiv (sn x1 z1 x2 z2 : Nat)), .int .i64 ((z2 - z1).tdiv (sn x1 z1 x2 z2 : Nat))]]) ∧ Below w.heap.size w w' := by
  have hp := sn_pos hne
  have e1 := IntWalk.i64_in (x2 - x1) (by omega)
  have e2 := IntWalk.i64_in (z2 - z1) (by omega)
  have d1 := tdiv_bd (a := x2 - x1) (n := (sn x1 z1 x2 z2 : Nat)) (by omega) (by omega)
  have d2 := tdiv_bd (a := z2 - z1) (n := (sn x1 z1 x2 z2 : Nat)) (by omega) (by omega)
  have HX := Lib.hid (fun W => size_any (x2 - x1) W (by omega))
  have HZ := Lib.hid (fun W => size_any (z2 - z1) W (by omega))
  have HG : Hid (∀ W, Calls Try.prog 110 #[.int .i64 ((x2 - x1).natAbs : Int), .int .i64 ((z2 - z1).natAbs : Int)] W fun e w' => e = .returned (.int .i64 (sn x1 z1 x2 z2 : Nat)) ∧ Below W.heap.size W w') := fun W => divisor_any _ _ W (by omega) (by omega)
  generalize sn x1 z1 x2 z2 = n at *
  have h0 : ¬ (n : Int) = 0 := by omega
  have f1 := IntWalk.i64_in ((x2 - x1).tdiv (n : Int)) (by omega)
  have f2 := IntWalk.i64_in ((z2 - z1).tdiv (n : Int)) (by omega)
  clear b1 b2 b3 b4 hne d1 d2 hp
  go_enter Try.func84, Try.ntmps84
  go_wp2_with fail
  have s1 : B2 w.heap.size x1 z1 (((w.alloc (.cells #[.int .i64 x1, .int .i64 z1] 32)).alloc (.cells #[.int .i64 x2, .int .i64 z2] 32)).alloc (.cells #[.int .i64 0, .int .i64 0] 32)) := ⟨by simp [go_sem], by simp [go_sem], by simp [go_sem], by simp [go_sem]⟩
  have s2 : B2 (w.heap.size + 1) x2 z2 (((w.alloc (.cells #[.int .i64 x1, .int .i64 z1] 32)).alloc (.cells #[.int .i64 x2, .int .i64 z2] 32)).alloc (.cells #[.int .i64 0, .int .i64 0] 32)) := ⟨by simp [go_sem], by simp [go_sem], by simp [go_sem], by simp [go_sem]⟩
  have s3 : B2 (w.heap.size + 1 + 1) 0 0 (((w.alloc (.cells #[.int .i64 x1, .int .i64 z1] 32)).alloc (.cells #[.int .i64 x2, .int .i64 z2] 32)).alloc (.cells #[.int .i64 0, .int .i64 0] 32)) := ⟨by simp [go_sem], by simp [go_sem], by simp [go_sem], by simp [go_sem]⟩
  have hB0 := bl3 w (.cells #[.int .i64 x1, .int .i64 z1] 32) (.cells #[.int .i64 x2, .int .i64 z2] 32) (.cells #[.int .i64 0, .int .i64 0] 32)
  generalize ((w.alloc (.cells #[.int .i64 x1, .int .i64 z1] 32)).alloc (.cells #[.int .i64 x2, .int .i64 z2] 32)).alloc (.cells #[.int .i64 0, .int .i64 0] 32) = w0 at *
  have c1 := cell_regrown s1.1
  have c2 := cell_regrown s1.2.1
  have c3 := cell_regrown s2.1
  have c4 := cell_regrown s2.2.1
  refine wp_region_quiet_below (by kernel_rfl) (by kernel_rfl) ?_
  repeat (any_goals (first | go_big_quiet_step (first | exact quiet_same HX.out w0 _ _ | exact quiet_same HZ.out w0 _ _ | exact quiet_below HG.out w0 _ _) | quiet_step (first | exact quiet_same HX.out w0 _ _ | exact quiet_same HZ.out w0 _ _ | exact quiet_below HG.out w0 _ _)))
  refine wpQuiet_nil ?_
  intro _ hw'
  obtain ⟨⟨dq, osq⟩, hw''⟩ := hw'
  subst hw''
  clear c1 c2 c3 c4
  replace s1 := s1.keep (below_regrown w0 dq osq)
  replace s2 := s2.keep (below_regrown w0 dq osq)
  replace s3 := s3.keep (below_regrown w0 dq osq)
  have hBq := Below.thru hB0 hB0.size (below_regrown w0 dq osq)
  generalize Sort.grow (redrawn w0 dq) osq = w1 at *
  clear hB0
  obtain ⟨a1, a2, a3, a4⟩ := s1
  obtain ⟨p1, p2, p3, p4⟩ := s2
  obtain ⟨r1, r2, r3, r4⟩ := id s3
  go_wp2_with fail
  go_region
  have s4 := (B2.put s3 ((x2 - x1).tdiv (n : Int)) ((z2 - z1).tdiv (n : Int))).drew
  obtain ⟨g1, g2, _, _⟩ := s4
  go_wp2
  exact bodyPost_ret (v := .tuple #[.int .i64 (n : Int), .agg #[.int .i64 ((x2 - x1).tdiv (n : Int)), .int .i64 ((z2 - z1).tdiv (n : Int))]]) (by simp [results, Try.results84, go_sem, g1, g2]) rfl ⟨rfl, (below_put hBq (by omega) _ _).drew⟩
end Go.Proofs.Ytljmhejljpfaiaa
