import Derived.Test.YtljmhejljpfaiaaFa
namespace Go.Proofs.Ytljmhejljpfaiaa
set_option maxRecDepth 100000
open Go.RowKit Go.Shelf

/-! Centre, Extent, Bed -/
/-- Centre -/
def PCe (s : SV) (w : World) (e : Ending) (w' : World) : Prop := (∃ x y z f : Int, e = .returned (.tuple #[.int .i64 x, .int .i64 y, .int .i64 z, .int .i64 f]) ∧ ((Vld s ∧ f = 0 ∧ x = mx3 s.l ∧ y = mz3 s.l ∧ z = 3 * tw s.l) ∨ (¬ Vld s ∧ f = 2 ∧ x = 0 ∧ y = 0 ∧ z = 0))) ∧ Below w.heap.size w w'
set_option maxHeartbeats 4000000 in
theorem centreF_any (s : SV) (v : Value) (w : World) (hn : s.nm.size ≤ maxLen) (h : Pts w v s.l) : Calls Try.prog 20 #[stv s v] w (PCe s w) := by
  obtain ⟨p, c, hv⟩ : ∃ p c, v = .slice p s.l.length c := ⟨_, _, h.2.choose_spec.choose_spec.1⟩
  subst hv
  have HC := Lib.hid (fun W (k : Below w.heap.size w W) => askM_any s (.slice p s.l.length c) W hn (h.keep k))
  have HT : Hid (∀ x y z f : Int, ((Vld s ∧ f = 0 ∧ x = tw s.l ∧ y = mx3 s.l ∧ z = mz3 s.l) ∨ (¬ Vld s ∧ f = 2 ∧ x = 0 ∧ y = 0 ∧ z = 0)) → (-8000000000 ≤ x ∧ x ≤ 8000000000) ∧ ∀ W, Below w.heap.size w W → PCe s w (.returned (.tuple #[.int .i64 y, .int .i64 z, .int .i64 (3 * x), .int .i64 f])) W) := by
    intro x y z f hx
    rcases hx with ⟨hv, rfl, rfl, rfl, rfl⟩ | ⟨hv, rfl, rfl, rfl, rfl⟩
    · exact ⟨tw_bd hv.2.1.2.1 (by have := hv.2.1.1; omega), fun W k => ⟨⟨_, _, _, _, rfl, .inl ⟨hv, rfl, rfl, rfl, rfl⟩⟩, k⟩⟩
    · exact ⟨by omega, fun W k => ⟨⟨_, _, _, _, rfl, .inr ⟨hv, rfl, rfl, rfl, rfl⟩⟩, k⟩⟩
  obtain ⟨nm, l, dp, dn, gx, gz⟩ := s
  unfold stv at *
  dsimp only at *
  clear h hn
  generalize l.length = n at *
  go_enter Try.func20, Try.ntmps20
  go_wp2_with fail
  refine (HC.out _ (bl1 w _)).mono ?_
  rintro e w1 ⟨⟨x, y, z, f, rfl, hx⟩, hb1⟩
  obtain ⟨hxb, hx⟩ := HT.out _ _ _ _ hx
  have K1 := Lib.hid (Below.thru (bl1 w _) (by simp) hb1)
  have HX := Lib.hid hx
  have e1 := IntWalk.i64_in (3 * x) (by omega)
  clear hb1 hx
  go_wp2_with fail
  have m7 : B3 90 w1.heap.size x y z (w1.alloc (.cells #[.int .i64 x, .int .i64 y, .int .i64 z] 90)) := World.alloc_heap_new _ _
  obtain ⟨⟨c0, c1, c2⟩, -⟩ := m7.cells
  have K7 := Lib.hid (Below.thru K1.out K1.out.size (bl1 w1 (.cells #[.int .i64 x, .int .i64 y, .int .i64 z] 90)))
  clear m7
  generalize w1.alloc (.cells #[.int .i64 x, .int .i64 y, .int .i64 z] 90) = w7 at *
  generalize w1.heap.size = T6 at *
  have f0 := cell_regrown c0
  have f1 := cell_regrown c1
  have f2 := cell_regrown c2
  refine wp_region_quiet_below (by kernel_rfl) (by kernel_rfl) ?_
  repeat (any_goals (first | go_big_quiet_step (fail) | quiet_step (fail)))
  refine wpQuiet_nil ?_
  intro _ hw'
  obtain ⟨⟨dq, osq⟩, hw''⟩ := hw'
  subst hw''
  have k9 := Below.thru K7.out K7.out.size (below_regrown w7 dq osq)
  clear f0 f1 f2 c0 c1 c2
  generalize Sort.grow (redrawn w7 dq) osq = w9 at *
  go_wp2
  exact bodyPost_ret (v := .tuple #[.int .i64 y, .int .i64 z, .int .i64 (3 * x), .int .i64 f]) (by simp [results, Try.results20, go_sem]) rfl (HX.out _ k9)
end Go.Proofs.Ytljmhejljpfaiaa
