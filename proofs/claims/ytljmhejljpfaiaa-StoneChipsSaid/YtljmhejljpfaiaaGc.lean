import Derived.Test.YtljmhejljpfaiaaGa
namespace Go.Proofs.Ytljmhejljpfaiaa
set_option maxRecDepth 100000
open Go.RowKit Go.Shelf

/-! the reference's On, IsBorder, Apart -/
set_option maxHeartbeats 4000000 in
theorem ron_any (ax az bx bz x z : Int) (w : World) (h1 : Sm ax) (h2 : Sm az) (h3 : Sm bx) (h4 : Sm bz) (h5 : Sm x) (h6 : Sm z) :
    Calls Try.prog 83 #[.agg #[.int .i64 ax, .int .i64 az], .agg #[.int .i64 bx, .int .i64 bz], .agg #[.int .i64 x, .int .i64 z]] w fun e w' => e = .returned (.bool (oe x z ax az bx bz)) ∧ Below w.heap.size w w' := by
  have HS := Lib.hid (fun W => side_any ax az bx bz x z W h1 h2 h3 h4 h5 h6)
  have H1 : Hid (∀ W lo hi, lo = min ax bx → hi = max ax bx → Calls Try.prog 50 #[.int .i64 x, .int .i64 lo, .int .i64 hi] W fun e w' => e = .returned (.bool (btw x ax bx)) ∧ W = w') := fun W lo hi e1 e2 => by
    subst e1 e2; exact in_any _ _ _ _
  have H2 : Hid (∀ W lo hi, lo = min az bz → hi = max az bz → Calls Try.prog 50 #[.int .i64 z, .int .i64 lo, .int .i64 hi] W fun e w' => e = .returned (.bool (btw z az bz)) ∧ W = w') := fun W lo hi e1 e2 => by
    subst e1 e2; exact in_any _ _ _ _
  have HO : Hid (oe x z ax az bx bz = (btw x ax bx && (btw z az bz && (trn ax az bx bz x z == 0)))) := rfl
  clear h1 h2 h3 h4 h5 h6
  generalize oe x z ax az bx bz = r at *
  generalize trn ax az bx bz x z = tn at *
  generalize btw x ax bx = q1 at *
  generalize btw z az bz = q2 at *
  have KB := Lib.hid (bl3 w (.cells #[.int .i64 ax, .int .i64 az] 24) (.cells #[.int .i64 bx, .int .i64 bz] 24) (.cells #[.int .i64 x, .int .i64 z] 24))
  have S1 : Hid (B2 w.heap.size ax az (((w.alloc (.cells #[.int .i64 ax, .int .i64 az] 24)).alloc (.cells #[.int .i64 bx, .int .i64 bz] 24)).alloc (.cells #[.int .i64 x, .int .i64 z] 24))) := ⟨by simp [go_sem], by simp [go_sem], by simp [go_sem], by simp [go_sem]⟩
  have S2 : Hid (B2 (w.heap.size + 1) bx bz (((w.alloc (.cells #[.int .i64 ax, .int .i64 az] 24)).alloc (.cells #[.int .i64 bx, .int .i64 bz] 24)).alloc (.cells #[.int .i64 x, .int .i64 z] 24))) := ⟨by simp [go_sem], by simp [go_sem], by simp [go_sem], by simp [go_sem]⟩
  have S3 : Hid (B2 (w.heap.size + 1 + 1) x z (((w.alloc (.cells #[.int .i64 ax, .int .i64 az] 24)).alloc (.cells #[.int .i64 bx, .int .i64 bz] 24)).alloc (.cells #[.int .i64 x, .int .i64 z] 24))) := ⟨by simp [go_sem], by simp [go_sem], by simp [go_sem], by simp [go_sem]⟩
  go_enter Try.func83, Try.ntmps83
  go_wp2_with fail
  generalize ((w.alloc (.cells #[.int .i64 ax, .int .i64 az] 24)).alloc (.cells #[.int .i64 bx, .int .i64 bz] 24)).alloc (.cells #[.int .i64 x, .int .i64 z] 24) = w0 at *
  refine (HS.out _).mono ?_
  rintro e w1 ⟨rfl, hb⟩
  have k1 := Below.thru KB.out KB.out.size hb
  have K1 := Lib.hid k1
  obtain ⟨a0, a1, _, _⟩ := S1.out.keep hb
  obtain ⟨b0, b1, _, _⟩ := S2.out.keep hb
  obtain ⟨c0, c1, _, _⟩ := S3.out.keep hb
  clear hb k1
  by_cases ht : tn = 0
  · subst ht
    cases q1 with
    | false =>
      go_wp2_with ((first | (go_at_call 50; (with_reducible refine (H1.out _ _ _ ?_ ?_).mono ?_); omega; omega; rintro e w' ⟨rfl, rfl⟩) | (go_at_call 50; (with_reducible refine (H2.out _ _ _ ?_ ?_).mono ?_); omega; omega; rintro e w' ⟨rfl, rfl⟩)))
      all_goals
        go_ret
        exact ⟨by rw [HO.out]; rfl, K1.out⟩
    | true =>
      cases q2 with
      | false =>
        go_wp2_with ((first | (go_at_call 50; (with_reducible refine (H1.out _ _ _ ?_ ?_).mono ?_); omega; omega; rintro e w' ⟨rfl, rfl⟩) | (go_at_call 50; (with_reducible refine (H2.out _ _ _ ?_ ?_).mono ?_); omega; omega; rintro e w' ⟨rfl, rfl⟩)))
        all_goals
          go_ret
          exact ⟨by rw [HO.out]; rfl, K1.out⟩
      | true =>
        go_wp2_with ((first | (go_at_call 50; (with_reducible refine (H1.out _ _ _ ?_ ?_).mono ?_); omega; omega; rintro e w' ⟨rfl, rfl⟩) | (go_at_call 50; (with_reducible refine (H2.out _ _ _ ?_ ?_).mono ?_); omega; omega; rintro e w' ⟨rfl, rfl⟩)))
        all_goals
          go_ret
          exact ⟨by rw [HO.out]; rfl, K1.out⟩
  · have HT : Hid ((tn == 0) = false) := by show _ = _; simp [ht]
    go_wp2_with fail
    go_ret
    exact ⟨by rw [HO.out, HT.out]; simp, K1.out⟩
end Go.Proofs.Ytljmhejljpfaiaa
