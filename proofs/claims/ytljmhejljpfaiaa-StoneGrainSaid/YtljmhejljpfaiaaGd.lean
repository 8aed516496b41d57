import Derived.Test.YtljmhejljpfaiaaGa
namespace Go.Proofs.Ytljmhejljpfaiaa
set_option maxRecDepth 100000
open Go.RowKit Go.Shelf

/-! the reference's On, IsBorder, Apart -/
set_option maxHeartbeats 4000000 in
theorem ron_any (ax az bx bz x z : Int) (w : World) (h1 : Sm ax) (h2 : Sm az) (h3 : Sm bx) (h4 : Sm bz) (h5 : Sm x) (h6 : Sm z) :
    Calls Try.prog 83 #[.agg #[.int .i64 ax, .int .i64 az], .agg #[.int .i64 bx, .int .i64 bz], .agg #[.int .i64 x, .int .i64 z]] w fun e w' => e = .returned (.bool (oe x z ax az bx bz)) ∧ Below w.heap.size w w' := by
  have HS := Lib.hid (fun W => side_any ax az bx bz x z W h1 h2 h3 h4 h5 h6)
  have H1 : Hid (∀ W lo hi, lo = min ax bx → hi = max ax bx → Calls Try.prog 50 #[.int .i64 x, .int .i64 lo, .int .i64 hi] W fun e w' => e = .returned (.bool (btw x ax bx)) ∧ W = w') := fun W lo hi e1 e2 => by
    subst e1 e2; exact in_any _ _ _ _
  have H2 : Hid (∀ W lo hi, lo = min az bz → hi = max az bz → Calls Try.prog 50 #[.int .i64 z, .int .i64 lo, .int .i64 hi] W fun e w' => e = .returned (.bool (btw z az bz)) ∧ W = w') := fun W lo hi e1 e2 => by
    subst e1 e2; exact in_any _ _ _ _
  have HO : Hid (oe x z ax az bx bz = (btw x ax bx && (btw z az bz && (trn ax az bx bz x z == 0)))) := rfl
  clear h1 h2 h3 h4 h5 h6
  generalize oe x z ax az bx bz = r at *
  generalize trn ax az bx bz x z = tn at *
  generalize btw x ax bx = q1 at *
  generalize btw z az bz = q2 at *
  have KB := Lib.hid (bl3 w (.cells #[.int .i64 ax, .int .i64 az] 24) (.cells #[.int .i64 bx, .int .i64 bz] 24) (.cells #[.int .i64 x, .int .i64 z] 24))
  have S1 : Hid (B2 w.heap.size ax az (((w.alloc (.cells #[.int .i64 ax, .int .i64 az] 24)).alloc (.cells #[.int .i64 bx, .int .i64 bz] 24)).alloc (.cells #[.int .i64 x, .int .i64 z] 24))) := ⟨by simp [go_sem], by simp [go_sem], by simp [go_sem], by simp [go_sem]⟩
  have S2 : Hid (B2 (w.heap.size + 1) bx bz (((w.alloc (.cells #[.int .i64 ax, .int .i64 az] 24)).alloc (.cells #[.int .i64 bx, .int .i64 bz] 24)).alloc (.cells #[.int .i64 x, .int .i64 z] 24))) := ⟨by simp [go_sem], by simp [go_sem], by simp [go_sem], by simp [go_sem]⟩
  have S3 : Hid (B2 (w.heap.size + 1 + 1) x z (((w.alloc (.cells #[.int .i64 ax, .int .i64 az] 24)).alloc (.cells #[.int .i64 bx, .int .i64 bz] 24)).alloc (.cells #[.int .i64 x, .int .i64 z] 24))) := ⟨by simp [go_sem], by simp [go_sem], by simp [go_sem], by simp [go_sem]⟩
  go_enter Try.func83, Try.ntmps83
  go_wp2_with fail
  generalize ((w.alloc (.cells #[.int .i64 ax, .int .i64 az] 24)).alloc (.cells #[.int .i64 bx, .int .i64 bz] 24)).alloc (.cells #[.int .i64 x, .int .i64 z] 24) = w0 at *
  refine (HS.out _).mono ?_
  rintro e w1 ⟨rfl, hb⟩
  have k1 := Below.thru KB.out KB.out.size hb
  have K1 := Lib.hid k1
  obtain ⟨a0, a1, _, _⟩ := S1.out.keep hb
  obtain ⟨b0, b1, _, _⟩ := S2.out.keep hb
  obtain ⟨c0, c1, _, _⟩ := S3.out.keep hb
  clear hb k1
  by_cases ht : tn = 0
  · subst ht
    cases q1 with
    | false =>
      go_wp2_with ((first | (go_at_call 50; (with_reducible refine (H1.out _ _ _ ?_ ?_).mono ?_); omega; omega; rintro e w' ⟨rfl, rfl⟩) | (go_at_call 50; (with_reducible refine (H2.out _ _ _ ?_ ?_).mono ?_); omega; omega; rintro e w' ⟨rfl, rfl⟩)))
      all_goals
        go_ret
        exact ⟨by rw [HO.out]; rfl, K1.out⟩
    | true =>
      cases q2 with
      | false =>
        go_wp2_with ((first | (go_at_call 50; (with_reducible refine (H1.out _ _ _ ?_ ?_).mono ?_); omega; omega; rintro e w' ⟨rfl, rfl⟩) | (go_at_call 50; (with_reducible refine (H2.out _ _ _ ?_ ?_).mono ?_); omega; omega; rintro e w' ⟨rfl, rfl⟩)))
        all_goals
          go_ret
          exact ⟨by rw [HO.out]; rfl, K1.out⟩
      | true =>
        go_wp2_with ((first | (go_at_call 50; (with_reducible refine (H1.out _ _ _ ?_ ?_).mono ?_); omega; omega; rintro e w' ⟨rfl, rfl⟩) | (go_at_call 50; (with_reducible refine (H2.out _ _ _ ?_ ?_).mono ?_); omega; omega; rintro e w' ⟨rfl, rfl⟩)))
        all_goals
          go_ret
          exact ⟨by rw [HO.out]; rfl, K1.out⟩
  · have HT : Hid ((tn == 0) = false) := by show _ = _; simp [ht]
    go_wp2_with fail
    go_ret
    exact ⟨by rw [HO.out, HT.out]; simp, K1.out⟩
end Go.Proofs.Ytljmhejljpfaiaa
namespace Go.Proofs.Ytljmhejljpfaiaa
set_option maxRecDepth 100000
open Go.RowKit Go.Shelf

set_option maxHeartbeats 4000000 in
theorem isBorder_any (b o c : Nat) (l : List Pt) (x z : Int) (w : World) (hr : Row w b o l) (h3 : 3 ≤ l.length) (h12 : l.length ≤ 12) (hx : Bx l) (ht : Tr l) :
    Calls Try.prog 39 #[.slice (some ⟨b, o, none⟩) l.length c, .agg #[.int .i64 x, .int .i64 z]] w (PBt (IsP l x z) w) := by
  have HR := Lib.hid hr; have HX := Lib.hid hx
  have HI := Lib.hid (isP_iff ht h3 x z)
  have HBX : Hid (IsP l x z → inB x 0 2000 = true ∧ inB z 0 2000 = true) := fun h => by
    obtain ⟨i, hi, h⟩ := (isP_iff ht h3 x z).1 h
    have a := hx i hi; have a' := hx _ (nx_lt hi)
    unfold oe at h
    simp only [Bool.and_eq_true] at h
    have e1 := btw_in h.1 a.1 a'.1
    have e2 := btw_in h.2.1 a.2 a'.2
    exact ⟨inB_t e1.1 e1.2, inB_t e2.1 e2.2⟩
  have HIN : Hid (∀ n : Int, inB n 0 2000 = true → 0 ≤ n ∧ n ≤ 2000) := fun n h => by simpa [inB] using h
  obtain ⟨n, hn⟩ : ∃ n, n = l.length := ⟨_, rfl⟩
  rw [← hn] at h3 h12 HI ⊢
  have HN := Lib.hid hn
  have hbw := hr.lt (by omega)
  have S0 : Hid (B2 w.heap.size x z (w.alloc (.cells #[.int .i64 x, .int .i64 z] 24)) ∧ Below w.heap.size w (w.alloc (.cells #[.int .i64 x, .int .i64 z] 24))) := ⟨⟨by simp [go_sem], by simp [go_sem], by simp [go_sem], by simp [go_sem]⟩, bl1 w _⟩
  have HP := Lib.hid (fun W => in_any x 0 2000 W)
  have HQ := Lib.hid (fun W => in_any z 0 2000 W)
  clear hr hx hn ht
  generalize hq1 : inB x 0 2000 = q1 at *
  generalize hq2 : inB z 0 2000 = q2 at *
  generalize IsP l x z = IP at *
  have HQ1 := Lib.hid hq1; have HQ2 := Lib.hid hq2
  clear hq1 hq2
  have s0 := S0.out.1.1
  have s1 := S0.out.1.2.1
  go_enter Try.func39, Try.ntmps39
  cases q1 with
  | false =>
    go_wp2_with ((first | (go_at_call 50; (with_reducible refine (HP.out _).mono ?_); rintro e w' ⟨rfl, rfl⟩) | (go_at_call 50; (with_reducible refine (HQ.out _).mono ?_); rintro e w' ⟨rfl, rfl⟩)))
    go_ret
    exact PBt.no (fun h => by cases (HBX.out h).1) S0.out.2
  | true =>
    cases q2 with
    | false =>
      go_wp2_with ((first | (go_at_call 50; (with_reducible refine (HP.out _).mono ?_); rintro e w' ⟨rfl, rfl⟩) | (go_at_call 50; (with_reducible refine (HQ.out _).mono ?_); rintro e w' ⟨rfl, rfl⟩)))
      go_ret
      exact PBt.no (fun h => by cases (HBX.out h).2) S0.out.2
    | true =>
      have hxz : (0 ≤ x ∧ x ≤ 2000) ∧ (0 ≤ z ∧ z ≤ 2000) := ⟨HIN.out x HQ1.out, HIN.out z HQ2.out⟩
      have HXZ := Lib.hid hxz
      clear hxz
      go_wp2_with ((first | (go_at_call 50; (with_reducible refine (HP.out _).mono ?_); rintro e w' ⟨rfl, rfl⟩) | (go_at_call 50; (with_reducible refine (HQ.out _).mono ?_); rintro e w' ⟨rfl, rfl⟩)))
      clear s0 s1
      generalize w.alloc (.cells #[.int .i64 x, .int .i64 z] 24) = w0 at *
      have HK0 : Hid (∀ W, Below w0.heap.size w0 W → B2 w.heap.size x z W ∧ Below w.heap.size w W) := fun W kk => ⟨S0.out.1.keep kk, Below.thru S0.out.2 S0.out.2.size kk⟩
      go_loopw [5] (fun i wr => ∃ k : Nat, k ≤ n ∧ i = .int .i64 k ∧ Hid (∀ j, j < k → oe x z (px l j) (pz l j) (px l (nx n j)) (pz l (nx n j)) = false) ∧ Below w0.heap.size w0 wr) (fun i _ => n - (intOf i).toNat)
      case atStart => exact ⟨0, Nat.zero_le _, rfl, fun j hj => absurd hj (by omega), Below.refl _ _⟩
      case round =>
        obtain ⟨k, hk, rfl, HK, hB⟩ := hrel
        by_cases hkn : k < n
        · have hj := nx_lt hkn
          have q9 := HK0.out _ hB
          have hrow := HR.out.keep q9.2
          have s0 := HX.out k (by rw [← HN.out]; exact hkn)
          have s1 := HX.out (nx n k) (by rw [← HN.out]; exact hj)
          have s9 := HXZ.out
          have HT := Lib.hid (quiet_below (fun w => ron_any (px l k) (pz l k) (px l (nx n k)) (pz l (nx n k)) x z w (by unfold Sm; omega) (by unfold Sm; omega) (by unfold Sm; omega) (by unfold Sm; omega) (by unfold Sm; omega) (by unfold Sm; omega)))
          have HNX : Hid (∀ d os, Calls Try.prog 64 #[.slice (some ⟨b, o, none⟩) n c, .int .i64 k] (Sort.grow (redrawn wr d) os) fun e w'' => e = .returned (.agg #[.int .i64 (px l (nx n k)), .int .i64 (pz l (nx n k))]) ∧ ∃ p : Regrown, w'' = Sort.grow (redrawn wr p.d) p.os) := fun d os => by
            have h := Calls.regrown_of (rnext_any b o c k l (Sort.grow (redrawn wr d) os) (hrow.keep (below_regrown wr d os)) (by rw [← HN.out]; exact hkn) (by rw [← HN.out]; omega))
            rw [← HN.out] at h
            exact h
          obtain ⟨ckx, ckz⟩ := hrow k (by rw [← HN.out]; exact hkn)
          have kkx := cell_regrown ckx
          have kkz := cell_regrown ckz
          have kx := cell_regrown q9.1.1
          have kz := cell_regrown q9.1.2.1
          have hr' : ((k : Int) + 1) % (n : Int) = ((nx n k : Nat) : Int) := by unfold nx; rw [Int.natCast_emod]; rfl
          have h0 : ¬ (n : Int) = 0 := by omega
          clear s0 s1 s9 hrow ckx ckz q9
          generalize hD : oe x z (px l k) (pz l k) (px l (nx n k)) (pz l (nx n k)) = D at *
          have HD := Lib.hid hD
          clear hD
          go_wp2_with fail
          refine wp_region_quiet_below (by kernel_rfl) (by kernel_rfl) ?_
          repeat (any_goals (first | go_big_quiet_step ((first | (go_at_call 64; exact HNX.out _ _) | (go_at_call 83; exact HT.out wr _ _))) | quiet_step ((first | (go_at_call 64; exact HNX.out _ _) | (go_at_call 83; exact HT.out wr _ _)))))
          refine wpQuiet_nil ?_
          intro _ hw'
          obtain ⟨⟨dq1, osq1⟩, hw''⟩ := hw'
          subst hw''
          have hBq := Below.thru hB hB.size (below_regrown wr dq1 osq1)
          have KQ := Lib.hid hBq
          clear kkx kkz kx kz
          generalize Sort.grow (redrawn wr dq1) osq1 = w2 at *
          cases D with
          | true =>
            go_wp2
            go_ret
            exact PBt.yes (HI.out.2 ⟨k, hkn, HD.out⟩) (HK0.out _ KQ.out).2
          | false =>
            have HK2 : Hid (∀ j, j < k + 1 → oe x z (px l j) (pz l j) (px l (nx n j)) (pz l (nx n j)) = false) := fun j hj => by
              rcases Nat.lt_or_ge j k with q | q
              · exact HK.out j q
              · obtain rfl : j = k := by omega
                exact HD.out
            go_wp2
            go_roundw
            case rel => exact ⟨k + 1, by omega, by go_num, HK2, hBq⟩
            case measure => simp [intOf]; omega
        · obtain rfl : k = n := by omega
          have KQ := Lib.hid hB
          go_wp2
          go_ret
          refine PBt.no (fun h => ?_) (HK0.out _ KQ.out).2
          obtain ⟨i, hi, h⟩ := HI.out.1 h
          rw [HK.out i hi] at h
          cases h
end Go.Proofs.Ytljmhejljpfaiaa
namespace Go.Proofs.Ytljmhejljpfaiaa
set_option maxRecDepth 100000
open Go.RowKit Go.Shelf

/-! the reference's Apart -/
set_option maxHeartbeats 4000000 in
theorem apart_any (b o c : Nat) (l : List Pt) (x1 z1 x2 z2 : Int) (w : World) (hr : Row w b o l) (h3 : 0 < l.length) (h12 : l.length ≤ 1000) (hx : Bx l) (hp : Sm x1 ∧ Sm z1) (hq : Sm x2 ∧ Sm z2) :
    Calls Try.prog 79 #[.slice (some ⟨b, o, none⟩) l.length c, .agg #[.int .i64 x1, .int .i64 z1], .agg #[.int .i64 x2, .int .i64 z2]] w (PBt (CanC l x1 z1 x2 z2) w) := by
  have HR := Lib.hid hr; have HX := Lib.hid hx; have HP := Lib.hid hp; have HQ := Lib.hid hq
  obtain ⟨n, hn⟩ : ∃ n, n = l.length := ⟨_, rfl⟩
  have HI : Hid (CanC l x1 z1 x2 z2 ↔ ∀ i, i < n → ¬ (oe x1 z1 (px l i) (pz l i) (px l (nx n i)) (pz l (nx n i)) = true ∧ oe x2 z2 (px l i) (pz l i) (px l (nx n i)) (pz l (nx n i)) = true)) := by
    show _ ↔ _
    unfold CanC both
    rw [hn]
    refine forall_congr' fun i => forall_congr' fun _ => ?_
    rw [← Bool.and_eq_true, Bool.not_eq_true]
  rw [← hn] at h3 h12 ⊢
  have HN := Lib.hid hn
  have hbw := hr.lt (by omega)
  have S0 : Hid (B2 w.heap.size x1 z1 ((w.alloc (.cells #[.int .i64 x1, .int .i64 z1] 24)).alloc (.cells #[.int .i64 x2, .int .i64 z2] 24)) ∧ B2 (w.heap.size + 1) x2 z2 ((w.alloc (.cells #[.int .i64 x1, .int .i64 z1] 24)).alloc (.cells #[.int .i64 x2, .int .i64 z2] 24)) ∧ Below w.heap.size w ((w.alloc (.cells #[.int .i64 x1, .int .i64 z1] 24)).alloc (.cells #[.int .i64 x2, .int .i64 z2] 24))) := ⟨⟨by simp [go_sem], by simp [go_sem], by simp [go_sem], by simp [go_sem]⟩, ⟨by simp [go_sem], by simp [go_sem], by simp [go_sem], by simp [go_sem]⟩, bl2 w _ _⟩
  clear hr hx hn hp hq
  generalize CanC l x1 z1 x2 z2 = IP at *
  go_enter Try.func79, Try.ntmps79
  go_wp2
  generalize (w.alloc (.cells #[.int .i64 x1, .int .i64 z1] 24)).alloc (.cells #[.int .i64 x2, .int .i64 z2] 24) = w0 at *
  have HK0 : Hid (∀ W, Below w0.heap.size w0 W → B2 w.heap.size x1 z1 W ∧ B2 (w.heap.size + 1) x2 z2 W ∧ Below w.heap.size w W) := fun W kk => ⟨S0.out.1.keep kk, S0.out.2.1.keep kk, Below.thru S0.out.2.2 S0.out.2.2.size kk⟩
  go_loopw [7] (fun i wr => ∃ k : Nat, k ≤ n ∧ i = .int .i64 k ∧ Hid (∀ i, i < k → ¬ (oe x1 z1 (px l i) (pz l i) (px l (nx n i)) (pz l (nx n i)) = true ∧ oe x2 z2 (px l i) (pz l i) (px l (nx n i)) (pz l (nx n i)) = true)) ∧ Below w0.heap.size w0 wr) (fun i _ => n - (intOf i).toNat)
  case atStart => exact ⟨0, Nat.zero_le _, rfl, fun j hj => absurd hj (by omega), Below.refl _ _⟩
  case round =>
    obtain ⟨k, hk, rfl, HK, hB⟩ := hrel
    by_cases hkn : k < n
    · have hj := nx_lt hkn
      have q9 := HK0.out _ hB
      have hrow := HR.out.keep q9.2.2
      have s0 := HX.out k (by rw [← HN.out]; exact hkn)
      have s1 := HX.out (nx n k) (by rw [← HN.out]; exact hj)
      have HT := Lib.hid (quiet_below (fun w => ron_any (px l k) (pz l k) (px l (nx n k)) (pz l (nx n k)) x1 z1 w (by unfold Sm; omega) (by unfold Sm; omega) (by unfold Sm; omega) (by unfold Sm; omega) HP.out.1 HP.out.2))
      have HU := Lib.hid (quiet_below (fun w => ron_any (px l k) (pz l k) (px l (nx n k)) (pz l (nx n k)) x2 z2 w (by unfold Sm; omega) (by unfold Sm; omega) (by unfold Sm; omega) (by unfold Sm; omega) HQ.out.1 HQ.out.2))
      have HNX : Hid (∀ d os, Calls Try.prog 64 #[.slice (some ⟨b, o, none⟩) n c, .int .i64 k] (Sort.grow (redrawn wr d) os) fun e w'' => e = .returned (.agg #[.int .i64 (px l (nx n k)), .int .i64 (pz l (nx n k))]) ∧ ∃ p : Regrown, w'' = Sort.grow (redrawn wr p.d) p.os) := fun d os => by
        have h := Calls.regrown_of (rnext_any b o c k l (Sort.grow (redrawn wr d) os) (hrow.keep (below_regrown wr d os)) (by rw [← HN.out]; exact hkn) (by rw [← HN.out]; omega))
        rw [← HN.out] at h
        exact h
      obtain ⟨ckx, ckz⟩ := hrow k (by rw [← HN.out]; exact hkn)
      have kkx := cell_regrown ckx
      have kkz := cell_regrown ckz
      have kx := cell_regrown q9.1.1
      have kz := cell_regrown q9.1.2.1
      have jx := cell_regrown q9.2.1.1
      have jz := cell_regrown q9.2.1.2.1
      have hr' : ((k : Int) + 1) % (n : Int) = ((nx n k : Nat) : Int) := by unfold nx; rw [Int.natCast_emod]; rfl
      have h0 : ¬ (n : Int) = 0 := by omega
      clear s0 s1 hrow ckx ckz q9
      generalize hD : oe x1 z1 (px l k) (pz l k) (px l (nx n k)) (pz l (nx n k)) = D at *
      generalize hF : oe x2 z2 (px l k) (pz l k) (px l (nx n k)) (pz l (nx n k)) = F at *
      have HD := Lib.hid (And.intro hD hF)
      have HKK : Hid (¬ (D = true ∧ F = true) → ∀ j, j < k + 1 → ¬ (oe x1 z1 (px l j) (pz l j) (px l (nx n j)) (pz l (nx n j)) = true ∧ oe x2 z2 (px l j) (pz l j) (px l (nx n j)) (pz l (nx n j)) = true)) := fun h j hj => by
        rcases Nat.lt_or_ge j k with q | q
        · exact HK.out j q
        · obtain rfl : j = k := by omega
          rw [HD.out.1, HD.out.2]
          exact h
      clear hD hF
      cases D with
      | false =>
        have HK2 := Lib.hid (HKK.out (fun h => by cases h.1))
        go_wp2_with fail
        refine wp_region_quiet_below (by kernel_rfl) (by kernel_rfl) ?_
        repeat (any_goals (first | go_big_quiet_step ((first | (go_at_call 64; exact HNX.out _ _) | (go_at_call 83; exact HT.out wr _ _))) | quiet_step ((first | (go_at_call 64; exact HNX.out _ _) | (go_at_call 83; exact HT.out wr _ _)))))
        refine wpQuiet_nil ?_
        intro _ hw'
        obtain ⟨⟨dq1, osq1⟩, hw''⟩ := hw'
        subst hw''
        have hBq := Below.thru hB hB.size (below_regrown wr dq1 osq1)
        clear kkx kkz kx kz jx jz
        generalize Sort.grow (redrawn wr dq1) osq1 = w2 at *
        go_wp2
        go_roundw
        case rel => exact ⟨k + 1, by omega, by go_num, HK2.out, hBq⟩
        case measure => simp [intOf]; omega
      | true =>
        go_wp2_with fail
        refine wp_region_quiet_below (by kernel_rfl) (by kernel_rfl) ?_
        repeat (any_goals (first | go_big_quiet_step ((first | (go_at_call 64; exact HNX.out _ _) | (go_at_call 83; first | (with_reducible exact HT.out wr _ _) | (with_reducible exact HU.out wr _ _) | exact HT.out wr _ _ | exact HU.out wr _ _))) | quiet_step ((first | (go_at_call 64; exact HNX.out _ _) | (go_at_call 83; first | (with_reducible exact HT.out wr _ _) | (with_reducible exact HU.out wr _ _) | exact HT.out wr _ _ | exact HU.out wr _ _)))))
        refine wpQuiet_nil ?_
        intro _ hw'
        obtain ⟨⟨dq1, osq1⟩, hw''⟩ := hw'
        subst hw''
        have hBq := Below.thru hB hB.size (below_regrown wr dq1 osq1)
        have KQ := Lib.hid hBq
        clear kkx kkz kx kz jx jz
        generalize Sort.grow (redrawn wr dq1) osq1 = w2 at *
        cases F with
        | true =>
          go_wp2
          go_ret
          exact PBt.no (fun h => HI.out.1 h k hkn HD.out) (HK0.out _ KQ.out).2.2
        | false =>
          have HK2 := Lib.hid (HKK.out (fun h => by cases h.2))
          go_wp2
          go_roundw
          case rel => exact ⟨k + 1, by omega, by go_num, HK2.out, hBq⟩
          case measure => simp [intOf]; omega
    · obtain rfl : k = n := by omega
      have KQ := Lib.hid hB
      go_wp2
      go_ret
      exact PBt.yes (HI.out.2 HK.out) (HK0.out _ KQ.out).2.2
end Go.Proofs.Ytljmhejljpfaiaa
