import Derived.Test.YtljmhejljpfaiaaGc
namespace Go.Proofs.Ytljmhejljpfaiaa
set_option maxRecDepth 100000
open Go.RowKit Go.Shelf

set_option maxHeartbeats 4000000 in
theorem isBorder_any (b o c : Nat) (l : List Pt) (x z : Int) (w : World) (hr : Row w b o l) (h3 : 3 ≤ l.length) (h12 : l.length ≤ 12) (hx : Bx l) (ht : Tr l) :
    Calls Try.prog 39 #[.slice (some ⟨b, o, none⟩) l.length c, .agg #[.int .i64 x, .int .i64 z]] w (PBt (IsP l x z) w) := by
  have HR := Lib.hid hr; have HX := Lib.hid hx
  have HI := Lib.hid (isP_iff ht h3 x z)
  have HBX : Hid (IsP l x z → inB x 0 2000 = true ∧ inB z 0 2000 = true) := fun h => by
    obtain ⟨i, hi, h⟩ := (isP_iff ht h3 x z).1 h
    have a := hx i hi; have a' := hx _ (nx_lt hi)
    unfold oe at h
    simp only [Bool.and_eq_true] at h
    have e1 := btw_in h.1 a.1 a'.1
    have e2 := btw_in h.2.1 a.2 a'.2
    exact ⟨inB_t e1.1 e1.2, inB_t e2.1 e2.2⟩
  have HIN : Hid (∀ n : Int, inB n 0 2000 = true → 0 ≤ n ∧ n ≤ 2000) := fun n h => by simpa [inB] using h
  obtain ⟨n, hn⟩ : ∃ n, n = l.length := ⟨_, rfl⟩
  rw [← hn] at h3 h12 HI ⊢
  have HN := Lib.hid hn
  have hbw := hr.lt (by omega)
  have S0 : Hid (B2 w.heap.size x z (w.alloc (.cells #[.int .i64 x, .int .i64 z] 24)) ∧ Below w.heap.size w (w.alloc (.cells #[.int .i64 x, .int .i64 z] 24))) := ⟨⟨by simp [go_sem], by simp [go_sem], by simp [go_sem], by simp [go_sem]⟩, bl1 w _⟩
  have HP := Lib.hid (fun W => in_any x 0 2000 W)
  have HQ := Lib.hid (fun W => in_any z 0 2000 W)
  clear hr hx hn ht
  generalize hq1 : inB x 0 2000 = q1 at *
  generalize hq2 : inB z 0 2000 = q2 at *
  generalize IsP l x z = IP at *
  have HQ1 := Lib.hid hq1; have HQ2 := Lib.hid hq2
  clear hq1 hq2
  have s0 := S0.out.1.1
  have s1 := S0.out.1.2.1
  go_enter Try.func39, Try.ntmps39
  cases q1 with
  | false =>
    go_wp2_with ((first | (go_at_call 50; (with_reducible refine (HP.out _).mono ?_); rintro e w' ⟨rfl, rfl⟩) | (go_at_call 50; (with_reducible refine (HQ.out _).mono ?_); rintro e w' ⟨rfl, rfl⟩)))
    go_ret
    exact PBt.no (fun h => by cases (HBX.out h).1) S0.out.2
  | true =>
    cases q2 with
    | false =>
      go_wp2_with ((first | (go_at_call 50; (with_reducible refine (HP.out _).mono ?_); rintro e w' ⟨rfl, rfl⟩) | (go_at_call 50; (with_reducible refine (HQ.out _).mono ?_); rintro e w' ⟨rfl, rfl⟩)))
      go_ret
      exact PBt.no (fun h => by cases (HBX.out h).2) S0.out.2
    | true =>
      have hxz : (0 ≤ x ∧ x ≤ 2000) ∧ (0 ≤ z ∧ z ≤ 2000) := ⟨HIN.out x HQ1.out, HIN.out z HQ2.out⟩
      have HXZ := Lib.hid hxz
      clear hxz
      go_wp2_with ((first | (go_at_call 50; (with_reducible refine (HP.out _).mono ?_); rintro e w' ⟨rfl, rfl⟩) | (go_at_call 50; (with_reducible refine (HQ.out _).mono ?_); rintro e w' ⟨rfl, rfl⟩)))
      clear s0 s1
      generalize w.alloc (.cells #[.int .i64 x, .int .i64 z] 24) = w0 at *
      have HK0 : Hid (∀ W, Below w0.heap.size w0 W → B2 w.heap.size x z W ∧ Below w.heap.size w W) := fun W kk => ⟨S0.out.1.keep kk, Below.thru S0.out.2 S0.out.2.size kk⟩
      go_loopw [5] (fun i wr => ∃ k : Nat, k ≤ n ∧ i = .int .i64 k ∧ Hid (∀ j, j < k → oe x z (px l j) (pz l j) (px l (nx n j)) (pz l (nx n j)) = false) ∧ Below w0.heap.size w0 wr) (fun i _ => n - (intOf i).toNat)
      case atStart => exact ⟨0, Nat.zero_le _, rfl, fun j hj => absurd hj (by omega), Below.refl _ _⟩
      case round =>
        obtain ⟨k, hk, rfl, HK, hB⟩ := hrel
        by_cases hkn : k < n
        · have hj := nx_lt hkn
          have q9 := HK0.out _ hB
          have hrow := HR.out.keep q9.2
          have s0 := HX.out k (by rw [← HN.out]; exact hkn)
          have s1 := HX.out (nx n k) (by rw [← HN.out]; exact hj)
          have s9 := HXZ.out
          have HT := Lib.hid (quiet_below (fun w => ron_any (px l k) (pz l k) (px l (nx n k)) (pz l (nx n k)) x z w (by unfold Sm; omega) (by unfold Sm; omega) (by unfold Sm; omega) (by unfold Sm; omega) (by unfold Sm; omega) (by unfold Sm; omega)))
          have HNX : Hid (∀ d os, Calls Try.prog 64 #[.slice (some ⟨b, o, none⟩) n c, .int .i64 k] (Sort.grow (redrawn wr d) os) fun e w'' => e = .returned (.agg #[.int .i64 (px l (nx n k)), .int .i64 (pz l (nx n k))]) ∧ ∃ p : Regrown, w'' = Sort.grow (redrawn wr p.d) p.os) := fun d os => by
            have h := Calls.regrown_of (rnext_any b o c k l (Sort.grow (redrawn wr d) os) (hrow.keep (below_regrown wr d os)) (by rw [← HN.out]; exact hkn) (by rw [← HN.out]; omega))
            rw [← HN.out] at h
            exact h
          obtain ⟨ckx, ckz⟩ := hrow k (by rw [← HN.out]; exact hkn)
          have kkx := cell_regrown ckx
          have kkz := cell_regrown ckz
          have kx := cell_regrown q9.1.1
          have kz := cell_regrown q9.1.2.1
          have hr' : ((k : Int) + 1) % (n : Int) = ((nx n k : Nat) : Int) := by unfold nx; rw [Int.natCast_emod]; rfl
          have h0 : ¬ (n : Int) = 0 := by omega
          clear s0 s1 s9 hrow ckx ckz q9
          generalize hD : oe x z (px l k) (pz l k) (px l (nx n k)) (pz l (nx n k)) = D at *
          have HD := Lib.hid hD
          clear hD
          go_wp2_with fail
          refine wp_region_quiet_below (by kernel_rfl) (by kernel_rfl) ?_
          repeat (any_goals (first | go_big_quiet_step ((first | (go_at_call 64; exact HNX.out _ _) | (go_at_call 83; exact HT.out wr _ _))) | quiet_step ((first | (go_at_call 64; exact HNX.out _ _) | (go_at_call 83; exact HT.out wr _ _)))))
          refine wpQuiet_nil ?_
          intro _ hw'
          obtain ⟨⟨dq1, osq1⟩, hw''⟩ := hw'
          subst hw''
          have hBq := Below.thru hB hB.size (below_regrown wr dq1 osq1)
          have KQ := Lib.hid hBq
          clear kkx kkz kx kz
          generalize Sort.grow (redrawn wr dq1) osq1 = w2 at *
          cases D with
          | true =>
            go_wp2
            go_ret
            exact PBt.yes (HI.out.2 ⟨k, hkn, HD.out⟩) (HK0.out _ KQ.out).2
          | false =>
            have HK2 : Hid (∀ j, j < k + 1 → oe x z (px l j) (pz l j) (px l (nx n j)) (pz l (nx n j)) = false) := fun j hj => by
              rcases Nat.lt_or_ge j k with q | q
              · exact HK.out j q
              · obtain rfl : j = k := by omega
                exact HD.out
            go_wp2
            go_roundw
            case rel => exact ⟨k + 1, by omega, by go_num, HK2, hBq⟩
            case measure => simp [intOf]; omega
        · obtain rfl : k = n := by omega
          have KQ := Lib.hid hB
          go_wp2
          go_ret
          refine PBt.no (fun h => ?_) (HK0.out _ KQ.out).2
          obtain ⟨i, hi, h⟩ := HI.out.1 h
          rw [HK.out i hi] at h
          cases h
end Go.Proofs.Ytljmhejljpfaiaa
