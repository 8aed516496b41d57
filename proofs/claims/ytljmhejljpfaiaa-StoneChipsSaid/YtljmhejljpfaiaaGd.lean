import Derived.Test.YtljmhejljpfaiaaGc
namespace Go.Proofs.Ytljmhejljpfaiaa
set_option maxRecDepth 100000
open Go.RowKit Go.Shelf

/-! the reference's Apart -/
set_option maxHeartbeats 4000000 in
theorem apart_any (b o c : Nat) (l : List Pt) (x1 z1 x2 z2 : Int) (w : World) (hr : Row w b o l) (h3 : 0 < l.length) (h12 : l.length ≤ 1000) (hx : Bx l) (hp : Sm x1 ∧ Sm z1) (hq : Sm x2 ∧ Sm z2) :
    Calls Try.prog 79 #[.slice (some ⟨b, o, none⟩) l.length c, .agg #[.int .i64 x1, .int .i64 z1], .agg #[.int .i64 x2, .int .i64 z2]] w (PBt (CanC l x1 z1 x2 z2) w) := by
  have HR := Lib.hid hr; have HX := Lib.hid hx; have HP := Lib.hid hp; have HQ := Lib.hid hq
  obtain ⟨n, hn⟩ : ∃ n, n = l.length := ⟨_, rfl⟩
  have HI : Hid (CanC l x1 z1 x2 z2 ↔ ∀ i, i < n → ¬ (oe x1 z1 (px l i) (pz l i) (px l (nx n i)) (pz l (nx n i)) = true ∧ oe x2 z2 (px l i) (pz l i) (px l (nx n i)) (pz l (nx n i)) = true)) := by
    show _ ↔ _
    unfold CanC both
    rw [hn]
    refine forall_congr' fun i => forall_congr' fun _ => ?_
    rw [← Bool.and_eq_true, Bool.not_eq_true]
  rw [← hn] at h3 h12 ⊢
  have HN := Lib.hid hn
  have hbw := hr.lt (by omega)
  have S0 : Hid (B2 w.heap.size x1 z1 ((w.alloc (.cells #[.int .i64 x1, .int .i64 z1] 24)).alloc (.cells #[.int .i64 x2, .int .i64 z2] 24)) ∧ B2 (w.heap.size + 1) x2 z2 ((w.alloc (.cells #[.int .i64 x1, .int .i64 z1] 24)).alloc (.cells #[.int .i64 x2, .int .i64 z2] 24)) ∧ Below w.heap.size w ((w.alloc (.cells #[.int .i64 x1, .int .i64 z1] 24)).alloc (.cells #[.int .i64 x2, .int .i64 z2] 24))) := ⟨⟨by simp [go_sem], by simp [go_sem], by simp [go_sem], by simp [go_sem]⟩, ⟨by simp [go_sem], by simp [go_sem], by simp [go_sem], by simp [go_sem]⟩, bl2 w _ _⟩
  clear hr hx hn hp hq
  generalize CanC l x1 z1 x2 z2 = IP at *
  go_enter Try.func79, Try.ntmps79
  go_wp2
  generalize (w.alloc (.cells #[.int .i64 x1, .int .i64 z1] 24)).alloc (.cells #[.int .i64 x2, .int .i64 z2] 24) = w0 at *
  have HK0 : Hid (∀ W, Below w0.heap.size w0 W → B2 w.heap.size x1 z1 W ∧ B2 (w.heap.size + 1) x2 z2 W ∧ Below w.heap.size w W) := fun W kk => ⟨S0.out.1.keep kk, S0.out.2.1.keep kk, Below.thru S0.out.2.2 S0.out.2.2.size kk⟩
  go_loopw [7] (fun i wr => ∃ k : Nat, k ≤ n ∧ i = .int .i64 k ∧ Hid (∀ i, i < k → ¬ (oe x1 z1 (px l i) (pz l i) (px l (nx n i)) (pz l (nx n i)) = true ∧ oe x2 z2 (px l i) (pz l i) (px l (nx n i)) (pz l (nx n i)) = true)) ∧ Below w0.heap.size w0 wr) (fun i _ => n - (intOf i).toNat)
  case atStart => exact ⟨0, Nat.zero_le _, rfl, fun j hj => absurd hj (by omega), Below.refl _ _⟩
  case round =>
    obtain ⟨k, hk, rfl, HK, hB⟩ := hrel
    by_cases hkn : k < n
    · have hj := nx_lt hkn
      have q9 := HK0.out _ hB
      have hrow := HR.out.keep q9.2.2
      have s0 := HX.out k (by rw [← HN.out]; exact hkn)
      have s1 := HX.out (nx n k) (by rw [← HN.out]; exact hj)
      have HT := Lib.hid (quiet_below (fun w => ron_any (px l k) (pz l k) (px l (nx n k)) (pz l (nx n k)) x1 z1 w (by unfold Sm; omega) (by unfold Sm; omega) (by unfold Sm; omega) (by unfold Sm; omega) HP.out.1 HP.out.2))
      have HU := Lib.hid (quiet_below (fun w => ron_any (px l k) (pz l k) (px l (nx n k)) (pz l (nx n k)) x2 z2 w (by unfold Sm; omega) (by unfold Sm; omega) (by unfold Sm; omega) (by unfold Sm; omega) HQ.out.1 HQ.out.2))
      have HNX : Hid (∀ d os, Calls Try.prog 64 #[.slice (some ⟨b, o, none⟩) n c, .int .i64 k] (Sort.grow (redrawn wr d) os) fun e w'' => e = .returned (.agg #[.int .i64 (px l (nx n k)), .int .i64 (pz l (nx n k))]) ∧ ∃ p : Regrown, w'' = Sort.grow (redrawn wr p.d) p.os) := fun d os => by
        have h := Calls.regrown_of (rnext_any b o c k l (Sort.grow (redrawn wr d) os) (hrow.keep (below_regrown wr d os)) (by rw [← HN.out]; exact hkn) (by rw [← HN.out]; omega))
        rw [← HN.out] at h
        exact h
      obtain ⟨ckx, ckz⟩ := hrow k (by rw [← HN.out]; exact hkn)
      have kkx := cell_regrown ckx
      have kkz := cell_regrown ckz
      have kx := cell_regrown q9.1.1
      have kz := cell_regrown q9.1.2.1
      have jx := cell_regrown q9.2.1.1
      have jz := cell_regrown q9.2.1.2.1
      have hr' : ((k : Int) + 1) % (n : Int) = ((nx n k : Nat) : Int) := by unfold nx; rw [Int.natCast_emod]; rfl
      have h0 : ¬ (n : Int) = 0 := by omega
      clear s0 s1 hrow ckx ckz q9
      generalize hD : oe x1 z1 (px l k) (pz l k) (px l (nx n k)) (pz l (nx n k)) = D at *
      generalize hF : oe x2 z2 (px l k) (pz l k) (px l (nx n k)) (pz l (nx n k)) = F at *
      have HD := Lib.hid (And.intro hD hF)
      have HKK : Hid (¬ (D = true ∧ F = true) → ∀ j, j < k + 1 → ¬ (oe x1 z1 (px l j) (pz l j) (px l (nx n j)) (pz l (nx n j)) = true ∧ oe x2 z2 (px l j) (pz l j) (px l (nx n j)) (pz l (nx n j)) = true)) := fun h j hj => by
        rcases Nat.lt_or_ge j k with q | q
        · exact HK.out j q
        · obtain rfl : j = k := by omega
          rw [HD.out.1, HD.out.2]
          exact h
      clear hD hF
      cases D with
      | false =>
        have HK2 := Lib.hid (HKK.out (fun h => by cases h.1))
        go_wp2_with fail
        refine wp_region_quiet_below (by kernel_rfl) (by kernel_rfl) ?_
        repeat (any_goals (first | go_big_quiet_step ((first | (go_at_call 64; exact HNX.out _ _) | (go_at_call 83; exact HT.out wr _ _))) | quiet_step ((first | (go_at_call 64; exact HNX.out _ _) | (go_at_call 83; exact HT.out wr _ _)))))
        refine wpQuiet_nil ?_
        intro _ hw'
        obtain ⟨⟨dq1, osq1⟩, hw''⟩ := hw'
        subst hw''
        have hBq := Below.thru hB hB.size (below_regrown wr dq1 osq1)
        clear kkx kkz kx kz jx jz
        generalize Sort.grow (redrawn wr dq1) osq1 = w2 at *
        go_wp2
        go_roundw
        case rel => exact ⟨k + 1, by omega, by go_num, HK2.out, hBq⟩
        case measure => simp [intOf]; omega
      | true =>
        go_wp2_with fail
        refine wp_region_quiet_below (by kernel_rfl) (by kernel_rfl) ?_
        repeat (any_goals (first | go_big_quiet_step ((first | (go_at_call 64; exact HNX.out _ _) | (go_at_call 83; first | (with_reducible exact HT.out wr _ _) | (with_reducible exact HU.out wr _ _) | exact HT.out wr _ _ | exact HU.out wr _ _))) | quiet_step ((first | (go_at_call 64; exact HNX.out _ _) | (go_at_call 83; first | (with_reducible exact HT.out wr _ _) | (with_reducible exact HU.out wr _ _) | exact HT.out wr _ _ | exact HU.out wr _ _)))))
        refine wpQuiet_nil ?_
        intro _ hw'
        obtain ⟨⟨dq1, osq1⟩, hw''⟩ := hw'
        subst hw''
        have hBq := Below.thru hB hB.size (below_regrown wr dq1 osq1)
        have KQ := Lib.hid hBq
        clear kkx kkz kx kz jx jz
        generalize Sort.grow (redrawn wr dq1) osq1 = w2 at *
        cases F with
        | true =>
          go_wp2
          go_ret
          exact PBt.no (fun h => HI.out.1 h k hkn HD.out) (HK0.out _ KQ.out).2.2
        | false =>
          have HK2 := Lib.hid (HKK.out (fun h => by cases h.2))
          go_wp2
          go_roundw
          case rel => exact ⟨k + 1, by omega, by go_num, HK2.out, hBq⟩
          case measure => simp [intOf]; omega
    · obtain rfl : k = n := by omega
      have KQ := Lib.hid hB
      go_wp2
      go_ret
      exact PBt.yes (HI.out.2 HK.out) (HK0.out _ KQ.out).2.2
end Go.Proofs.Ytljmhejljpfaiaa
