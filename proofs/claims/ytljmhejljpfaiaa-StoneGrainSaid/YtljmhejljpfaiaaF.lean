import Derived.Test.YtljmhejljpfaiaaE
namespace Go.Proofs.Ytljmhejljpfaiaa
set_option maxRecDepth 100000
open Go.RowKit

/-- Side, of the reference -/
theorem side_any (ax az bx bz cx cz : Int) (w : World) (h1 : Sm ax) (h2 : Sm az) (h3 : Sm bx) (h4 : Sm bz) (h5 : Sm cx) (h6 : Sm cz) :
    Calls Try.prog 87 #[.agg #[.int .i64 ax, .int .i64 az], .agg #[.int .i64 bx, .int .i64 bz], .agg #[.int .i64 cx, .int .i64 cz]] w fun e w' => e = .returned (.int .i64 (trn ax az bx bz cx cz)) ∧ Below w.heap.size w w' := by
  unfold Sm at *
  have p1 := prod_bd (a := bx - ax) (b := cz - az) (by omega) (by omega)
  have p2 := prod_bd (a := bz - az) (b := cx - ax) (by omega) (by omega)
  have q1 := IntWalk.i64_in (bx - ax) (by omega)
  have q2 := IntWalk.i64_in (cz - az) (by omega)
  have q3 := IntWalk.i64_in (cx - ax) (by omega)
  have q4 := IntWalk.i64_in (bz - az) (by omega)
  have q5 := IntWalk.i64_in ((bx - ax) * (cz - az)) (by omega)
  have q6 := IntWalk.i64_in ((bz - az) * (cx - ax)) (by omega)
  have q7 := IntWalk.i64_in ((bx - ax) * (cz - az) - (bz - az) * (cx - ax)) (by omega)
  have HE : Hid (trn ax az bx bz cx cz = (bx - ax) * (cz - az) - (bz - az) * (cx - ax)) := by show _ = _; unfold trn; rw [Int.mul_comm (cx - ax)]
  clear h1 h2 h3 h4 h5 h6 p1 p2
  go_enter Try.func87, Try.ntmps87
  go_wp2
  go_ret
  exact ⟨by rw [HE.out]; rfl, bl3 _ _ _ _⟩
/-- next, of the reference -/
theorem rnext_any (b o c i : Nat) (l : List Pt) (w : World) (hr : Row w b o l) (hi : i < l.length) (hm : l.length ≤ 1000000) :
    Calls Try.prog 64 #[.slice (some ⟨b, o, none⟩) l.length c, .int .i64 i] w fun e w' => e = .returned (.agg #[.int .i64 (px l (nx l.length i)), .int .i64 (pz l (nx l.length i))]) ∧ Below w.heap.size w w' := by
  have hj := nx_lt hi
  have hr' : ((i : Int) + 1) % (l.length : Int) = ((nx l.length i : Nat) : Int) := by unfold nx; rw [Int.natCast_emod]; rfl
  have h0 : ¬ (l.length : Int) = 0 := by omega
  obtain ⟨c0, c1⟩ := hr _ hj
  have hl := hr.lt (by omega)
  generalize hn : l.length = n at *
  have HN := Lib.hid hn
  clear hn hr
  go_enter Try.func64, Try.ntmps64
  go_wp2
  exact bodyPost_ret (v := .agg #[.int .i64 (px l (nx n i)), .int .i64 (pz l (nx n i))]) (by simp [results, Try.results64, go_sem]) rfl ⟨rfl, bl1 _ _⟩

/-- the corner k is not on the edge i, or lies to the left of it -/
def C2 (l : List Pt) (n i k : Nat) : Prop := k ≠ i → k ≠ nx n i → 0 < D3 (pt l i) (pt l (nx n i)) (pt l k)
set_option maxHeartbeats 2000000 in
theorem rconvex_some (b o c : Nat) (l : List Pt) (w : World) (hr : Row w b o l) (h3 : 3 ≤ l.length) (h12 : l.length ≤ 12) (hs : ∀ i, i < l.length → Sm (px l i) ∧ Sm (pz l i)) :
    Calls Try.prog 88 #[.slice (some ⟨b, o, none⟩) l.length c] w (PBt (Cr l) w) := by
  have HR := Lib.hid hr; have HS := Lib.hid hs
  obtain ⟨n, hn⟩ : ∃ n, n = l.length := ⟨_, rfl⟩
  rw [← hn] at h3 h12 ⊢
  have HN := Lib.hid hn
  have g1 : decide ((n : Int) < 3) = false := by simp; omega
  have g2 : decide (12 < (n : Int)) = false := by simp; omega
  have HCr : Hid (Cr l ↔ ∀ i, i < n → ∀ k, k < n → C2 l n i k) := by
    show _ ↔ _
    rw [hn]
    exact ⟨fun h i hi k hk h1 h2 => h i k hi hk h1 h2, fun h i k hi hk h1 h2 => h i hi k hk h1 h2⟩
  clear hr hs hn
  go_enter Try.func88, Try.ntmps88
  go_wp2
  clear g1 g2
  go_loopw [3] (fun i wr => ∃ a : Nat, a ≤ n ∧ i = .int .i64 a ∧ Hid (∀ j, j < a → ∀ k, k < n → C2 l n j k) ∧ Below w.heap.size w wr) (fun i _ => n - (intOf i).toNat)
  case atStart => exact ⟨0, Nat.zero_le _, rfl, fun j hj => absurd hj (by omega), Below.refl _ _⟩
  case round =>
    obtain ⟨a, ha, rfl, HA, hA⟩ := hrel
    by_cases hlt : a < n
    · obtain ⟨wo, hwo⟩ : ∃ wo : World, wo = wr := ⟨_, rfl⟩
      rw [← hwo] at hA ⊢
      clear hwo
      go_wp2
      go_loopw [4] (fun i wr => ∃ k : Nat, k ≤ n ∧ i = .int .i64 k ∧ Hid (∀ j, j < k → C2 l n a j) ∧ Below w.heap.size w wr) (fun i _ => n - (intOf i).toNat)
      case atStart => exact ⟨0, Nat.zero_le _, rfl, fun j hj => absurd hj (by omega), hA⟩
      case round =>
        obtain ⟨k, hk, rfl, HK, hB⟩ := hrel
        by_cases hkn : k < n
        · have hj := nx_lt hlt
          have hrow := HR.out.keep hB
          have s0 := HS.out a (by rw [← HN.out]; exact hlt)
          have s1 := HS.out (nx n a) (by rw [← HN.out]; exact hj)
          have s2 := HS.out k (by rw [← HN.out]; exact hkn)
          have HT := Lib.hid (quiet_below (fun w => side_any (px l a) (pz l a) (px l (nx n a)) (pz l (nx n a)) (px l k) (pz l k) w s0.1 s0.2 s1.1 s1.2 s2.1 s2.2))
          have HNX : Hid (∀ d os, Calls Try.prog 64 #[.slice (some ⟨b, o, none⟩) n c, .int .i64 a] (Sort.grow (redrawn wr d) os) fun e w'' => e = .returned (.agg #[.int .i64 (px l (nx n a)), .int .i64 (pz l (nx n a))]) ∧ ∃ p : Regrown, w'' = Sort.grow (redrawn wr p.d) p.os) := fun d os => by
            have h := Calls.regrown_of (rnext_any b o c a l (Sort.grow (redrawn wr d) os) (hrow.keep (below_regrown wr d os)) (by rw [← HN.out]; exact hlt) (by rw [← HN.out]; omega))
            rw [← HN.out] at h
            exact h
          obtain ⟨cax, caz⟩ := hrow a (by rw [← HN.out]; exact hlt)
          obtain ⟨cnx, cnz⟩ := hrow (nx n a) (by rw [← HN.out]; exact hj)
          obtain ⟨ckx, ckz⟩ := hrow k (by rw [← HN.out]; exact hkn)
          have kax := cell_regrown cax
          have kaz := cell_regrown caz
          have knx := cell_regrown cnx
          have knz := cell_regrown cnz
          have kkx := cell_regrown ckx
          have kkz := cell_regrown ckz
          have hr' : ((a : Int) + 1) % (n : Int) = ((nx n a : Nat) : Int) := by unfold nx; rw [Int.natCast_emod]; rfl
          have h0 : ¬ (n : Int) = 0 := by omega
          clear s0 s1 s2 hrow cax caz cnx cnz ckx ckz
          go_wp2_with fail
          by_cases e1 : k = a
          · subst e1
            refine wp_region_quiet_below (by kernel_rfl) (by kernel_rfl) ?_
            repeat (any_goals (first | go_big_quiet_step ((first | (go_at_call 64; exact HNX.out _ _) | (go_at_call 87; exact HT.out wr _ _))) | quiet_step ((first | (go_at_call 64; exact HNX.out _ _) | (go_at_call 87; exact HT.out wr _ _)))))
            refine wpQuiet_nil ?_
            intro _ hw'
            obtain ⟨⟨dq1, osq1⟩, hw''⟩ := hw'
            subst hw''
            replace kax := upq kax dq1 osq1
            replace kaz := upq kaz dq1 osq1
            replace knx := upq knx dq1 osq1
            replace knz := upq knz dq1 osq1
            replace kkx := upq kkx dq1 osq1
            replace kkz := upq kkz dq1 osq1
            have hBq := Below.thru hB hB.size (below_regrown wr dq1 osq1)
            generalize Sort.grow (redrawn wr dq1) osq1 = w2 at *
            have HK2 : Hid (∀ j, j < k + 1 → C2 l n k j) := fun j hj => by
              rcases Nat.lt_or_ge j k with q | q
              · exact HK.out j q
              · obtain rfl : j = k := by omega
                exact fun h => absurd rfl h
            go_wp2
            go_roundw
            case rel => exact ⟨k + 1, by omega, by go_num, HK2, hBq⟩
            case measure => simp [intOf]; omega
          · by_cases e2 : k = nx n a
            · have f1 : ((k : Int) != (a : Int)) = true := by simp; omega
              have f2 : ((k : Int) != ((nx n a : Nat) : Int)) = false := by simp; omega
              have E2 := Lib.hid e2
              clear e1 e2
              refine wp_region_quiet_below (by kernel_rfl) (by kernel_rfl) ?_
              repeat (any_goals (first | go_big_quiet_step ((first | (go_at_call 64; exact HNX.out _ _) | (go_at_call 87; exact HT.out wr _ _))) | quiet_step ((first | (go_at_call 64; exact HNX.out _ _) | (go_at_call 87; exact HT.out wr _ _)))))
              refine wpQuiet_nil ?_
              intro _ hw'
              obtain ⟨⟨dq1, osq1⟩, hw''⟩ := hw'
              subst hw''
              replace kax := upq kax dq1 osq1
              replace kaz := upq kaz dq1 osq1
              replace knx := upq knx dq1 osq1
              replace knz := upq knz dq1 osq1
              replace kkx := upq kkx dq1 osq1
              replace kkz := upq kkz dq1 osq1
              have hBq := Below.thru hB hB.size (below_regrown wr dq1 osq1)
              generalize Sort.grow (redrawn wr dq1) osq1 = w2 at *
              have HK2 : Hid (∀ j, j < k + 1 → C2 l n a j) := fun j hj => by
                rcases Nat.lt_or_ge j k with q | q
                · exact HK.out j q
                · obtain rfl : j = k := by omega
                  exact fun _ h => absurd E2.out h
              go_wp2
              go_roundw
              case rel => exact ⟨k + 1, by omega, by go_num, HK2, hBq⟩
              case measure => simp [intOf]; omega
            · have f1 : ((k : Int) != (a : Int)) = true := by simp; omega
              have f2 : ((k : Int) != ((nx n a : Nat) : Int)) = true := by simp; omega
              generalize hD : trn (px l a) (pz l a) (px l (nx n a)) (pz l (nx n a)) (px l k) (pz l k) = D at *
              have HD : Hid (D3 (pt l a) (pt l (nx n a)) (pt l k) = D) := hD
              have E1 := Lib.hid e1; have E2 := Lib.hid e2
              clear hD e1 e2
              refine wp_region_quiet_below (by kernel_rfl) (by kernel_rfl) ?_
              repeat (any_goals (first | go_big_quiet_step ((first | (go_at_call 64; exact HNX.out _ _) | (go_at_call 87; exact HT.out wr _ _))) | quiet_step ((first | (go_at_call 64; exact HNX.out _ _) | (go_at_call 87; exact HT.out wr _ _)))))
              refine wpQuiet_nil ?_
              intro _ hw'
              obtain ⟨⟨dq1, osq1⟩, hw''⟩ := hw'
              subst hw''
              replace kax := upq kax dq1 osq1
              replace kaz := upq kaz dq1 osq1
              replace knx := upq knx dq1 osq1
              replace knz := upq knz dq1 osq1
              replace kkx := upq kkx dq1 osq1
              replace kkz := upq kkz dq1 osq1
              have hBq := Below.thru hB hB.size (below_regrown wr dq1 osq1)
              generalize Sort.grow (redrawn wr dq1) osq1 = w2 at *
              by_cases g5 : D ≤ 0
              · go_wp2
                go_ret
                refine PBt.no (fun hc => ?_) hBq
                have := HCr.out.1 hc a hlt k hkn E1.out E2.out
                rw [HD.out] at this
                omega
              · have HK2 : Hid (∀ j, j < k + 1 → C2 l n a j) := fun j hj => by
                  rcases Nat.lt_or_ge j k with q | q
                  · exact HK.out j q
                  · obtain rfl : j = k := by omega
                    exact fun _ _ => by rw [HD.out]; omega
                go_wp2
                go_roundw
                case rel => exact ⟨k + 1, by omega, by go_num, HK2, hBq⟩
                case measure => simp [intOf]; omega
        · obtain rfl : k = n := by omega
          have HA2 : Hid (∀ j, j < a + 1 → ∀ q, q < k → C2 l k j q) := fun j hj => by
            rcases Nat.lt_or_ge j a with q | q
            · exact HA.out j q
            · obtain rfl : j = a := by omega
              exact HK.out
          go_wp2
          go_roundw
          case rel => exact ⟨a + 1, by omega, by go_num, HA2, hB⟩
          case measure => simp [intOf]; omega
    · obtain rfl : a = n := by omega
      go_wp2
      go_ret
      exact PBt.yes (HCr.out.2 HA.out) hA
end Go.Proofs.Ytljmhejljpfaiaa
