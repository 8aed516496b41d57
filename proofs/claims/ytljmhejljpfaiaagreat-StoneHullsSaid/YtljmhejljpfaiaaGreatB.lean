import Derived.Test.YtljmhejljpfaiaaGreatA
import Derived.Test.YtljmhejljpfaiaaGreatM
namespace Go.Proofs.YtljmhejljpfaiaaGreat
set_option maxRecDepth 100000
set_option maxRecDepth 100000
open Go.RowKit

/-- points in memory -/
def Row (w : World) (b o : Nat) (l : List Pt) : Prop := ∀ i, i < l.length → w.cell? ⟨b, o + i * 2, none⟩ = some (.int .i64 (px l i)) ∧ w.cell? ⟨b, o + i * 2 + 1, none⟩ = some (.int .i64 (pz l i))
theorem Row.lt {w : World} {b o : Nat} {l : List Pt} (h : Row w b o l) (hl : 0 < l.length) : b < w.heap.size := cell_lt (h 0 hl).1
theorem Row.keep {w w' : World} {b o : Nat} {l : List Pt} (h : Row w b o l) (hb : Below w.heap.size w w') : Row w' b o l := fun i hi => by
  have hl := h.lt (by omega)
  exact ⟨(hb.cell (p := ⟨b, _, none⟩) hl).trans (h i hi).1, (hb.cell (p := ⟨b, _, none⟩) hl).trans (h i hi).2⟩
theorem quiet_same {f : FuncId} {args : Array Value} {v : Value} (h : ∀ w, Calls Tryz.prog f args w fun e w' => e = .returned v ∧ w = w') (w : World) (d : Nat) (os : Array Obj) :
    Calls Tryz.prog f args (Sort.grow (redrawn w d) os) fun e w'' => e = .returned v ∧ ∃ p : Regrown, w'' = Sort.grow (redrawn w p.d) p.os :=
  Calls.regrown_of ((h _).mono fun _ _ ⟨he, hw⟩ => ⟨he, hw ▸ Below.refl _ _⟩)
theorem quiet_below {f : FuncId} {args : Array Value} {v : Value} (h : ∀ w, Calls Tryz.prog f args w fun e w' => e = .returned v ∧ Below w.heap.size w w') (w : World) (d : Nat) (os : Array Obj) :
    Calls Tryz.prog f args (Sort.grow (redrawn w d) os) fun e w'' => e = .returned v ∧ ∃ p : Regrown, w'' = Sort.grow (redrawn w p.d) p.os := Calls.regrown_of (h _)
theorem nx_lt {n i : Nat} (h : i < n) : nx n i < n := Nat.mod_lt _ (by omega)
/-- what a test hands back: a Bool that says whether C holds, nothing of what was there has turned -/
def PBt (C : Prop) (w : World) (e : Ending) (w' : World) : Prop := (∃ b : Bool, e = .returned (.bool b) ∧ (b = true ↔ C)) ∧ Below w.heap.size w w'
theorem PBt.yes {C : Prop} {w w' : World} (h : C) (hb : Below w.heap.size w w') : PBt C w (.returned (.bool true)) w' := ⟨⟨true, rfl, by simp [h]⟩, hb⟩
theorem PBt.no {C : Prop} {w w' : World} (h : ¬ C) (hb : Below w.heap.size w w') : PBt C w (.returned (.bool false)) w' := ⟨⟨false, rfl, by simp [h]⟩, hb⟩

set_option maxHeartbeats 1000000 in
theorem convex_any (b o c : Nat) (l : List Pt) (w : World) (hr : Row w b o l) (h3 : 3 ≤ l.length) (h12 : l.length ≤ 12) (hs : ∀ i, i < l.length → Sm (px l i) ∧ Sm (pz l i)) :
    Calls Tryz.prog 84 #[.slice (some ⟨b, o, none⟩) l.length c] w (PBt (Cv l) w) := by
  have HR := Lib.hid hr; have HS := Lib.hid hs
  obtain ⟨n, hn⟩ : ∃ n, n = l.length := ⟨_, rfl⟩
  rw [← hn] at h3 h12 ⊢
  have HN := Lib.hid hn
  clear hr hs hn
  go_enter Tryz.func84, Tryz.ntmps84
  go_wp2
  go_loopw [12] (fun i wr => ∃ k : Nat, k ≤ n ∧ i = .int .i64 k ∧ Hid (∀ j, j < k → 0 < D3 (pt l j) (pt l (nx n j)) (pt l (nx n (nx n j))) ∧ (0 < j → j < n - 1 → 0 < D3 (pt l 0) (pt l j) (pt l (nx n j)))) ∧ Below w.heap.size w wr) (fun i _ => n - (intOf i).toNat)
  case atStart => exact ⟨0, Nat.zero_le _, rfl, fun j hj => absurd hj (by omega), Below.refl _ _⟩
  case round =>
    obtain ⟨k, hk, rfl, HK, hB⟩ := hrel
    by_cases hlt : k < n
    · have hj := nx_lt hlt
      have hj2 := nx_lt hj
      have hrow := HR.out.keep hB
      have c0 := hrow k (by rw [← HN.out]; exact hlt)
      have c1 := hrow (nx n k) (by rw [← HN.out]; exact hj)
      have c2 := hrow (nx n (nx n k)) (by rw [← HN.out]; exact hj2)
      have c3 := hrow 0 (by rw [← HN.out]; omega)
      have s0 := HS.out k (by rw [← HN.out]; exact hlt)
      have s1 := HS.out (nx n k) (by rw [← HN.out]; exact hj)
      have s2 := HS.out (nx n (nx n k)) (by rw [← HN.out]; exact hj2)
      have s3 := HS.out 0 (by rw [← HN.out]; omega)
      have HT1 := Lib.hid (quiet_below (fun w => turn_any (px l k) (pz l k) (px l (nx n k)) (pz l (nx n k)) (px l (nx n (nx n k))) (pz l (nx n (nx n k))) w s0.1 s0.2 s1.1 s1.2 s2.1 s2.2))
      have HT2 := Lib.hid (quiet_below (fun w => turn_any (px l 0) (pz l 0) (px l k) (pz l k) (px l (nx n k)) (pz l (nx n k)) w s3.1 s3.2 s0.1 s0.2 s1.1 s1.2))
      have HX := Lib.hid (quiet_same (fun w => next_any (some ⟨b, o, none⟩) n c (nx n k) w hj (by omega)))
      have hbw := hrow.lt (by rw [← HN.out]; omega)
      obtain ⟨c0x, c0z⟩ := c0
      obtain ⟨c1x, c1z⟩ := c1
      obtain ⟨c2x, c2z⟩ := c2
      obtain ⟨c3x, c3z⟩ := c3
      simp only [Nat.zero_mul, Nat.add_zero] at c3x c3z
      clear s0 s1 s2 s3 hrow
      go_wp2_with fail
      refine (next_any _ n c k _ hlt (by omega)).mono ?_
      rintro e w' ⟨rfl, rfl⟩
      go_wp2_with fail
      have b0 : (wr.alloc (.cells #[.int .i64 (px l k), .int .i64 (pz l k)] 37)).cell? ⟨wr.heap.size, 0, none⟩ = some (.int .i64 (px l k)) := by simp [go_sem]
      have b1 : (wr.alloc (.cells #[.int .i64 (px l k), .int .i64 (pz l k)] 37)).cell? ⟨wr.heap.size, 1, none⟩ = some (.int .i64 (pz l k)) := by simp [go_sem]
      have hB1 := Below.thru hB hB.size (bl1 wr (.cells #[.int .i64 (px l k), .int .i64 (pz l k)] 37))
      generalize hW1 : wr.alloc (.cells #[.int .i64 (px l k), .int .i64 (pz l k)] 37) = w1 at *
      have hsz1 : wr.heap.size < w1.heap.size := by rw [← hW1]; simp
      have hbb : Below wr.heap.size wr w1 := by rw [← hW1]; exact bl1 _ _
      clear hW1
      have up : ∀ {x v}, wr.cell? ⟨b, x, none⟩ = some v → w1.cell? ⟨b, x, none⟩ = some v := fun h => (hbb.cell (p := ⟨b, _, none⟩) hbw).trans h
      have k0x := cell_regrown (up c0x)
      have k0z := cell_regrown (up c0z)
      have k1x := cell_regrown (up c1x)
      have k1z := cell_regrown (up c1z)
      have k2x := cell_regrown (up c2x)
      have k2z := cell_regrown (up c2z)
      have k3x := cell_regrown (up c3x)
      have k3z := cell_regrown (up c3z)
      have kb0 := cell_regrown b0
      have kb1 := cell_regrown b1
      clear up c0x c0z c1x c1z c2x c2z c3x c3z b0 b1 hB hbb
      refine wp_region_quiet_below (by kernel_rfl) (by kernel_rfl) ?_
      repeat (any_goals (first | go_big_quiet_step ((first | (go_at_call 61; exact HX.out w1 _ _) | (go_at_call 76; exact HT1.out w1 _ _))) | quiet_step ((first | (go_at_call 61; exact HX.out w1 _ _) | (go_at_call 76; exact HT1.out w1 _ _)))))
      refine wpQuiet_nil ?_
      intro _ hw'
      obtain ⟨⟨dq1, osq1⟩, hw''⟩ := hw'
      subst hw''
      have hB2 := Below.thru hB1 hB1.size (below_regrown w1 dq1 osq1)
      have up2 : ∀ {a v}, (∀ d os, (Sort.grow (redrawn w1 d) os).cell? a = some v) → ∀ d os, (Sort.grow (redrawn (Sort.grow (redrawn w1 dq1) osq1) d) os).cell? a = some v := fun h => cell_regrown (h _ _)
      have j0x := up2 k0x
      have j0z := up2 k0z
      have j1x := up2 k1x
      have j1z := up2 k1z
      have j3x := up2 k3x
      have j3z := up2 k3z
      have jb0 := up2 kb0
      have jb1 := up2 kb1
      clear up2 k0x k0z k1x k1z k2x k2z k3x k3z kb0 kb1
      generalize Sort.grow (redrawn w1 dq1) osq1 = w2 at *
      generalize hD1 : trn (px l k) (pz l k) (px l (nx n k)) (pz l (nx n k)) (px l (nx n (nx n k))) (pz l (nx n (nx n k))) = D1 at *
      generalize hD2 : trn (px l 0) (pz l 0) (px l k) (pz l k) (px l (nx n k)) (pz l (nx n k)) = D2 at *
      have E1 : Hid (D3 (pt l k) (pt l (nx n k)) (pt l (nx n (nx n k))) = D1) := hD1
      have E2 : Hid (D3 (pt l 0) (pt l k) (pt l (nx n k)) = D2) := hD2
      clear hD1 hD2
      by_cases g1 : D1 ≤ 0
      · go_wp2
        go_ret
        refine PBt.no (fun hc => ?_) hB2
        have hcv := (hc k (by rw [← HN.out]; exact hlt)).1
        rw [← HN.out] at hcv
        have e1 := E1.out
        unfold nx at e1
        omega
      · go_wp2_with fail
        by_cases g2 : 0 < k
        · by_cases g3 : k < n - 1
          · have g4 : (k : Int) < (n : Int) - 1 := by omega
            refine wp_region_quiet_below (by kernel_rfl) (by kernel_rfl) ?_
            repeat (any_goals (first | go_big_quiet_step (exact HT2.out w2 _ _) | quiet_step (exact HT2.out w2 _ _)))
            refine wpQuiet_nil ?_
            intro _ hw'
            obtain ⟨⟨dq2, osq2⟩, hw''⟩ := hw'
            subst hw''
            have hB3 := Below.thru hB2 hB2.size (below_regrown w2 dq2 osq2)
            generalize Sort.grow (redrawn w2 dq2) osq2 = w3 at *
            by_cases g5 : D2 ≤ 0
            · go_wp2
              go_ret
              refine PBt.no (fun hc => ?_) hB3
              have hcv := (hc k (by rw [← HN.out]; exact hlt)).2 g2 (by rw [← HN.out]; exact g3)
              rw [← HN.out] at hcv
              have e2 := E2.out
              unfold nx at e2
              omega
            · have HK2 : Hid (∀ j, j < k + 1 → 0 < D3 (pt l j) (pt l (nx n j)) (pt l (nx n (nx n j))) ∧ (0 < j → j < n - 1 → 0 < D3 (pt l 0) (pt l j) (pt l (nx n j)))) := fun j hj => by
                rcases Nat.lt_or_ge j k with q | q
                · exact HK.out j q
                · obtain rfl : j = k := by omega
                  exact ⟨by rw [E1.out]; omega, fun _ _ => by rw [E2.out]; omega⟩
              go_wp2
              go_roundw
              case rel => exact ⟨k + 1, by omega, by go_num, HK2, hB3⟩
              case measure => simp [intOf]; omega
          · have g4 : ¬ (k : Int) < (n : Int) - 1 := by omega
            refine wp_region_quiet_below (by kernel_rfl) (by kernel_rfl) ?_
            repeat (any_goals (first | go_big_quiet_step (exact HT2.out w2 _ _) | quiet_step (exact HT2.out w2 _ _)))
            refine wpQuiet_nil ?_
            intro _ hw'
            obtain ⟨⟨dq2, osq2⟩, hw''⟩ := hw'
            subst hw''
            have hB3 := Below.thru hB2 hB2.size (below_regrown w2 dq2 osq2)
            generalize Sort.grow (redrawn w2 dq2) osq2 = w3 at *
            have HK2 : Hid (∀ j, j < k + 1 → 0 < D3 (pt l j) (pt l (nx n j)) (pt l (nx n (nx n j))) ∧ (0 < j → j < n - 1 → 0 < D3 (pt l 0) (pt l j) (pt l (nx n j)))) := fun j hj => by
              rcases Nat.lt_or_ge j k with q | q
              · exact HK.out j q
              · obtain rfl : j = k := by omega
                exact ⟨by rw [E1.out]; omega, fun _ h => absurd h g3⟩
            go_wp2
            go_roundw
            case rel => exact ⟨k + 1, by omega, by go_num, HK2, hB3⟩
            case measure => simp [intOf]; omega
        · have g4 : ¬ (0 : Int) < (k : Int) := by omega
          refine wp_region_quiet_below (by kernel_rfl) (by kernel_rfl) ?_
          repeat (any_goals (first | go_big_quiet_step (exact HT2.out w2 _ _) | quiet_step (exact HT2.out w2 _ _)))
          refine wpQuiet_nil ?_
          intro _ hw'
          obtain ⟨⟨dq2, osq2⟩, hw''⟩ := hw'
          subst hw''
          have hB3 := Below.thru hB2 hB2.size (below_regrown w2 dq2 osq2)
          generalize Sort.grow (redrawn w2 dq2) osq2 = w3 at *
          have HK2 : Hid (∀ j, j < k + 1 → 0 < D3 (pt l j) (pt l (nx n j)) (pt l (nx n (nx n j))) ∧ (0 < j → j < n - 1 → 0 < D3 (pt l 0) (pt l j) (pt l (nx n j)))) := fun j hj => by
            rcases Nat.lt_or_ge j k with q | q
            · exact HK.out j q
            · obtain rfl : j = k := by omega
              exact ⟨by rw [E1.out]; omega, fun h _ => absurd h g2⟩
          go_wp2
          go_roundw
          case rel => exact ⟨k + 1, by omega, by go_num, HK2, hB3⟩
          case measure => simp [intOf]; omega
    · obtain rfl : k = n := by omega
      go_wp2
      go_ret
      refine PBt.yes (fun j hj => ?_) hB
      have := HK.out j (by rw [HN.out]; exact hj)
      rw [← HN.out]
      exact this
end Go.Proofs.YtljmhejljpfaiaaGreat
