import Derived.Test.YtljmhejljpfaiaaG
namespace Go.Proofs.Ytljmhejljpfaiaa
set_option maxRecDepth 100000
open Go.RowKit

/-- the index of the corner with which a shape begins, among the first k -/
def fst (l : List Pt) : Nat → Nat
  | 0 => 0
  | k + 1 => if pz l k < pz l (fst l k) ∨ (pz l k = pz l (fst l k) ∧ px l k < px l (fst l k)) then k else fst l k
theorem fst_lt (l : List Pt) (k : Nat) (n : Nat) (hn : 0 < n) (hk : k ≤ n) : fst l k < n := by
  induction k with
  | zero => exact hn
  | succ k ih => unfold fst; split; omega; exact ih (by omega)
set_option maxHeartbeats 2000000 in
theorem first_any (b o c : Nat) (l : List Pt) (w : World) (hr : Row w b o l) (h3 : 1 ≤ l.length) (h12 : l.length ≤ 1000000) :
    Calls Try.prog 89 #[.slice (some ⟨b, o, none⟩) l.length c] w fun e w' => e = .returned (.int .i64 (fst l l.length : Nat)) ∧ Below w.heap.size w w' := by
  have HR := Lib.hid hr
  obtain ⟨n, hn⟩ : ∃ n, n = l.length := ⟨_, rfl⟩
  rw [← hn] at h3 h12 ⊢
  have HN := Lib.hid hn
  clear hr hn
  go_enter Try.func89, Try.ntmps89
  go_wp2
  go_loopw [4, 3] (fun i t wr => ∃ k : Nat, k ≤ n ∧ i = .int .i64 k ∧ t = .int .i64 (fst l k : Nat) ∧ Below w.heap.size w wr) (fun i _ _ => n - (intOf i).toNat)
  case atStart => exact ⟨0, Nat.zero_le _, rfl, rfl, Below.refl _ _⟩
  case round =>
    obtain ⟨k, hk, rfl, rfl, hB⟩ := hrel
    by_cases hlt : k < n
    · have hrow := HR.out.keep hB
      have hat : fst l k < n := fst_lt l k n (by omega) hk
      obtain ⟨ckx, ckz⟩ := hrow k (by rw [← HN.out]; exact hlt)
      obtain ⟨cax, caz⟩ := hrow (fst l k) (by rw [← HN.out]; exact hat)
      have HF0 : Hid (fst l (k + 1) = if pz l k < pz l (fst l k) ∨ (pz l k = pz l (fst l k) ∧ px l k < px l (fst l k)) then k else fst l k) := rfl
      have kkx := cell_regrown ckx
      have kkz := cell_regrown ckz
      have kax := cell_regrown cax
      have kaz := cell_regrown caz
      clear hrow ckx ckz cax caz
      generalize fst l k = a at *
      go_wp2_with fail
      by_cases g1 : pz l k < pz l a
      · have HF : Hid (fst l (k + 1) = k) := by show _ = _; rw [HF0.out, if_pos (.inl g1)]
        clear HF0
        refine wp_region_quiet_below (by kernel_rfl) (by kernel_rfl) ?_
        repeat (any_goals (first | go_big_quiet_step (fail) | quiet_step (fail)))
        refine wpQuiet_nil ?_
        intro _ hw'
        obtain ⟨⟨dq1, osq1⟩, hw''⟩ := hw'
        subst hw''
        replace kkx := upq kkx dq1 osq1
        replace kkz := upq kkz dq1 osq1
        replace kax := upq kax dq1 osq1
        replace kaz := upq kaz dq1 osq1
        have hBq := Below.thru hB hB.size (below_regrown wr dq1 osq1)
        generalize Sort.grow (redrawn wr dq1) osq1 = w2 at *
        go_wp2
        go_roundw
        case rel => exact ⟨k + 1, by omega, by go_num, by rw [HF.out], hBq⟩
        case measure => simp [intOf]; omega
      · by_cases g2 : pz l k = pz l a
        · by_cases g3 : px l k < px l a
          · have HF : Hid (fst l (k + 1) = k) := by show _ = _; rw [HF0.out, if_pos (.inr ⟨g2, g3⟩)]
            have g2' : (pz l k == pz l a) = true := by simpa using g2
            clear HF0 g2
            refine wp_region_quiet_below (by kernel_rfl) (by kernel_rfl) ?_
            repeat (any_goals (first | go_big_quiet_step (fail) | quiet_step (fail)))
            refine wpQuiet_nil ?_
            intro _ hw'
            obtain ⟨⟨dq1, osq1⟩, hw''⟩ := hw'
            subst hw''
            replace kkx := upq kkx dq1 osq1
            replace kkz := upq kkz dq1 osq1
            replace kax := upq kax dq1 osq1
            replace kaz := upq kaz dq1 osq1
            have hBq := Below.thru hB hB.size (below_regrown wr dq1 osq1)
            generalize Sort.grow (redrawn wr dq1) osq1 = w2 at *
            go_wp2
            go_roundw
            case rel => exact ⟨k + 1, by omega, by go_num, by rw [HF.out], hBq⟩
            case measure => simp [intOf]; omega
          · have HF : Hid (fst l (k + 1) = a) := by show _ = _; rw [HF0.out, if_neg (by omega)]
            have g2' : (pz l k == pz l a) = true := by simpa using g2
            clear HF0 g2
            refine wp_region_quiet_below (by kernel_rfl) (by kernel_rfl) ?_
            repeat (any_goals (first | go_big_quiet_step (fail) | quiet_step (fail)))
            refine wpQuiet_nil ?_
            intro _ hw'
            obtain ⟨⟨dq1, osq1⟩, hw''⟩ := hw'
            subst hw''
            replace kkx := upq kkx dq1 osq1
            replace kkz := upq kkz dq1 osq1
            replace kax := upq kax dq1 osq1
            replace kaz := upq kaz dq1 osq1
            have hBq := Below.thru hB hB.size (below_regrown wr dq1 osq1)
            generalize Sort.grow (redrawn wr dq1) osq1 = w2 at *
            go_wp2
            go_roundw
            case rel => exact ⟨k + 1, by omega, by go_num, by rw [HF.out], hBq⟩
            case measure => simp [intOf]; omega
        · have HF : Hid (fst l (k + 1) = a) := by show _ = _; rw [HF0.out, if_neg (by omega)]
          have g2' : (pz l k == pz l a) = false := by simpa using g2
          clear HF0 g2
          refine wp_region_quiet_below (by kernel_rfl) (by kernel_rfl) ?_
          repeat (any_goals (first | go_big_quiet_step (fail) | quiet_step (fail)))
          refine wpQuiet_nil ?_
          intro _ hw'
          obtain ⟨⟨dq1, osq1⟩, hw''⟩ := hw'
          subst hw''
          replace kkx := upq kkx dq1 osq1
          replace kkz := upq kkz dq1 osq1
          replace kax := upq kax dq1 osq1
          replace kaz := upq kaz dq1 osq1
          have hBq := Below.thru hB hB.size (below_regrown wr dq1 osq1)
          generalize Sort.grow (redrawn wr dq1) osq1 = w2 at *
          go_wp2
          go_roundw
          case rel => exact ⟨k + 1, by omega, by go_num, by rw [HF.out], hBq⟩
          case measure => simp [intOf]; omega
    · obtain rfl : k = n := by omega
      go_wp2
      go_ret
      exact ⟨rfl, hB⟩
end Go.Proofs.Ytljmhejljpfaiaa
