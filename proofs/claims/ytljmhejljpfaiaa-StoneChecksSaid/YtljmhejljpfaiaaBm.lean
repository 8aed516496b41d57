import Derived.Test.YtljmhejljpfaiaaBl
namespace Go.Proofs.Ytljmhejljpfaiaa
set_option maxRecDepth 100000
open Go.RowKit Go.Shelf

/-! Index -/
def PIx (l : List Pt) (x z : Int) (r : Int) : Prop := (∃ i : Nat, i < l.length ∧ r = i ∧ (px l i = x ∧ pz l i = z) ∧ ∀ j, j < i → ¬ (px l j = x ∧ pz l j = z)) ∨ (r = -1 ∧ ∀ j, j < l.length → ¬ (px l j = x ∧ pz l j = z))
set_option maxHeartbeats 4000000 in
theorem index_any (b o c : Nat) (l : List Pt) (x z : Int) (w : World) (hr : Row w b o l) (h3 : 0 < l.length) (h12 : l.length ≤ 1000000) :
    Calls Try.prog 102 #[.slice (some ⟨b, o, none⟩) l.length c, .agg #[.int .i64 x, .int .i64 z]] w fun e w' => (∃ r, e = .returned (.int .i64 r) ∧ PIx l x z r) ∧ Below w.heap.size w w' := by
  have HR := Lib.hid hr
  obtain ⟨n, hn⟩ : ∃ n, n = l.length := ⟨_, rfl⟩
  rw [← hn] at h3 h12 ⊢
  have HN := Lib.hid hn
  have hbw := hr.lt (by omega)
  clear hr hn
  go_enter Try.func102, Try.ntmps102
  go_wp2
  go_loopw [8, 5] (fun i _ wr => ∃ k : Nat, k ≤ n ∧ i = .int .i64 k ∧ Hid (∀ j, j < k → ¬ (px l j = x ∧ pz l j = z)) ∧ B2 w.heap.size x z wr ∧ Below w.heap.size w wr) (fun i _ _ => n - (intOf i).toNat)
  case atStart => exact ⟨0, Nat.zero_le _, rfl, fun j hj => absurd hj (by omega), ⟨by simp [go_sem], by simp [go_sem], by simp [go_sem], by simp [go_sem]⟩, bl1 _ _⟩
  case round =>
    obtain ⟨k, hk, rfl, HK, hB2, hB⟩ := hrel
    by_cases hlt : k < n
    · have hrow := HR.out.keep hB
      obtain ⟨ckx, ckz⟩ := hrow k (by rw [← HN.out]; exact hlt)
      clear hrow
      have HT : Hid ((px l k = x ∧ pz l k = z) → PIx l x z k) := fun h => .inl ⟨k, by rw [← HN.out]; exact hlt, rfl, h, HK.out⟩
      have HS : Hid (¬ (px l k = x ∧ pz l k = z) → ∀ j, j < k + 1 → ¬ (px l j = x ∧ pz l j = z)) := fun h j hj => by
        rcases Nat.lt_or_ge j k with q | q
        · exact HK.out j q
        · obtain rfl : j = k := by omega
          exact h
      have HL := Lib.hid hlt
      have c1 := cell_regrown ckx
      have c2 := cell_regrown ckz
      have c3 := cell_regrown hB2.1
      have c4 := cell_regrown hB2.2.1
      generalize px l k = fx at *
      generalize pz l k = fz at *
      have hcase : ¬ x = fx ∨ (x = fx ∧ ¬ z = fz) ∨ (x = fx ∧ z = fz) := by
        by_cases e1 : x = fx
        · by_cases e2 : z = fz
          · exact .inr (.inr ⟨e1, e2⟩)
          · exact .inr (.inl ⟨e1, e2⟩)
        · exact .inl e1
      have hN : (¬ x = fx ∨ (x = fx ∧ ¬ z = fz)) → ¬ (fx = x ∧ fz = z) := fun h ⟨a, b⟩ => by
        rcases h with h | ⟨_, h⟩
        · exact h a.symm
        · exact h b.symm
      rcases hcase with h | ⟨rfl, h⟩ | ⟨rfl, rfl⟩
      · have HS2 := Lib.hid (HS.out (hN (.inl h)))
        clear ckx ckz hN
        go_wp2_with fail
        refine wp_region_quiet_below (by kernel_rfl) (by kernel_rfl) ?_
        repeat (any_goals (first | go_big_quiet_step (fail) | quiet_step (fail)))
        refine wpQuiet_nil ?_
        intro _ hw'
        obtain ⟨⟨dq, osq⟩, hw''⟩ := hw'
        subst hw''
        have k2 := Below.thru hB hB.size (below_regrown wr dq osq)
        have S2 := Lib.hid (hB2.keep (below_regrown wr dq osq))
        clear c1 c2 c3 c4 hB hB2
        generalize Sort.grow (redrawn wr dq) osq = w1 at *
        go_wp2
        go_roundw
        case rel => exact ⟨k + 1, by have := HL.out; omega, by go_num, HS2.out, S2.out, k2⟩
        case measure =>
          have e9 : ((k : Int) + 1).toNat = k + 1 := by omega
          have := HL.out
          simp only [intOf, Int.toNat_natCast, e9]
          omega
      · have HS2 := Lib.hid (HS.out (hN (.inr ⟨rfl, h⟩)))
        clear ckx ckz hN
        go_wp2_with fail
        refine wp_region_quiet_below (by kernel_rfl) (by kernel_rfl) ?_
        repeat (any_goals (first | go_big_quiet_step (fail) | quiet_step (fail)))
        refine wpQuiet_nil ?_
        intro _ hw'
        obtain ⟨⟨dq, osq⟩, hw''⟩ := hw'
        subst hw''
        have k2 := Below.thru hB hB.size (below_regrown wr dq osq)
        have S2 := Lib.hid (hB2.keep (below_regrown wr dq osq))
        clear c1 c2 c3 c4 hB hB2
        generalize Sort.grow (redrawn wr dq) osq = w1 at *
        go_wp2
        go_roundw
        case rel => exact ⟨k + 1, by have := HL.out; omega, by go_num, HS2.out, S2.out, k2⟩
        case measure =>
          have e9 : ((k : Int) + 1).toNat = k + 1 := by omega
          have := HL.out
          simp only [intOf, Int.toNat_natCast, e9]
          omega
      · have HT2 := Lib.hid (HT.out ⟨rfl, rfl⟩)
        clear ckx ckz hN
        go_wp2_with fail
        refine wp_region_quiet_below (by kernel_rfl) (by kernel_rfl) ?_
        repeat (any_goals (first | go_big_quiet_step (fail) | quiet_step (fail)))
        refine wpQuiet_nil ?_
        intro _ hw'
        obtain ⟨⟨dq, osq⟩, hw''⟩ := hw'
        subst hw''
        have k2 := Below.thru hB hB.size (below_regrown wr dq osq)
        clear c1 c2 c3 c4 hB hB2
        generalize Sort.grow (redrawn wr dq) osq = w1 at *
        go_wp2
        go_ret
        exact ⟨⟨_, rfl, HT2.out⟩, k2⟩
    · obtain rfl : k = n := by omega
      go_wp2
      go_ret
      exact ⟨⟨_, rfl, .inr ⟨rfl, fun j hj => HK.out j (by rw [HN.out]; exact hj)⟩⟩, hB⟩
end Go.Proofs.Ytljmhejljpfaiaa
