import Derived.Test.YtljmhejljpfaiaaU
namespace Go.Proofs.Ytljmhejljpfaiaa
set_option maxRecDepth 100000
open Go.RowKit

/-! the steps of an edge -/
theorem size_any (n : Int) (w : World) (h : -1000000000 ≤ n ∧ n ≤ 1000000000) : Calls Try.prog 111 #[.int .i64 n] w fun e w' => e = .returned (.int .i64 (n.natAbs : Int)) ∧ w = w' := by
  have e1 := IntWalk.i64_in (-n) (by omega)
  go_enter Try.func111, Try.ntmps111
  go_wp2
  all_goals
    go_ret
    refine ⟨?_, rfl⟩
    show Ending.returned (Value.int IntKind.i64 _) = _
    congr 2
    omega
set_option maxHeartbeats 1000000 in
theorem divisor_any (a b : Nat) (w : World) (ha : a ≤ 1000000000) (hb : b ≤ 1000000000) : Calls Try.prog 110 #[.int .i64 (a : Int), .int .i64 (b : Int)] w fun e w' => e = .returned (.int .i64 (Nat.gcd a b : Nat)) ∧ Below w.heap.size w w' := by
  obtain ⟨g, hg⟩ : ∃ g, g = Nat.gcd a b := ⟨_, rfl⟩
  rw [← hg]
  have HG := Lib.hid hg
  have HA := Lib.hid ha; have HB := Lib.hid hb
  clear hg ha hb
  go_enter Try.func110, Try.ntmps110
  go_wp2
  go_loopw [0, 1] (fun x y wr => ∃ p q : Nat, (p ≤ 1000000000 ∧ q ≤ 1000000000) ∧ Nat.gcd p q = g ∧ x = .int .i64 p ∧ y = .int .i64 q ∧ Below w.heap.size w wr) (fun _ y _ => (intOf y).toNat)
  case atStart => exact ⟨a, b, ⟨HA.out, HB.out⟩, HG.out.symm, rfl, rfl, Below.refl _ _⟩
  case round =>
    obtain ⟨p, q, hpq, hG, rfl, rfl, hBw⟩ := hrel
    have HP := Lib.hid hpq; have HGG := Lib.hid hG
    clear hpq hG
    by_cases h0 : q = 0
    · subst h0
      have e0 : ((0 : Nat) : Int) = 0 := rfl
      rw [e0]
      go_wp2
      go_ret
      have := HGG.out
      rw [Nat.gcd_zero_right] at this
      subst this
      exact ⟨rfl, hBw⟩
    · have h1 : ¬ (q : Int) = 0 := by omega
      have h2 : ((q : Int) != 0) = true := by simpa using h0
      have hr : (p : Int).tmod (q : Int) = ((p % q : Nat) : Int) := by rw [Int.natCast_emod]; exact Int.tmod_eq_emod_of_nonneg (by omega)
      have hr2 : (p : Int) % (q : Int) = ((p % q : Nat) : Int) := by rw [Int.natCast_emod]
      have HL : Hid (p % q < q) := Nat.mod_lt _ (by omega)
      have HGC : Hid (Nat.gcd q (p % q) = g) := by
        show Nat.gcd q (p % q) = g
        rw [Nat.gcd_comm, ← Nat.gcd_rec, Nat.gcd_comm]; exact HGG.out
      generalize p % q = r at *
      clear h0
      go_wp2_with fail
      refine wp_region_quiet_below (by kernel_rfl) (by kernel_rfl) ?_
      repeat (any_goals (first | go_big_quiet_step (fail) | quiet_step (fail)))
      refine wpQuiet_nil ?_
      intro _ hw'
      obtain ⟨⟨dq, osq⟩, hw''⟩ := hw'
      subst hw''
      have hBq := Below.thru hBw hBw.size (below_regrown _ dq osq)
      generalize Sort.grow (redrawn _ dq) osq = w1 at *
      clear hBw
      go_wp2
      go_roundw
      case rel => exact ⟨q, r, ⟨HP.out.2, by have := HL.out; have := HP.out.2; omega⟩, HGC.out, rfl, rfl, hBq⟩
      case measure => simp only [intOf, Int.toNat_natCast]; exact HL.out
end Go.Proofs.Ytljmhejljpfaiaa
