import Derived.Test.YtjjomjjgoceklaaI
namespace Go.Proofs.Ytjjomjjgoceklaa
open Go.RowKit

theorem abs_any (v : Value) (z : Int) (w : World) (h : Zr w v z) : Calls Try.prog 22 #[v] w (PZ (z.natAbs : Int) w) := by
  obtain ⟨s, x, p, rfl, hd, h1, h2⟩ := h.dg
  have H := Lib.hid hd
  clear hd h h1 h2
  go_enter Try.func22, Try.ntmps22
  go_wp2
  exact bodyPost_ret (v := .agg #[.bool false, .int .u64 x, .pointer p]) (by simp [results, Try.results22, go_sem]) rfl ⟨bl2 _ _ _, _, rfl, false, x, p, z.natAbs, rfl, H.out.keep (bl2 _ _ _) (Nat.le_refl _), by simp, by simp⟩
theorem isZero_yes {v : Value} {n : Nat} (w : World) (h : Dg w v n) (hn : n = 0) : Calls Try.prog 57 #[v] w fun e w' => e = .returned (.bool true) ∧ ∃ c t, w' = (w.alloc (.cells c t)).alloc (.cells c t) :=
  (isZero_any w h).mono fun e w' ⟨h1, h2⟩ => ⟨by rw [h1, hn]; rfl, h2⟩
theorem isZero_no {v : Value} {n : Nat} (w : World) (h : Dg w v n) (hn : n ≠ 0) : Calls Try.prog 57 #[v] w fun e w' => e = .returned (.bool false) ∧ ∃ c t, w' = (w.alloc (.cells c t)).alloc (.cells c t) :=
  (isZero_any w h).mono fun e w' ⟨h1, h2⟩ => ⟨by rw [h1]; simp [hn], h2⟩
theorem i64_u64 (n : Int) (h1 : 0 ≤ n) (h2 : n ≤ 9223372036854775807) : IntKind.u64.wrap n = n := by
  rw [IntKind.wrap_u64]; omega
theorem i64_neg_u64 (n : Int) (h1 : n < 0) (h2 : -9223372036854775808 ≤ n) : IntKind.u64.wrap (wrap64 (-n)) = -n := by
  rw [IntKind.wrap_u64]; unfold wrap64; omega
/-- n is an int64 -/
def I64 (n : Int) : Prop := -9223372036854775808 ≤ n ∧ n ≤ 9223372036854775807
theorem int_any (n : Int) (w : World) (h : I64 n) : Calls Try.prog 12 #[.int .i64 n] w (PZ n w) := by
  by_cases hn : n < 0
  · have e := i64_neg_u64 n hn h.1
    obtain ⟨m, hm⟩ : ∃ m : Nat, (m : Int) = -n := ⟨n.natAbs, by omega⟩
    have hw : Wd m := by have := h.1; unfold Wd WB; omega
    obtain rfl : n = -(m : Int) := by omega
    rw [Int.neg_neg] at e
    clear h hm
    go_enter Try.func12, Try.ntmps12
    go_wp2
    exact bodyPost_ret (v := .agg #[.bool true, .int .u64 m, .pointer none]) (by simp [results, Try.results12, go_sem]) rfl ⟨bl1 _ _, _, rfl, true, m, none, m, rfl, .inl ⟨hw, rfl⟩, fun _ => by omega, by simp⟩
  · have e := i64_u64 n (by omega) h.2
    obtain ⟨m, rfl⟩ : ∃ m : Nat, n = (m : Int) := ⟨n.natAbs, by omega⟩
    have hw : Wd m := by have := h.2; unfold Wd WB; omega
    clear h
    go_enter Try.func12, Try.ntmps12
    go_wp2
    exact bodyPost_ret (v := .agg #[.bool false, .int .u64 m, .pointer none]) (by simp [results, Try.results12, go_sem]) rfl ⟨bl1 _ _, _, rfl, false, m, none, m, rfl, .inl ⟨hw, rfl⟩, by simp, by simp⟩
theorem sign_any (v : Value) (z : Int) (w : World) (h : Zr w v z) : Calls Try.prog 24 #[v] w fun e w' => Below w.heap.size w w' ∧ e = .returned (.int .i64 z.sign) := by
  obtain ⟨s, x, p, rfl, hd, h1, h2⟩ := h.dg
  have H := Lib.hid hd
  clear hd h
  by_cases hz : z = 0
  · have hq : z.natAbs = 0 := by omega
    have HQ := Lib.hid hq
    clear hq
    have HZ := Lib.hid hz
    clear h1 h2 hz
    go_enter Try.func24, Try.ntmps24
    go_wp2_with (go_at_call 57; refine (isZero_yes _ (H.out.keep (bl1 _ _) (Nat.le_refl _)) HQ.out).mono ?_; rintro e w1 ⟨rfl, c1, t1, rfl⟩)
    go_ret
    exact ⟨bl3 _ _ _ _, by rw [HZ.out]; rfl⟩
  · have hq : z.natAbs ≠ 0 := by omega
    have HQ := Lib.hid hq
    clear hq
    cases s with
    | false =>
      have hp : 0 < z := by have := h2 rfl; omega
      have HP := Lib.hid hp
      clear h1 h2 hz hp
      go_enter Try.func24, Try.ntmps24
      go_wp2_with (first | (go_at_call 57; refine (isZero_no _ (H.out.keep (bl1 _ _) (Nat.le_refl _)) HQ.out).mono ?_; rintro e w1 ⟨rfl, c1, t1, rfl⟩) | (go_at_call 58; refine (signOf_t _).mono ?_; rintro e w1 ⟨rfl, rfl⟩))
      go_ret
      exact ⟨bl3 _ _ _ _, by rw [Int.sign_eq_one_of_pos HP.out]; rfl⟩
    | true =>
      have hp := h1 rfl
      have HP := Lib.hid hp
      clear h1 h2 hz hp
      go_enter Try.func24, Try.ntmps24
      go_wp2_with (first | (go_at_call 57; refine (isZero_no _ (H.out.keep (bl1 _ _) (Nat.le_refl _)) HQ.out).mono ?_; rintro e w1 ⟨rfl, c1, t1, rfl⟩) | (go_at_call 58; refine (signOf_f _).mono ?_; rintro e w1 ⟨rfl, rfl⟩))
      go_ret
      exact ⟨bl3 _ _ _ _, by rw [Int.sign_eq_neg_one_of_neg HP.out]; rfl⟩
end Go.Proofs.Ytjjomjjgoceklaa
