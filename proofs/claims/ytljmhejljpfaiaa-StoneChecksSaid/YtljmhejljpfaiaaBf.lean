import Derived.Test.YtljmhejljpfaiaaBe
namespace Go.Proofs.Ytljmhejljpfaiaa
set_option maxRecDepth 100000
open Go.RowKit Go.Shelf

/-! isPoint, alongGrain -/
def IsP (l : List Pt) (x z : Int) : Prop := ∃ i, i < l.length ∧ hit l x z i = true
set_option maxHeartbeats 1000000 in
theorem isPoint_any (b o c : Nat) (l : List Pt) (x z : Int) (w : World) (hr : Row w b o l) (h3 : 0 < l.length) (h12 : l.length ≤ 1000) (hx : Bx l) :
    Calls Try.prog 75 #[.slice (some ⟨b, o, none⟩) l.length c, .agg #[.int .i64 x, .int .i64 z]] w (PBt (IsP l x z) w) := by
  have HE := Lib.hid (fun W (k : Below w.heap.size w W) => edgeOf_any b o c l x z W (hr.keep k) h3 h12 hx)
  have HP : Hid (∀ r W, PEo l x z r → Below w.heap.size w W → PBt (IsP l x z) w (.returned (.bool (decide (0 ≤ r)))) W) := fun r W h k => by
    refine ⟨⟨_, rfl, ?_⟩, k⟩
    rcases h with ⟨i, hi, rfl, h1, _⟩ | ⟨rfl, h⟩
    · simp only [decide_eq_true_eq]
      exact ⟨fun _ => ⟨i, hi, h1⟩, fun _ => by omega⟩
    · simp only [decide_eq_true_eq]
      refine ⟨fun h0 => by omega, fun ⟨i, hi, h1⟩ => ?_⟩
      rw [h i hi] at h1
      cases h1
  clear hr hx
  generalize l.length = n at *
  go_enter Try.func75, Try.ntmps75
  go_wp2_with fail
  refine (HE.out _ (bl1 w _)).mono ?_
  rintro e w1 ⟨⟨r, rfl, hp⟩, hb⟩
  have H1 := Lib.hid (HP.out r w1 hp (Below.thru (bl1 w _) (by simp) hb))
  clear hp hb
  by_cases h0 : 0 ≤ r
  · have g1 : decide (0 ≤ r) = true := by simpa using h0
    rw [g1] at H1
    go_wp2
    go_ret
    exact H1.out
  · have g1 : decide (0 ≤ r) = false := by simpa using h0
    rw [g1] at H1
    go_wp2
    go_ret
    exact H1.out
/-- along the grain -/
def agr (gx gz x1 z1 x2 z2 t : Int) : Bool := decide (100 * (((x2 - x1) * gz - (z2 - z1) * gx).natAbs : Int) ≤ t * (((x2 - x1) * gx + (z2 - z1) * gz).natAbs : Int))
theorem mul_sm {a b A B : Int} (ha : -A ≤ a ∧ a ≤ A) (hb : -B ≤ b ∧ b ≤ B) (hA : 0 ≤ A) : -(A * B) ≤ a * b ∧ a * b ≤ A * B := by
  have h : a.natAbs * b.natAbs ≤ A.natAbs * B.natAbs := Nat.mul_le_mul (by omega) (by omega)
  rw [← Int.natAbs_mul, ← Int.natAbs_mul] at h
  have : 0 ≤ A * B := Int.mul_nonneg hA (by omega)
  omega
set_option maxHeartbeats 2000000 in
theorem alongGrain_any (nm : ByteArray) (p : Option Addr) (n c : Nat) (dp dn gx gz x1 z1 x2 z2 t : Int) (w : World) (hg1 : -100 ≤ gx ∧ gx ≤ 100) (hg2 : -100 ≤ gz ∧ gz ≤ 100)
    (b1 : 0 ≤ x1 ∧ x1 ≤ 2000) (b2 : 0 ≤ z1 ∧ z1 ≤ 2000) (b3 : 0 ≤ x2 ∧ x2 ≤ 2000) (b4 : 0 ≤ z2 ∧ z2 ≤ 2000) (ht : 0 ≤ t ∧ t ≤ 1000) :
    Calls Try.prog 109 #[.agg #[.string nm, .slice p n c, .int .i64 dp, .int .i64 dn, .int .i64 gx, .int .i64 gz], .agg #[.int .i64 x1, .int .i64 z1], .agg #[.int .i64 x2, .int .i64 z2], .int .i64 t] w fun e w' => e = .returned (.bool (agr gx gz x1 z1 x2 z2 t)) ∧ Below w.heap.size w w' := by
  have e1 := IntWalk.i64_in (x2 - x1) (by omega)
  have e2 := IntWalk.i64_in (z2 - z1) (by omega)
  have HA : Hid (agr gx gz x1 z1 x2 z2 t = decide (100 * (((x2 - x1) * gz - (z2 - z1) * gx).natAbs : Int) ≤ t * (((x2 - x1) * gx + (z2 - z1) * gz).natAbs : Int))) := rfl
  have d1 : -2000 ≤ x2 - x1 ∧ x2 - x1 ≤ 2000 := by omega
  have d2 : -2000 ≤ z2 - z1 ∧ z2 - z1 ≤ 2000 := by omega
  have m1 := mul_sm (A := 2000) (B := 100) d1 hg2 (by omega)
  have m2 := mul_sm (A := 2000) (B := 100) d2 hg1 (by omega)
  have m3 := mul_sm (A := 2000) (B := 100) d1 hg1 (by omega)
  have m4 := mul_sm (A := 2000) (B := 100) d2 hg2 (by omega)
  have e3 := IntWalk.i64_in ((x2 - x1) * gz) (by omega)
  have e4 := IntWalk.i64_in ((z2 - z1) * gx) (by omega)
  have e5 := IntWalk.i64_in ((x2 - x1) * gx) (by omega)
  have e6 := IntWalk.i64_in ((z2 - z1) * gz) (by omega)
  have e7 := IntWalk.i64_in ((x2 - x1) * gz - (z2 - z1) * gx) (by omega)
  have e8 := IntWalk.i64_in ((x2 - x1) * gx + (z2 - z1) * gz) (by omega)
  have HX := Lib.hid (fun W => size_any ((x2 - x1) * gz - (z2 - z1) * gx) W (by omega))
  have HY := Lib.hid (fun W => size_any ((x2 - x1) * gx + (z2 - z1) * gz) W (by omega))
  have hn1 : (((x2 - x1) * gz - (z2 - z1) * gx).natAbs : Int) ≤ 400000 := by omega
  have hn2 : (((x2 - x1) * gx + (z2 - z1) * gz).natAbs : Int) ≤ 400000 := by omega
  have m5 := mul_sm (A := 1000) (B := 400000) (a := t) (b := (((x2 - x1) * gx + (z2 - z1) * gz).natAbs : Int)) (by omega) (by omega) (by omega)
  have e9 := IntWalk.i64_in (100 * (((x2 - x1) * gz - (z2 - z1) * gx).natAbs : Int)) (by omega)
  have e10 := IntWalk.i64_in (t * (((x2 - x1) * gx + (z2 - z1) * gz).natAbs : Int)) (by omega)
  generalize ((x2 - x1) * gz - (z2 - z1) * gx).natAbs = na at *
  generalize ((x2 - x1) * gx + (z2 - z1) * gz).natAbs = nb at *
  generalize agr gx gz x1 z1 x2 z2 t = r at *
  clear hg1 hg2 b1 b2 b3 b4 ht d1 d2 m1 m2 m3 m4 m5 hn1 hn2
  have hB0 := bl3 w (.cells #[.string nm, .slice p n c, .int .i64 dp, .int .i64 dn, .int .i64 gx, .int .i64 gz] 34) (.cells #[.int .i64 x1, .int .i64 z1] 32) (.cells #[.int .i64 x2, .int .i64 z2] 32)
  have s1 := (StB.new w nm (.slice p n c) dp dn gx gz 34).keep (bl2 _ (.cells #[.int .i64 x1, .int .i64 z1] 32) (.cells #[.int .i64 x2, .int .i64 z2] 32))
  have s2 : B2 (w.heap.size + 1) x1 z1 (((w.alloc (.cells #[.string nm, .slice p n c, .int .i64 dp, .int .i64 dn, .int .i64 gx, .int .i64 gz] 34)).alloc (.cells #[.int .i64 x1, .int .i64 z1] 32)).alloc (.cells #[.int .i64 x2, .int .i64 z2] 32)) := ⟨by simp [go_sem], by simp [go_sem], by simp [go_sem], by simp [go_sem]⟩
  have s3 : B2 (w.heap.size + 1 + 1) x2 z2 (((w.alloc (.cells #[.string nm, .slice p n c, .int .i64 dp, .int .i64 dn, .int .i64 gx, .int .i64 gz] 34)).alloc (.cells #[.int .i64 x1, .int .i64 z1] 32)).alloc (.cells #[.int .i64 x2, .int .i64 z2] 32)) := ⟨by simp [go_sem], by simp [go_sem], by simp [go_sem], by simp [go_sem]⟩
  go_enter Try.func109, Try.ntmps109
  go_wp2_with fail
  generalize ((w.alloc (.cells #[.string nm, .slice p n c, .int .i64 dp, .int .i64 dn, .int .i64 gx, .int .i64 gz] 34)).alloc (.cells #[.int .i64 x1, .int .i64 z1] 32)).alloc (.cells #[.int .i64 x2, .int .i64 z2] 32) = w0 at *
  have f1 := cell_regrown s2.1
  have f2 := cell_regrown s2.2.1
  have f3 := cell_regrown s3.1
  have f4 := cell_regrown s3.2.1
  refine wp_region_quiet_below (by kernel_rfl) (by kernel_rfl) ?_
  repeat (any_goals (first | go_big_quiet_step (fail) | quiet_step (fail)))
  refine wpQuiet_nil ?_
  intro _ hw'
  obtain ⟨⟨dq, osq⟩, hw''⟩ := hw'
  subst hw''
  clear f1 f2 f3 f4 s2 s3
  replace s1 := s1.keep (below_regrown w0 dq osq)
  have hBq := Below.thru hB0 hB0.size (below_regrown w0 dq osq)
  generalize Sort.grow (redrawn w0 dq) osq = w1 at *
  clear hB0
  obtain ⟨_, _, _, _, c4, c5⟩ := s1
  go_wp2_with (go_at_call 111; first | (refine (HX.out _).mono ?_; rintro e w2 ⟨rfl, rfl⟩) | (refine (HY.out _).mono ?_; rintro e w2 ⟨rfl, rfl⟩))
  go_ret
  exact ⟨by rw [HA.out]; rfl, hBq⟩
end Go.Proofs.Ytljmhejljpfaiaa
