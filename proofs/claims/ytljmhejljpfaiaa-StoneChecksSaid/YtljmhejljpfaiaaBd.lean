import Derived.Test.YtljmhejljpfaiaaBc
namespace Go.Proofs.Ytljmhejljpfaiaa
set_option maxRecDepth 100000
open Go.RowKit Go.Shelf

/-! whether a point lies on an edge -/
def btw (n a b : Int) : Bool := inB n (min a b) (max a b)
set_option maxHeartbeats 1000000 in
theorem between_any (n a b : Int) (w : World) : Calls Try.prog 116 #[.int .i64 n, .int .i64 a, .int .i64 b] w fun e w' => e = .returned (.bool (btw n a b)) ∧ w = w' := by
  have H : Hid (∀ x y, x = min a b → y = max a b → Calls Try.prog 66 #[.int .i64 n, .int .i64 x, .int .i64 y] w fun e w' => e = .returned (.bool (btw n a b)) ∧ w = w') := fun x y hx hy => by
    subst hx hy
    exact within_any n _ _ w
  go_enter Try.func116, Try.ntmps116
  go_wp2_with fail
  all_goals
    refine (H.out _ _ (by omega) (by omega)).mono ?_
    rintro e w1 ⟨rfl, rfl⟩
    go_wp2
    go_ret
    exact ⟨rfl, rfl⟩
def oe (x z ax az bx bz : Int) : Bool := btw x ax bx && (btw z az bz && (trn ax az bx bz x z == 0))
theorem btw_in {n a b : Int} (h : btw n a b = true) (ha : 0 ≤ a ∧ a ≤ 2000) (hb : 0 ≤ b ∧ b ≤ 2000) : 0 ≤ n ∧ n ≤ 2000 := by
  simp [btw, inB] at h
  omega
set_option maxHeartbeats 2000000 in
theorem onEdge_any (x z ax az bx bz : Int) (w : World) (h1 : 0 ≤ ax ∧ ax ≤ 2000) (h2 : 0 ≤ az ∧ az ≤ 2000) (h3 : 0 ≤ bx ∧ bx ≤ 2000) (h4 : 0 ≤ bz ∧ bz ≤ 2000) :
    Calls Try.prog 105 #[.agg #[.int .i64 x, .int .i64 z], .agg #[.int .i64 ax, .int .i64 az], .agg #[.int .i64 bx, .int .i64 bz]] w fun e w' => e = .returned (.bool (oe x z ax az bx bz)) ∧ Below w.heap.size w w' := by
  have H1 := Lib.hid (fun W => between_any x ax bx W)
  have H2 := Lib.hid (fun W => between_any z az bz W)
  have H3 : Hid (btw x ax bx = true → btw z az bz = true → ∀ W, Calls Try.prog 112 #[.agg #[.int .i64 ax, .int .i64 az], .agg #[.int .i64 bx, .int .i64 bz], .agg #[.int .i64 x, .int .i64 z]] W fun e w' => e = .returned (.int .i64 (trn ax az bx bz x z)) ∧ Below W.heap.size W w') := fun e1 e2 W => by
    have p1 := btw_in e1 h1 h3
    have p2 := btw_in e2 h2 h4
    exact turn_any ax az bx bz x z W (by unfold Sm; omega) (by unfold Sm; omega) (by unfold Sm; omega) (by unfold Sm; omega) (by unfold Sm; omega) (by unfold Sm; omega)
  have HO : Hid (oe x z ax az bx bz = (btw x ax bx && (btw z az bz && (trn ax az bx bz x z == 0)))) := rfl
  have KB := Lib.hid (bl3 w (.cells #[.int .i64 x, .int .i64 z] 32) (.cells #[.int .i64 ax, .int .i64 az] 32) (.cells #[.int .i64 bx, .int .i64 bz] 32))
  have S1 : Hid (B2 w.heap.size x z (((w.alloc (.cells #[.int .i64 x, .int .i64 z] 32)).alloc (.cells #[.int .i64 ax, .int .i64 az] 32)).alloc (.cells #[.int .i64 bx, .int .i64 bz] 32))) := ⟨by simp [go_sem], by simp [go_sem], by simp [go_sem], by simp [go_sem]⟩
  have S2 : Hid (B2 (w.heap.size + 1) ax az (((w.alloc (.cells #[.int .i64 x, .int .i64 z] 32)).alloc (.cells #[.int .i64 ax, .int .i64 az] 32)).alloc (.cells #[.int .i64 bx, .int .i64 bz] 32))) := ⟨by simp [go_sem], by simp [go_sem], by simp [go_sem], by simp [go_sem]⟩
  have S3 : Hid (B2 (w.heap.size + 1 + 1) bx bz (((w.alloc (.cells #[.int .i64 x, .int .i64 z] 32)).alloc (.cells #[.int .i64 ax, .int .i64 az] 32)).alloc (.cells #[.int .i64 bx, .int .i64 bz] 32))) := ⟨by simp [go_sem], by simp [go_sem], by simp [go_sem], by simp [go_sem]⟩
  generalize oe x z ax az bx bz = r at *
  generalize trn ax az bx bz x z = tn at *
  clear h1 h2 h3 h4
  go_enter Try.func105, Try.ntmps105
  go_wp2_with fail
  refine (H1.out _).mono ?_
  rintro e w1 ⟨rfl, rfl⟩
  generalize (((w.alloc (.cells #[.int .i64 x, .int .i64 z] 32)).alloc (.cells #[.int .i64 ax, .int .i64 az] 32)).alloc (.cells #[.int .i64 bx, .int .i64 bz] 32)) = w3 at *
  obtain ⟨a0, a1, _, _⟩ := S1.out
  obtain ⟨b0, b1, _, _⟩ := S2.out
  obtain ⟨c0, c1, _, _⟩ := S3.out
  clear S1 S2 S3
  cases q1 : btw x ax bx with
  | false =>
    rw [q1] at HO
    clear q1
    go_wp2
    go_ret
    exact ⟨by rw [HO.out]; rfl, KB.out⟩
  | true =>
    have H3 := Lib.hid (H3.out q1)
    rw [q1] at HO
    clear q1
    go_wp2_with fail
    refine (H2.out _).mono ?_
    rintro e w1 ⟨rfl, rfl⟩
    cases q2 : btw z az bz with
    | false =>
      rw [q2] at HO
      clear q2
      go_wp2
      go_ret
      exact ⟨by rw [HO.out]; rfl, KB.out⟩
    | true =>
      have H3 := Lib.hid (H3.out q2)
      rw [q2] at HO
      clear q2
      go_wp2_with fail
      refine (H3.out _).mono ?_
      rintro e w1 ⟨rfl, hb⟩
      have k1 := Below.thru KB.out KB.out.size hb
      clear hb a0 a1 b0 b1 c0 c1
      go_wp2
      go_ret
      exact ⟨by rw [HO.out]; rfl, k1⟩
end Go.Proofs.Ytljmhejljpfaiaa
