import Derived.Test.YtljmhejljpfaiaaBg
namespace Go.Proofs.Ytljmhejljpfaiaa
set_option maxRecDepth 100000
open Go.RowKit Go.Shelf

/-! checkBlow -/
theorem isPointv_any (s : SV) (v : Value) (x z : Int) (w : World) (h : Pts w v s.l) (hv : Vld s) : Calls Try.prog 75 #[v, .agg #[.int .i64 x, .int .i64 z]] w (PBt (IsP s.l x z) w) := by
  have h3 := hv.2.1.1
  obtain ⟨b, o, c, rfl, hr⟩ := h.some (by omega)
  exact isPoint_any b o c s.l x z w hr (by omega) (by omega) hv.2.1.2.1
def BlowE (s : SV) (x z t er : Int) : Prop := (¬ Vld s ∧ er = 2) ∨ (Vld s ∧ ¬ IsP s.l x z ∧ er = 8) ∨ ((Vld s ∧ IsP s.l x z) ∧ ¬ (0 ≤ t ∧ t ≤ 100) ∧ er = 3) ∨ ((Vld s ∧ IsP s.l x z) ∧ (0 ≤ t ∧ t ≤ 100) ∧ er = 0)
set_option maxHeartbeats 2000000 in
theorem checkBlow_any (s : SV) (v : Value) (x z t : Int) (w : World) (hn : s.nm.size ≤ maxLen) (h : Pts w v s.l) :
    Calls Try.prog 81 #[stv s v, .agg #[.int .i64 x, .int .i64 z], .int .i64 t] w fun e w' => (∃ er, e = .returned (.int .i64 er) ∧ BlowE s x z t er) ∧ Below w.heap.size w w' := by
  obtain ⟨p, c, hv⟩ : ∃ p c, v = .slice p s.l.length c := ⟨_, _, h.2.choose_spec.choose_spec.1⟩
  subst hv
  have HC := Lib.hid (fun W (k : Below w.heap.size w W) => check_any s (.slice p s.l.length c) W hn (h.keep k))
  have HI := Lib.hid (fun W (k : Below w.heap.size w W) (hv : Vld s) => isPointv_any s (.slice p s.l.length c) x z W (h.keep k) hv)
  have HE : Hid (∀ er, BlowE s x z t er ↔ (¬ Vld s ∧ er = 2) ∨ (Vld s ∧ ¬ IsP s.l x z ∧ er = 8) ∨ ((Vld s ∧ IsP s.l x z) ∧ ¬ (0 ≤ t ∧ t ≤ 100) ∧ er = 3) ∨ ((Vld s ∧ IsP s.l x z) ∧ (0 ≤ t ∧ t ≤ 100) ∧ er = 0)) := fun er => Iff.rfl
  obtain ⟨nm, l, dp, dn, gx, gz⟩ := s
  unfold stv at *
  dsimp only at *
  clear h hn
  generalize hV : Vld ⟨nm, l, dp, dn, gx, gz⟩ = V at *
  clear hV
  generalize BlowE ⟨nm, l, dp, dn, gx, gz⟩ x z t = BE at *
  generalize IsP l x z = IP at *
  generalize l.length = n at *
  have s0 := (StB.new w nm (.slice p n c) dp dn gx gz 34).keep (bl1 _ (.cells #[.int .i64 x, .int .i64 z] 32))
  have s1 : B2 (w.heap.size + 1) x z ((w.alloc (.cells #[.string nm, .slice p n c, .int .i64 dp, .int .i64 dn, .int .i64 gx, .int .i64 gz] 34)).alloc (.cells #[.int .i64 x, .int .i64 z] 32)) := ⟨by simp [go_sem], by simp [go_sem], by simp [go_sem], by simp [go_sem]⟩
  have k0 := bl2 w (.cells #[.string nm, .slice p n c, .int .i64 dp, .int .i64 dn, .int .i64 gx, .int .i64 gz] 34) (.cells #[.int .i64 x, .int .i64 z] 32)
  go_enter Try.func81, Try.ntmps81
  go_wp2_with fail
  refine (HC.out _ k0).mono ?_
  rintro e w1 ⟨⟨er, rfl, hx⟩, hb1⟩
  have k1 := Below.thru k0 k0.size hb1
  replace s0 := s0.keep hb1
  replace s1 := s1.keep hb1
  clear hb1 k0
  obtain ⟨_, c1, _, _, _, _⟩ := s0
  obtain ⟨d0, d1, _, _⟩ := s1
  rcases hx with ⟨rfl, hv⟩ | ⟨rfl, hv⟩
  · have HV := Lib.hid hv
    clear hv
    go_wp2_with fail
    refine (HI.out w1 k1 HV.out).mono ?_
    rintro e w2 ⟨⟨bp, rfl, hbp⟩, hb2⟩
    have k2 := Below.thru k1 k1.size hb2
    have HB := Lib.hid hbp
    clear hb2 k1 hbp c1 d0 d1
    cases bp with
    | false =>
      go_wp2
      go_ret
      exact ⟨⟨8, rfl, (HE.out 8).2 (.inr (.inl ⟨HV.out, (by simpa using HB.out), rfl⟩))⟩, k2⟩
    | true =>
      have HT : Hid (inB t 0 100 = decide (0 ≤ t ∧ t ≤ 100)) := rfl
      have HW := Lib.hid (fun W => within_any t 0 100 W)
      go_wp2_with fail
      refine (HW.out _).mono ?_
      rintro e w3 ⟨rfl, rfl⟩
      cases q : inB t 0 100 with
      | false =>
        have Q := Lib.hid q
        clear q
        go_wp2
        go_ret
        exact ⟨⟨3, rfl, (HE.out 3).2 (.inr (.inr (.inl ⟨⟨HV.out, (by simpa using HB.out)⟩, (by have := Q.out; rw [HT.out] at this; simpa using this), rfl⟩)))⟩, k2⟩
      | true =>
        have Q := Lib.hid q
        clear q
        go_wp2
        go_ret
        exact ⟨⟨0, rfl, (HE.out 0).2 (.inr (.inr (.inr ⟨⟨HV.out, (by simpa using HB.out)⟩, (by have := Q.out; rw [HT.out] at this; simpa using this), rfl⟩)))⟩, k2⟩
  · have HV := Lib.hid hv
    clear hv
    go_wp2
    go_ret
    exact ⟨⟨2, rfl, (HE.out 2).2 (.inl ⟨HV.out, rfl⟩)⟩, k1⟩
end Go.Proofs.Ytljmhejljpfaiaa
