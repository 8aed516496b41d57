import Derived.Test.YtljmhejljpfaiaaDi
import Derived.Test.YtljmhejljpfaiaaCe
namespace Go.Proofs.Ytljmhejljpfaiaa
set_option maxRecDepth 100000
open Go.RowKit Go.Shelf

/-! StoneBorders -/
theorem bp_len {l : List Pt} (h : Pl l) : (bp l).length ≤ 24000 := by
  rw [← rbp_bp h.apart]
  have := rbp_len h.2.1 l.length (Nat.le_refl _)
  have := h.1
  omega
set_option maxHeartbeats 16000000 in
theorem bordersL_any (s : SV) (p : Option Addr) (c : Nat) (w : World) (hn : s.nm.size ≤ maxLen) (hlm : s.l.length ≤ maxLen) (h : s.l.length ≤ 1000000 → Pts w (.slice p s.l.length c) s.l) : Calls Try.prog 6 #[stv s (.slice p s.l.length c)] w (PT w) := by
  have HV := Lib.hid (fun W (k : Below w.heap.size w W) (hm : s.l.length ≤ 1000000) => validv_any s (.slice p s.l.length c) W hn ((h hm).keep k))
  have HS := Lib.hid (fun W (k : Below w.heap.size w W) (hm : s.l.length ≤ 1000000) => stonev_any s (.slice p s.l.length c) W ((h hm).keep k) hm)
  have HBo := Lib.hid (fun W v (hp : Pts W v s.l) => border_any s v W hn hp)
  have HPT := Lib.hid h
  have hn1 := hn
  obtain ⟨nm, l, dp, dn, gx, gz⟩ := s
  have HVI : Hid (Vld ⟨nm, l, dp, dn, gx, gz⟩ → Pl l) := fun h => h.2.1
  have HBX : Hid (∀ W e W', PBo ⟨nm, l, dp, dn, gx, gz⟩ W e W' → (∃ (r : Value) (x : Int), e = .returned (.tuple #[r, .int .i64 x]) ∧ (∃ p n c, r = .slice p n c) ∧ ((Vld ⟨nm, l, dp, dn, gx, gz⟩ ∧ x = 0 ∧ Own W' W.heap.size r (bp l)) ∨ (¬ Vld ⟨nm, l, dp, dn, gx, gz⟩ ∧ x = 2 ∧ r = .slice none 0 0))) ∧ Below W.heap.size W W') := fun _ _ _ h => h
  unfold maxLen at hn1 hlm
  unfold stv at *
  dsimp only at *
  have HO : Hid (∀ (W : World) (base : Nat) (v : Value), Own W base v l → ∃ a m c, v = .slice a m c) := fun W base v h => h.form
  have HP : Hid (∀ (W : World) (base : Nat) (v : Value), l.length ≤ 1000000 → Own W base v l → Pts W v l) := fun W base v hb h => h.pts (by omega)
  clear h hn
  obtain ⟨n, hnn⟩ : ∃ n, n = l.length := ⟨_, rfl⟩
  have HN := Lib.hid hnn
  rw [← hnn] at hlm HV HS HPT HP ⊢
  clear hnn
  generalize Vld ⟨nm, l, dp, dn, gx, gz⟩ = V at *
  have b1 : Blk w.heap.size (c6 nm (.slice p n c) dp dn gx gz) 26 (w.alloc (.cells (c6 nm (.slice p n c) dp dn gx gz) 26)) := Blk.new w _ _
  have k1 := bl1 w (.cells (c6 nm (.slice p n c) dp dn gx gz) 26)
  have HB1 : Hid (∀ W, Below (w.alloc (.cells (c6 nm (.slice p n c) dp dn gx gz) 26)).heap.size (w.alloc (.cells (c6 nm (.slice p n c) dp dn gx gz) 26)) W → Blk w.heap.size (c6 nm (.slice p n c) dp dn gx gz) 26 W) := fun W k => b1.below k
  have K1 := Lib.hid k1
  have K1r : Hid (Below (w.alloc (.cells (c6 nm (.slice p n c) dp dn gx gz) 26)).heap.size (w.alloc (.cells (c6 nm (.slice p n c) dp dn gx gz) 26)) (w.alloc (.cells (c6 nm (.slice p n c) dp dn gx gz) 26))) := Below.refl _ _
  clear b1 k1
  by_cases h20 : 20 < n
  · go_enter Try.func6, Try.ntmps6
    go_wp2_with fail
    refine (wakes_any _).mono ?_
    rintro e w2 ⟨rfl, hb2⟩
    have k2 := Below.thru K1.out K1.out.size hb2
    clear hb2
    go_wp2
    go_ret
    exact ⟨rfl, k2⟩
  · go_enter Try.func6, Try.ntmps6
    go_wp2_with fail
    refine (HS.out _ K1.out (by omega)).mono ?_
    rintro e w2 ⟨⟨v5, rfl, ho5⟩, hb2⟩
    have K2 := Lib.hid (Below.thru K1.out K1.out.size hb2)
    have K2r := Lib.hid hb2
    have HP5 := Lib.hid (HP.out _ _ _ (by omega) ho5)
    obtain ⟨a5, m5, c5, rfl⟩ := HO.out _ _ _ ho5
    clear hb2 ho5
    go_wp2_with fail
    refine (HBo.out w2 _ HP5.out).mono ?_
    rintro e w3 hx
    obtain ⟨⟨r, x, rfl, ⟨rp, rn, rc, rfl⟩, hx⟩, hb3⟩ := HBX.out _ _ _ hx
    have K3 := Lib.hid (Below.thru K2.out K2.out.size hb3)
    have q3 := HB1.out _ (Below.thru K2r.out K2r.out.size hb3)
    have HQ3 := Lib.hid q3
    have HX := Lib.hid hx
    have s0 := q3.cell (i := 0) rfl
    have s1 := q3.cell (i := 1) rfl
    have s2 := q3.cell (i := 2) rfl
    have s3 := q3.cell (i := 3) rfl
    have s4 := q3.cell (i := 4) rfl
    have s5 := q3.cell (i := 5) rfl
    clear hx hb3 q3
    go_wp2_with fail
    refine (HV.out w3 K3.out (by omega)).mono ?_
    rintro e w4 ⟨⟨bv, rfl, hbv⟩, hb4⟩
    have HBV := Lib.hid hbv
    have K4 := Lib.hid (Below.thru K3.out K3.out.size hb4)
    have HB4 := Lib.hid hb4
    have t1 := (HQ3.out.below hb4).cell (i := 1) rfl
    clear hbv hb4 s0 s1 s2 s3 s4 s5
    cases bv with
    | false =>
      obtain ⟨rfl, hr⟩ : x = 2 ∧ (.slice rp rn rc : Value) = .slice none 0 0 := by
        rcases HX.out with ⟨hv, _⟩ | ⟨_, h1, h2⟩
        · exact absurd (HBV.out.2 hv) (by decide)
        · exact ⟨h1, h2⟩
      cases hr
      go_wp2_with fail
      refine (wakes_any _).mono ?_
      rintro e w5 ⟨rfl, hb5⟩
      have k5 := Below.thru K4.out K4.out.size hb5
      clear hb5
      go_wp2
      go_ret
      exact ⟨rfl, k5⟩
    | true =>
      have hv : V := by first | exact HBV.out.1 rfl | exact HBV.out.1 trivial
      obtain ⟨rfl, ho⟩ : x = 0 ∧ Own w3 w2.heap.size (.slice rp rn rc) (bp l) := by
        rcases HX.out with ⟨_, h1, h2⟩ | ⟨h1, _⟩
        · exact ⟨h1, h2⟩
        · exact absurd hv h1
      have hpl := HVI.out hv
      have hbl := bp_len hpl
      obtain ⟨b, o, c', hpe, hrow⟩ := (HPT.out (by omega)).some (by have := HN.out; have := hpl.1.1; omega)
      simp only [Value.slice.injEq] at hpe
      obtain ⟨hp1, -, -⟩ := hpe
      subst hp1
      have HP4 := Lib.hid ((ho.pts (by omega)).keep HB4.out)
      have HRB : Hid (Calls Try.prog 34 #[.slice (some ⟨b, o, none⟩) n c] w4 fun e w' => (∃ v, e = .returned v ∧ OwnR w' w4.heap.size v (bp l)) ∧ Below w4.heap.size w4 w') := by
        have h := rborder_any b o c l w4 (hrow.keep K4.out) (by have := hpl.1; omega) hpl.1.2 hpl.2.1 hpl.apart
        rw [← HN.out] at h
        exact h
      clear ho hpl hrow hv
      go_wp2_with fail
      refine HRB.out.mono ?_
      rintro e w5 ⟨⟨v6, rfl, ho6⟩, hb5⟩
      have K5 := Lib.hid (Below.thru K4.out K4.out.size hb5)
      obtain ⟨a6, m6, c6', rfl⟩ := own_form ho6
      have HSP := Lib.hid (samePoints_any _ _ (bp l) w5 (HP4.out.keep hb5) (OwnR.pts ho6 (by omega)) (by omega))
      clear ho6 hb5 t1
      go_wp2_with fail
      refine HSP.out.mono ?_
      rintro e w6 ⟨rfl, hb6⟩
      have K6 := Lib.hid (Below.thru K5.out K5.out.size hb6)
      clear hb6
      go_wp2_with fail
      refine (wakes_any _).mono ?_
      rintro e w7 ⟨rfl, hb7⟩
      have k7 := Below.thru K6.out K6.out.size hb7
      clear hb7
      go_wp2
      go_ret
      exact ⟨rfl, k7⟩
end Go.Proofs.Ytljmhejljpfaiaa
