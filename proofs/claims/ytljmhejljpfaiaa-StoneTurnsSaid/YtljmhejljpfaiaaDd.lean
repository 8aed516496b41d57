import Derived.Test.YtljmhejljpfaiaaDc
import Derived.Test.YtljmhejljpfaiaaCe
namespace Go.Proofs.Ytljmhejljpfaiaa
set_option maxRecDepth 100000
open Go.RowKit Go.Shelf

/-! StoneTurns -/
theorem Pts.own {w w' : World} {base : Nat} {v : Value} {l : List Pt} (h : Own w base v l) (hl : l.length ≤ 1000000) (k : Below w.heap.size w w') : Pts w' v l := (h.pts (by omega)).keep k
theorem stl_length (l : List Pt) : (stl l).length = l.length := by simp [stl]
set_option maxHeartbeats 16000000 in
theorem turnsL_any (s : SV) (p : Option Addr) (c : Nat) (way : Int) (w : World) (hn : s.nm.size ≤ maxLen) (hlm : s.l.length ≤ maxLen) (h : s.l.length ≤ 1000000 → Pts w (.slice p s.l.length c) s.l) : Calls Try.prog 5 #[stv s (.slice p s.l.length c), .int .i64 way] w (PT w) := by
  have HV := Lib.hid (fun W (k : Below w.heap.size w W) (hm : s.l.length ≤ 1000000) => validv_any s (.slice p s.l.length c) W hn ((h hm).keep k))
  have HS := Lib.hid (fun W (k : Below w.heap.size w W) (hm : s.l.length ≤ 1000000) => stonev_any s (.slice p s.l.length c) W ((h hm).keep k) hm)
  have HT := Lib.hid (fun W v (hp : Pts W v s.l) => turned_any s v way W hn hp)
  have HSAME := Lib.hid (fun W v5 (k : Below w.heap.size w W) (hm : s.l.length ≤ 1000000) (h5 : Pts W v5 s.l) => same_any s v5 (.slice p s.l.length c) W h5 ((h hm).keep k) hm)
  have HSAM2 := Lib.hid (fun (k : Nat) W v6 v7 (h6 : Pts W v6 (turnS s k).l) (h7 : Pts W v7 (turnS s k).l) (hm : s.l.length ≤ 1000000) => same_any (turnS s k) v6 v7 W h6 h7 (by unfold turnS; dsimp only; rw [stl_length, tls_length]; exact hm))
  have HPT := Lib.hid h
  have hn1 := hn
  obtain ⟨nm, l, dp, dn, gx, gz⟩ := s
  have HVI : Hid (Vld ⟨nm, l, dp, dn, gx, gz⟩ → (3 ≤ l.length ∧ l.length ≤ 12) ∧ Bx l ∧ ((-100 ≤ gx ∧ gx ≤ 100) ∧ (-100 ≤ gz ∧ gz ≤ 100))) := fun h => ⟨h.2.1.1, h.2.1.2.1, h.2.2.2.2.2⟩
  have HTU : Hid (∀ W e W', PTu ⟨nm, l, dp, dn, gx, gz⟩ way W e W' → ((¬ Vld ⟨nm, l, dp, dn, gx, gz⟩ ∧ e = .returned (.tuple #[.agg (c6 ⟨#[]⟩ (.slice none 0 0) 0 0 0 0), .int .i64 2])) ∨ (Vld ⟨nm, l, dp, dn, gx, gz⟩ ∧ ¬ (0 ≤ way ∧ way ≤ 7) ∧ e = .returned (.tuple #[.agg (c6 ⟨#[]⟩ (.slice none 0 0) 0 0 0 0), .int .i64 3])) ∨
   (Vld ⟨nm, l, dp, dn, gx, gz⟩ ∧ (0 ≤ way ∧ way ≤ 7) ∧ ∃ v, e = .returned (.tuple #[.agg (c6 nm v dp dn (wayf way.toNat (gx, gz)).1 (wayf way.toNat (gx, gz)).2), .int .i64 0]) ∧ Own W' W.heap.size v (stl (tls way.toNat l)))) ∧ Below W.heap.size W W') := fun _ _ _ h => h
  unfold maxLen at hn1 hlm
  unfold stv at *
  dsimp only [turnS] at *
  have HO : Hid (∀ (W : World) (base : Nat) (v : Value), Own W base v l → ∃ a m c, v = .slice a m c) := fun W base v h => h.form
  have HP : Hid (∀ (W W' : World) (base : Nat) (v : Value), l.length ≤ 1000000 → Own W base v l → Below W.heap.size W W' → Pts W' v l) := fun W W' base v hb h k => Pts.own h hb k
  clear h hn
  obtain ⟨n, hnn⟩ : ∃ n, n = l.length := ⟨_, rfl⟩
  have HN := Lib.hid hnn
  rw [← hnn] at hlm HV HS HSAME HSAM2 HPT HVI HP ⊢
  clear hnn
  generalize Vld ⟨nm, l, dp, dn, gx, gz⟩ = V at *
  have b1 : Blk w.heap.size (c6 nm (.slice p n c) dp dn gx gz) 26 (w.alloc (.cells (c6 nm (.slice p n c) dp dn gx gz) 26)) := Blk.new w _ _
  have k1 := bl1 w (.cells (c6 nm (.slice p n c) dp dn gx gz) 26)
  have HB1 : Hid (∀ W, Below (w.alloc (.cells (c6 nm (.slice p n c) dp dn gx gz) 26)).heap.size (w.alloc (.cells (c6 nm (.slice p n c) dp dn gx gz) 26)) W → Blk w.heap.size (c6 nm (.slice p n c) dp dn gx gz) 26 W) := fun W k => b1.below k
  have K1 := Lib.hid k1
  clear b1 k1
  by_cases h20 : 20 < n
  · go_enter Try.func5, Try.ntmps5
    go_wp2_with fail
    refine (wakes_any _).mono ?_
    rintro e w2 ⟨rfl, hb2⟩
    have k2 := Below.thru K1.out K1.out.size hb2
    clear hb2
    go_wp2
    go_ret
    exact ⟨rfl, k2⟩
  · go_enter Try.func5, Try.ntmps5
    go_wp2_with fail
    refine (HS.out _ K1.out (by omega)).mono ?_
    rintro e w2 ⟨⟨v5, rfl, ho5⟩, hb2⟩
    have K2 := Lib.hid (Below.thru K1.out K1.out.size hb2)
    have hB2 := HB1.out _ hb2
    obtain ⟨a5, m5, c5, rfl⟩ := HO.out _ _ _ ho5
    have HO5 := Lib.hid ho5
    clear hb2 ho5
    obtain ⟨w3, hw3⟩ : ∃ w3, w3 = w2.alloc (.cells (c6 nm (.slice a5 m5 c5) dp dn gx gz) 34) := ⟨_, rfl⟩
    have hb3 : Below w2.heap.size w2 w3 := by rw [hw3]; exact bl1 w2 _
    have K3 := Lib.hid (Below.thru K2.out K2.out.size hb3)
    have b5 : Blk w2.heap.size (c6 nm (.slice a5 m5 c5) dp dn gx gz) 34 w3 := by rw [hw3]; exact Blk.new _ _ _
    have HP5 := Lib.hid (HP.out _ _ _ _ (by omega) HO5.out hb3)
    have hb1 := hB2.below hb3
    have HW3 := Lib.hid hw3
    have HBB : Hid (∀ W, Below w3.heap.size w3 W → Blk w.heap.size (c6 nm (.slice p n c) dp dn gx gz) 26 W ∧ Blk w2.heap.size (c6 nm (.slice a5 m5 c5) dp dn gx gz) 34 W) := fun W k => ⟨hb1.below k, b5.below k⟩
    clear hB2 hb3 hb1 b5 hw3
    go_wp2_with fail
    rw [← HW3.out]
    refine (HT.out w3 _ HP5.out).mono ?_
    rintro e w4 hx
    have hx := HTU.out _ _ _ hx
    obtain ⟨hx, hb4⟩ := hx
    have K4 := Lib.hid (Below.thru K3.out K3.out.size hb4)
    have K4' := Lib.hid hb4
    clear hb4
    rcases hx with ⟨hv, rfl⟩ | ⟨hv, hw, rfl⟩ | ⟨hv, hw, v6, rfl, ho6⟩
    · have HVV := Lib.hid hv
      obtain ⟨w5, hw5⟩ : ∃ w5, w5 = w4.alloc (.cells (c6 ⟨#[]⟩ (.slice none 0 0) 0 0 0 0) 34) := ⟨_, rfl⟩
      have hb5 : Below w4.heap.size w4 w5 := by rw [hw5]; exact bl1 w4 _
      have K5 := Lib.hid (Below.thru K4.out K4.out.size hb5)
      have b6 : Blk w4.heap.size (c6 ⟨#[]⟩ (.slice none 0 0) 0 0 0 0) 34 w5 := by rw [hw5]; exact Blk.new _ _ _
      have B6 := Lib.hid b6
      have q5 := HBB.out _ (Below.thru K4'.out K4'.out.size hb5)
      have HW5 := Lib.hid hw5
      have s0 := q5.1.cell (i := 0) rfl
      have s1 := q5.1.cell (i := 1) rfl
      have s2 := q5.1.cell (i := 2) rfl
      have s3 := q5.1.cell (i := 3) rfl
      have s4 := q5.1.cell (i := 4) rfl
      have s5 := q5.1.cell (i := 5) rfl
      rw [hw5] at s0 s1 s2 s3 s4 s5
      clear hw5 q5 hb5 b6
      clear hv
      go_wp2_with fail
      rw [← HW5.out]
      refine (HV.out w5 K5.out (by omega)).mono ?_
      rintro e w6 ⟨⟨bv, rfl, hbv⟩, hb6⟩
      have HBV := Lib.hid hbv
      have K6 := Lib.hid (Below.thru K5.out K5.out.size hb6)
      have q6 := B6.out.below hb6
      have z0 := q6.cell (i := 0) rfl
      have z1 := q6.cell (i := 1) rfl
      have z2 := q6.cell (i := 2) rfl
      have z3 := q6.cell (i := 3) rfl
      have z4 := q6.cell (i := 4) rfl
      have z5 := q6.cell (i := 5) rfl
      clear hbv hb6 q6 s0 s1 s2 s3 s4 s5
      cases bv with
      | true => exact absurd (HBV.out.1 rfl) HVV.out
      | false =>
        go_wp2_with fail
        refine (none_any _).mono ?_
        rintro e w7 ⟨rfl, hb7⟩
        have K7 := Lib.hid (Below.thru K6.out K6.out.size hb7)
        clear hb7 z0 z1 z2 z3 z4 z5
        go_wp2_with fail
        refine (wakes_any _).mono ?_
        rintro e w8 ⟨rfl, hb8⟩
        have k8 := Below.thru K7.out K7.out.size hb8
        clear hb8
        go_wp2
        go_ret
        exact ⟨rfl, k8⟩
    · have HVV := Lib.hid hv
      have hcw : way < 0 ∨ (¬ way < 0 ∧ 7 < way) := by omega
      obtain ⟨w5, hw5⟩ : ∃ w5, w5 = w4.alloc (.cells (c6 ⟨#[]⟩ (.slice none 0 0) 0 0 0 0) 34) := ⟨_, rfl⟩
      have hb5 : Below w4.heap.size w4 w5 := by rw [hw5]; exact bl1 w4 _
      have K5 := Lib.hid (Below.thru K4.out K4.out.size hb5)
      have b6 : Blk w4.heap.size (c6 ⟨#[]⟩ (.slice none 0 0) 0 0 0 0) 34 w5 := by rw [hw5]; exact Blk.new _ _ _
      have B6 := Lib.hid b6
      have q5 := HBB.out _ (Below.thru K4'.out K4'.out.size hb5)
      have HW5 := Lib.hid hw5
      have s0 := q5.1.cell (i := 0) rfl
      have s1 := q5.1.cell (i := 1) rfl
      have s2 := q5.1.cell (i := 2) rfl
      have s3 := q5.1.cell (i := 3) rfl
      have s4 := q5.1.cell (i := 4) rfl
      have s5 := q5.1.cell (i := 5) rfl
      rw [hw5] at s0 s1 s2 s3 s4 s5
      clear hw5 q5 hb5 b6
      clear hv hw
      go_wp2_with fail
      rw [← HW5.out]
      refine (HV.out w5 K5.out (by omega)).mono ?_
      rintro e w6 ⟨⟨bv, rfl, hbv⟩, hb6⟩
      have HBV := Lib.hid hbv
      have K6 := Lib.hid (Below.thru K5.out K5.out.size hb6)
      have q6 := B6.out.below hb6
      have z0 := q6.cell (i := 0) rfl
      have z1 := q6.cell (i := 1) rfl
      have z2 := q6.cell (i := 2) rfl
      have z3 := q6.cell (i := 3) rfl
      have z4 := q6.cell (i := 4) rfl
      have z5 := q6.cell (i := 5) rfl
      clear hbv hb6 q6 s0 s1 s2 s3 s4 s5
      cases bv with
      | false => exact absurd (HBV.out.2 HVV.out) (by decide)
      | true =>
        rcases hcw with hcw | ⟨hcw, hcw2⟩
        · skip
          go_wp2_with fail
          refine (none_any _).mono ?_
          rintro e w7 ⟨rfl, hb7⟩
          have K7 := Lib.hid (Below.thru K6.out K6.out.size hb7)
          clear hb7 z0 z1 z2 z3 z4 z5
          go_wp2_with fail
          refine (wakes_any _).mono ?_
          rintro e w8 ⟨rfl, hb8⟩
          have k8 := Below.thru K7.out K7.out.size hb8
          clear hb8
          go_wp2
          go_ret
          exact ⟨rfl, k8⟩
        · skip
          go_wp2_with fail
          refine (none_any _).mono ?_
          rintro e w7 ⟨rfl, hb7⟩
          have K7 := Lib.hid (Below.thru K6.out K6.out.size hb7)
          clear hb7 z0 z1 z2 z3 z4 z5
          go_wp2_with fail
          refine (wakes_any _).mono ?_
          rintro e w8 ⟨rfl, hb8⟩
          have k8 := Below.thru K7.out K7.out.size hb8
          clear hb8
          go_wp2
          go_ret
          exact ⟨rfl, k8⟩
    · obtain ⟨k, rfl⟩ : ∃ k : Nat, way = (k : Int) := ⟨way.toNat, by omega⟩
      have hk : k < 8 := by omega
      have hk0 : ¬ ((k : Int) < 0) := by omega
      have hk7 : ¬ (7 < (k : Int)) := by omega
      have e0 : (k : Int).toNat = k := Int.toNat_natCast k
      rw [e0] at ho6 ⊢
      clear e0
      obtain ⟨a6, m6, c66, rfl⟩ := own_form ho6
      obtain ⟨h3, hbx, hgr⟩ := HVI.out hv
      obtain ⟨b, o, c', hpe, hrow⟩ := (HPT.out (by omega)).some (by have := HN.out; omega)
      simp only [Value.slice.injEq] at hpe
      obtain ⟨hp1, -, -⟩ := hpe
      subst hp1
      have HP6 : Hid (∀ W, Below w4.heap.size w4 W → Pts W (.slice a6 m6 c66) (stl (tls k l))) := fun W kk => Pts.own ho6 (by rw [stl_length, tls_length, ← HN.out]; omega) kk
      have HR31 : Hid (∀ W, Below w.heap.size w W → Calls Try.prog 31 #[.agg #[.string nm, .slice (some ⟨b, o, none⟩) n c, .int .i64 dp, .int .i64 dn, .int .i64 gx, .int .i64 gz], .int .i64 k] W fun e w' =>
          (∃ v, e = .returned (.agg (c6 nm v dp dn (wayf k (gx, gz)).1 (wayf k (gx, gz)).2)) ∧ OwnR w' W.heap.size v (stl (tls k l))) ∧ Below W.heap.size W w') := fun W kk => by
        have h := rturned_any k hk nm b o c l dp dn gx gz W (hrow.keep kk) (by rw [← HN.out]; omega) (by rw [← HN.out]; omega) hbx hgr
        rw [← HN.out] at h
        exact h
      have HSA : Hid (∀ W v7, Below w4.heap.size w4 W → OwnR W 0 v7 (stl (tls k l)) → Calls Try.prog 28 #[.agg (c6 nm (.slice a6 m6 c66) dp dn (wayf k (gx, gz)).1 (wayf k (gx, gz)).2), .agg (c6 nm v7 dp dn (wayf k (gx, gz)).1 (wayf k (gx, gz)).2)] W fun e w' => e = .returned (.bool true) ∧ Below W.heap.size W w') := fun W v7 kk h7 =>
        HSAM2.out k W _ _ (HP6.out W kk) (h7.pts (by rw [stl_length, tls_length, ← HN.out]; omega)) (by omega)
      have HSB : Hid (∀ W, Below w3.heap.size w3 W → Calls Try.prog 28 #[.agg (c6 nm (.slice a5 m5 c5) dp dn gx gz), .agg (c6 nm (.slice (some ⟨b, o, none⟩) n c) dp dn gx gz)] W fun e w' => e = .returned (.bool true) ∧ Below W.heap.size W w') := fun W kk =>
        HSAME.out W _ (Below.thru K3.out K3.out.size kk) (by omega) (HP5.out.keep kk)
      have HVV := Lib.hid hv
      clear h3 hbx hgr hrow ho6 hv hw
      generalize (wayf k (gx, gz)).1 = ga at *
      generalize (wayf k (gx, gz)).2 = gb at *
      obtain ⟨w5, hw5⟩ : ∃ w5, w5 = w4.alloc (.cells (c6 nm (.slice a6 m6 c66) dp dn ga gb) 34) := ⟨_, rfl⟩
      have hb5 : Below w4.heap.size w4 w5 := by rw [hw5]; exact bl1 w4 _
      have K5 := Lib.hid (Below.thru K4.out K4.out.size hb5)
      have K5' := Lib.hid (Below.thru K4'.out K4'.out.size hb5)
      have K45 := Lib.hid hb5
      have b6 : Blk w4.heap.size (c6 nm (.slice a6 m6 c66) dp dn ga gb) 34 w5 := by rw [hw5]; exact Blk.new _ _ _
      have B6 := Lib.hid b6
      have q5 := HBB.out _ (Below.thru K4'.out K4'.out.size hb5)
      have HW5 := Lib.hid hw5
      have s0 := q5.1.cell (i := 0) rfl
      have s1 := q5.1.cell (i := 1) rfl
      have s2 := q5.1.cell (i := 2) rfl
      have s3 := q5.1.cell (i := 3) rfl
      have s4 := q5.1.cell (i := 4) rfl
      have s5 := q5.1.cell (i := 5) rfl
      rw [hw5] at s0 s1 s2 s3 s4 s5
      clear hw5 q5 hb5 b6
      go_wp2_with fail
      rw [← HW5.out]
      refine (HV.out w5 K5.out (by omega)).mono ?_
      rintro e w6 ⟨⟨bv, rfl, hbv⟩, hb6⟩
      have HBV := Lib.hid hbv
      have K6 := Lib.hid (Below.thru K5.out K5.out.size hb6)
      have K6' := Lib.hid (Below.thru K5'.out K5'.out.size hb6)
      have K46 := Lib.hid (Below.thru K45.out K45.out.size hb6)
      have B6' := Lib.hid (B6.out.below hb6)
      clear hbv hb6 s0 s1 s2 s3 s4 s5
      cases bv with
      | false => exact absurd (HBV.out.2 HVV.out) (by decide)
      | true =>
        have HQ : Hid (∀ W, Below w6.heap.size w6 W → Cs w.heap.size nm (.slice (some ⟨b, o, none⟩) n c) dp dn gx gz W ∧ Cs w2.heap.size nm (.slice a5 m5 c5) dp dn gx gz W ∧ Cs w4.heap.size nm (.slice a6 m6 c66) dp dn ga gb W) := fun W kk => by
          have h := HBB.out W (Below.thru K6'.out K6'.out.size kk)
          have h2 := B6'.out.below kk
          exact ⟨⟨h.1.cell (i := 0) rfl, h.1.cell (i := 1) rfl, h.1.cell (i := 2) rfl, h.1.cell (i := 3) rfl, h.1.cell (i := 4) rfl, h.1.cell (i := 5) rfl⟩, ⟨h.2.cell (i := 0) rfl, h.2.cell (i := 1) rfl, h.2.cell (i := 2) rfl, h.2.cell (i := 3) rfl, h.2.cell (i := 4) rfl, h.2.cell (i := 5) rfl⟩, ⟨h2.cell (i := 0) rfl, h2.cell (i := 1) rfl, h2.cell (i := 2) rfl, h2.cell (i := 3) rfl, h2.cell (i := 4) rfl, h2.cell (i := 5) rfl⟩⟩
        have HR32 := Lib.hid (fun W (kk : Below w6.heap.size w6 W) => HR31.out W (Below.thru K6.out K6.out.size kk))
        have HSA2 := Lib.hid (fun W v7 (kk : Below w6.heap.size w6 W) (h7 : OwnR W 0 v7 (stl (tls k l))) => HSA.out W v7 (Below.thru K46.out K46.out.size kk) h7)
        have HSB2 := Lib.hid (fun W (kk : Below w6.heap.size w6 W) => HSB.out W (Below.thru K6'.out K6'.out.size kk))
        have HWA := Lib.hid (fun W => wakes_any W)
        have k0 : Below w6.heap.size w6 w6.drew := (Below.refl _ _).drew
        have q0 := HQ.out _ k0
        go_wp2_with fail
        go_region_held3 (fun w' => Cs w.heap.size nm (.slice (some ⟨b, o, none⟩) n c) dp dn gx gz w' ∧ Cs w2.heap.size nm (.slice a5 m5 c5) dp dn gx gz w' ∧ Cs w4.heap.size nm (.slice a6 m6 c66) dp dn ga gb w')
          (first | (with_reducible exact q4) | (with_reducible exact q3) | (with_reducible exact q2) | (with_reducible exact q1) | (with_reducible exact q0))
          (first
            | (go_at_call 31; (with_reducible refine (HR32.out w6.drew k0).mono ?_); rintro e w7 ⟨⟨v7, rfl, ho7⟩, hb7⟩
               have k1 := Below.thru k0 k0.size hb7; have q1 := HQ.out _ k1; obtain ⟨a7, m7, c7, rfl⟩ := own_form ho7; have HO7 := Lib.hid (OwnR.base (b2 := 0) ho7 (Nat.zero_le _)); clear ho7 hb7)
            | (go_at_call 28; (with_reducible refine (HSA2.out w7 _ k1 HO7.out).mono ?_); rintro e w8 ⟨rfl, hb8⟩
               have k2 := Below.thru k1 k1.size hb8; have q2 := HQ.out _ k2; clear hb8)
            | (go_at_call 28; (with_reducible refine (HSB2.out w8 k2).mono ?_); rintro e w9 ⟨rfl, hb9⟩
               have k3 := Below.thru k2 k2.size hb9; have q3 := HQ.out _ k3; clear hb9)
            | (go_at_call 14; (with_reducible refine (HWA.out w9).mono ?_); rintro e w10 ⟨rfl, hb10⟩
               have k4 := Below.thru k3 k3.size hb10; have q4 := HQ.out _ k4; have K10 := Lib.hid (Below.thru K6.out K6.out.size k4); clear hb10))
        all_goals
          go_wp2
          go_ret
          exact ⟨rfl, K10.out⟩
end Go.Proofs.Ytljmhejljpfaiaa
