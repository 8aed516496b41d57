import Derived.Test.YtljmhejljpfaiaaHe
namespace Go.Proofs.Ytljmhejljpfaiaa
set_option maxRecDepth 100000
open Go.RowKit Go.Shelf

/-! StoneChips -/
set_option maxHeartbeats 16000000 in
theorem chipsL_any (s : SV) (p : Option Addr) (c : Nat) (corner back on : Int) (w : World) (hn : s.nm.size ≤ maxLen) (hlm : s.l.length ≤ maxLen) (h : s.l.length ≤ 1000000 → Pts w (.slice p s.l.length c) s.l) : Calls Try.prog 9 #[stv s (.slice p s.l.length c), .int .i64 corner, .int .i64 back, .int .i64 on] w (PT w) := by
  have HS := Lib.hid (fun W (k : Below w.heap.size w W) (hm : s.l.length ≤ 1000000) => stonev_any s (.slice p s.l.length c) W ((h hm).keep k) hm)
  have HV := Lib.hid (fun W (k : Below w.heap.size w W) (hm : s.l.length ≤ 1000000) => validv_any s (.slice p s.l.length c) W hn ((h hm).keep k))
  have HCP := Lib.hid (fun W a m (hp : Pts W (.slice a s.l.length m) s.l) => chip_any s a m corner back on W hn hp)
  have HCR := Lib.hid (fun W (k : Below w.heap.size w W) (hm : s.l.length ≤ 1000000) x1 z1 x2 z2 na pa ma ca da ea ga ha nb pb mb cb db eb gb ib er => cutRight_any s p c x1 z1 x2 z2 na pa ma ca da ea ga ha nb pb mb cb db eb gb ib er W hn ((h hm).keep k))
  have HPT := Lib.hid h
  have hn1 := hn
  obtain ⟨nm, l, dp, dn, gx, gz⟩ := s
  have HSC : Hid (∀ W e W', PCh ⟨nm, l, dp, dn, gx, gz⟩ corner back on W e W' → ∃ na pa ma ca da ea ga ha nb pb mb cb db eb gb ib er, e = .returned (.tuple #[.agg (c6 na (.slice pa ma ca) da ea ga ha), .agg (c6 nb (.slice pb mb cb) db eb gb ib), .int .i64 er]) ∧ Below W.heap.size W W' ∧ Hid ((¬ Vld ⟨nm, l, dp, dn, gx, gz⟩ → er = 2) ∧ (Vld ⟨nm, l, dp, dn, gx, gz⟩ → ¬ ChOk l corner back on → er = 3) ∧
      ((¬ Vld ⟨nm, l, dp, dn, gx, gz⟩ ∨ ¬ ChOk l corner back on) → ((∀ W2, Calls Try.prog 30 #[.agg (c6 na (.slice pa ma ca) da ea ga ha)] W2 fun e w' => e = .returned (.bool true) ∧ Below W2.heap.size W2 w') ∧ (∀ W2, Calls Try.prog 30 #[.agg (c6 nb (.slice pb mb cb) db eb gb ib)] W2 fun e w' => e = .returned (.bool true) ∧ Below W2.heap.size W2 w'))) ∧
      (Vld ⟨nm, l, dp, dn, gx, gz⟩ → ChOk l corner back on → ∀ W2, Below w.heap.size w W2 → l.length ≤ 1000000 → Below W'.heap.size W' W2 → Calls Try.prog 36 #[.agg (c6 nm (.slice p l.length c) dp dn gx gz), .agg #[.int .i64 (stK l corner.toNat (pvx l corner.toNat) back).1, .int .i64 (stK l corner.toNat (pvx l corner.toNat) back).2], .agg #[.int .i64 (stK l corner.toNat (nx l.length corner.toNat) on).1, .int .i64 (stK l corner.toNat (nx l.length corner.toNat) on).2], .agg (c6 na (.slice pa ma ca) da ea ga ha), .agg (c6 nb (.slice pb mb cb) db eb gb ib), .int .i64 er] W2 fun e w' => e = .returned (.bool true) ∧ Below W2.heap.size W2 w'))) := by
    rintro W e W' ⟨hx, hk⟩
    rcases hx with ⟨hv, rfl⟩ | ⟨hv, hc, rfl⟩ | ⟨hv, hc, na, pa, ma, ca, da, ea, ga, ha, nb, pb, mb, cb, db, eb, gb, ib, er, rfl, hE, hA, hO⟩
    · exact ⟨_, _, _, _, _, _, _, _, _, _, _, _, _, _, _, _, 2, rfl, hk, ⟨fun _ => rfl, fun h => absurd h hv, fun _ => ⟨none_any, none_any⟩, fun h => absurd h hv⟩⟩
    · exact ⟨_, _, _, _, _, _, _, _, _, _, _, _, _, _, _, _, 3, rfl, hk, ⟨fun h => absurd hv h, fun _ _ => rfl, fun _ => ⟨none_any, none_any⟩, fun _ h => absurd h hc⟩⟩
    · refine ⟨na, pa, ma, ca, da, ea, ga, ha, nb, pb, mb, cb, db, eb, gb, ib, er, rfl, hk, ⟨fun h => absurd hv h, fun _ h => absurd hc h, fun h => h.elim (absurd hv) (absurd hc), fun _ _ W2 k hm k2 => HCR.out W2 k hm _ _ _ _ na pa ma ca da ea ga ha nb pb mb cb db eb gb ib er hE hA (fun h0 => ?_)⟩⟩
      have hl := splE_len (h0 ▸ hE)
      have hO := hO h0
      exact ⟨⟨hO.1.1, (hO.1.2.pts (by rw [stl_len9]; omega)).keep k2⟩, ⟨hO.2.1, (hO.2.2.pts (by rw [stl_len9]; omega)).keep k2⟩⟩
  have HVI : Hid (Vld ⟨nm, l, dp, dn, gx, gz⟩ → (3 ≤ l.length ∧ l.length ≤ 12) ∧ Bx l ∧ Tr l) := fun h => ⟨h.2.1.1, h.2.1.2.1, h.2.1.tr⟩
  have HSL : Hid (∀ (W : World) (base : Nat) (v : Value), Own W base v l → ∃ a m, v = .slice a l.length m) := fun W base v h => by
    rcases h.row with ⟨rfl, h0⟩ | ⟨g, c, h1, _⟩
    · exact ⟨none, 0, by rw [h0]; rfl⟩
    · exact ⟨_, _, h1⟩
  have HRS : Hid (∀ W, Below w.heap.size w W → Vld ⟨nm, l, dp, dn, gx, gz⟩ → l.length ≤ 1000000 → Calls Try.prog 43 #[.agg (c6 nm (.slice p l.length c) dp dn gx gz), .int .i64 corner, .int .i64 back, .int .i64 on] W (RSt l corner back on W)) := fun W k hv hm => by
    obtain ⟨h3, hbx, htr⟩ := HVI.out hv
    obtain ⟨b, o, c', hpe, hrow⟩ := ((HPT.out hm).keep k).some (by show 0 < l.length; omega)
    cases hpe
    exact rsteps_any nm b o c l dp dn gx gz corner back on W hrow h3.1 h3.2 hbx htr
  unfold maxLen at hn1 hlm
  unfold stv at *
  dsimp only at *
  have HP : Hid (∀ (W W' : World) (base : Nat) (v : Value), l.length ≤ 1000000 → Own W base v l → Below W.heap.size W W' → Pts W' v l) := fun W W' base v hb h k => (h.pts (by omega)).keep k
  have HRT : Hid (∀ W e W', RSt l corner back on W e W' → ((¬ ChOk l corner back on ∧ e = .returned (.tuple #[.agg #[.int .i64 0, .int .i64 0], .agg #[.int .i64 0, .int .i64 0], .bool false])) ∨
   (ChOk l corner back on ∧ e = .returned (.tuple #[.agg #[.int .i64 (stK l corner.toNat (pvx l corner.toNat) back).1, .int .i64 (stK l corner.toNat (pvx l corner.toNat) back).2], .agg #[.int .i64 (stK l corner.toNat (nx l.length corner.toNat) on).1, .int .i64 (stK l corner.toNat (nx l.length corner.toNat) on).2], .bool true]))) ∧ Below W.heap.size W W') := fun _ _ _ h => h
  clear h hn HCR HVI HPT
  generalize Vld ⟨nm, l, dp, dn, gx, gz⟩ = V at *
  generalize ChOk l corner back on = CO at *
  generalize (stK l corner.toNat (pvx l corner.toNat) back).1 = X1 at *
  generalize (stK l corner.toNat (pvx l corner.toNat) back).2 = Z1 at *
  generalize (stK l corner.toNat (nx l.length corner.toNat) on).1 = X2 at *
  generalize (stK l corner.toNat (nx l.length corner.toNat) on).2 = Z2 at *
  obtain ⟨n, hnn⟩ : ∃ n, n = l.length := ⟨_, rfl⟩
  rw [← hnn] at hlm HS HV HCP HSC HSL HRS HP ⊢
  clear hnn
  have k1 := bl1 w (.cells (c6 nm (.slice p n c) dp dn gx gz) 26)
  have b1 : Blk w.heap.size (c6 nm (.slice p n c) dp dn gx gz) 26 (w.alloc (.cells (c6 nm (.slice p n c) dp dn gx gz) 26)) := Blk.new w _ 26
  have HB1 : Hid (∀ W, Below (w.alloc (.cells (c6 nm (.slice p n c) dp dn gx gz) 26)).heap.size (w.alloc (.cells (c6 nm (.slice p n c) dp dn gx gz) 26)) W → Blk w.heap.size (c6 nm (.slice p n c) dp dn gx gz) 26 W ∧ Below w.heap.size w W) := fun W k => ⟨b1.below k, Below.thru k1 k1.size k⟩
  have K1 := Lib.hid k1
  clear b1 k1
  by_cases h20 : 20 < n
  · go_enter Try.func9, Try.ntmps9
    go_wp2_with fail
    refine (wakes_any _).mono ?_
    rintro e w2 ⟨rfl, hb2⟩
    have k2 := Below.thru K1.out K1.out.size hb2
    clear hb2
    go_wp2
    go_ret
    exact ⟨rfl, k2⟩
  · go_enter Try.func9, Try.ntmps9
    go_wp2_with fail
    refine (HS.out _ K1.out (by omega)).mono ?_
    rintro e w2 ⟨⟨v5, rfl, ho5⟩, hb2⟩
    have K2 := Lib.hid hb2
    obtain ⟨a5, c5, rfl⟩ := HSL.out _ _ _ ho5
    have HP5 := Lib.hid (HP.out _ _ _ _ (by omega) ho5 (Below.refl _ _))
    clear hb2 ho5
    go_wp2_with fail
    refine (HCP.out w2 _ _ HP5.out).mono ?_
    rintro e w4 hx
    obtain ⟨na, pa, ma, ca, da, ea, ga, ha, nb, pb, mb, cb, db, eb, gb, ib, er, rfl, hb4, HCR⟩ := HSC.out _ _ _ hx
    have K4 := Lib.hid (Below.thru K2.out K2.out.size hb4)
    clear hx hb4 HSC
    obtain ⟨w5, hw5⟩ : ∃ w5, w5 = (w4.alloc (.cells (c6 na (.slice pa ma ca) da ea ga ha) 34)).alloc (.cells (c6 nb (.slice pb mb cb) db eb gb ib) 34) := ⟨_, rfl⟩
    have hb5 : Below w4.heap.size w4 w5 := by rw [hw5]; exact bl2 w4 _ _
    have K5 := Lib.hid (Below.thru K4.out K4.out.size hb5)
    have b6 : Blk w4.heap.size (c6 na (.slice pa ma ca) da ea ga ha) 34 w5 := by rw [hw5]; exact (Blk.new _ _ _).alloc _
    have b7 : Blk (w4.heap.size + 1) (c6 nb (.slice pb mb cb) db eb gb ib) 34 w5 := by
      rw [hw5]
      have := Blk.new (w4.alloc (.cells (c6 na (.slice pa ma ca) da ea ga ha) 34)) (c6 nb (.slice pb mb cb) db eb gb ib) 34
      simp only [World.size_alloc] at this
      exact this
    have q5 := HB1.out _ K5.out
    have HBQ : Hid (∀ W, Below w5.heap.size w5 W → Blk w.heap.size (c6 nm (.slice p n c) dp dn gx gz) 26 W ∧ Blk w4.heap.size (c6 na (.slice pa ma ca) da ea ga ha) 34 W ∧ Blk (w4.heap.size + 1) (c6 nb (.slice pb mb cb) db eb gb ib) 34 W ∧ Below w.heap.size w W) := fun W k => ⟨q5.1.below k, b6.below k, b7.below k, Below.thru q5.2 q5.2.size k⟩
    have H45 : Hid (∀ W, Below w5.heap.size w5 W → Below w4.heap.size w4 W) := fun W k => Below.thru hb5 hb5.size k
    have HW5 := Lib.hid hw5
    have KW5 := Lib.hid q5.2
    have s0 := q5.1.cell (i := 0) rfl; have s1 := q5.1.cell (i := 1) rfl; have s2 := q5.1.cell (i := 2) rfl; have s3 := q5.1.cell (i := 3) rfl; have s4 := q5.1.cell (i := 4) rfl; have s5 := q5.1.cell (i := 5) rfl
    rw [hw5] at s0 s1 s2 s3 s4 s5
    clear hw5 q5 hb5 b6 b7
    go_wp2_with fail
    rw [← HW5.out]
    clear s0 s1 s2 s3 s4 s5
    refine (HV.out w5 KW5.out (by omega)).mono ?_
    rintro e w6 ⟨⟨bv, rfl, hbv⟩, hb6⟩
    have K6 := Lib.hid hb6
    have HBV := Lib.hid hbv
    clear hb6 hbv
    cases bv with
    | false =>
      have hv : ¬ V := fun h => by cases HBV.out.2 h
      have HEE := HCR.out.1 hv
      have HNN := HCR.out.2.2.1 (.inl hv)
      clear hv HCR
      obtain rfl : er = 2 := HEE
      have HNA2 := Lib.hid HNN.1
      have HNB2 := Lib.hid HNN.2
      clear HNN
      have q2 := HBQ.out _ K6.out
      have zc0 := q2.2.1.cell (i := 0) rfl; have zc1 := q2.2.1.cell (i := 1) rfl; have zc2 := q2.2.1.cell (i := 2) rfl; have zc3 := q2.2.1.cell (i := 3) rfl; have zc4 := q2.2.1.cell (i := 4) rfl; have zc5 := q2.2.1.cell (i := 5) rfl
      clear q2
      go_wp2_with fail
      refine (HNA2.out _).mono ?_
      rintro e wa ⟨rfl, hba⟩
      have KA := Lib.hid (Below.thru K6.out K6.out.size hba)
      have qa := HBQ.out _ KA.out
      have yc0 := qa.2.2.1.cell (i := 0) rfl; have yc1 := qa.2.2.1.cell (i := 1) rfl; have yc2 := qa.2.2.1.cell (i := 2) rfl; have yc3 := qa.2.2.1.cell (i := 3) rfl; have yc4 := qa.2.2.1.cell (i := 4) rfl; have yc5 := qa.2.2.1.cell (i := 5) rfl
      clear hba qa zc0 zc1 zc2 zc3 zc4 zc5
      go_wp2_with fail
      refine (HNB2.out _).mono ?_
      rintro e wb ⟨rfl, hbb⟩
      have KB := Lib.hid (Below.thru KA.out KA.out.size hbb)
      clear hbb yc0 yc1 yc2 yc3 yc4 yc5
      go_wp2_with fail
      refine (wakes_any _).mono ?_
      rintro e wd ⟨rfl, hbd⟩
      have k8 := (HBQ.out _ (Below.thru KB.out KB.out.size hbd)).2.2.2
      clear hbd
      go_wp2
      go_ret
      exact ⟨rfl, k8⟩
    | true =>
      have HV1 : Hid V := HBV.out.1 rfl
      have q6 := HBQ.out _ K6.out
      have hbw6 := q6.2.2.2
      have s0 := q6.1.cell (i := 0) rfl; have s1 := q6.1.cell (i := 1) rfl; have s2 := q6.1.cell (i := 2) rfl; have s3 := q6.1.cell (i := 3) rfl; have s4 := q6.1.cell (i := 4) rfl; have s5 := q6.1.cell (i := 5) rfl
      clear q6
      go_wp2_with fail
      refine (HRS.out w6 hbw6 HV1.out (by omega)).mono ?_
      rintro e w7 hx
      obtain ⟨hx, hb7⟩ := HRT.out _ _ _ hx
      have K7 := Lib.hid (Below.thru K6.out K6.out.size hb7)
      clear hb7 hbw6 s0 s1 s2 s3 s4 s5
      rcases hx with ⟨hc, rfl⟩ | ⟨hc, rfl⟩
      · have HEE := HCR.out.2.1 HV1.out hc
        have HNN := HCR.out.2.2.1 (.inr hc)
        have HBZ : Hid (∀ W, Below ((w7.alloc (.cells #[.int .i64 0, .int .i64 0] 24)).alloc (.cells #[.int .i64 0, .int .i64 0] 24)).heap.size ((w7.alloc (.cells #[.int .i64 0, .int .i64 0] 24)).alloc (.cells #[.int .i64 0, .int .i64 0] 24)) W → Below w5.heap.size w5 W) := fun W k => Below.thru K7.out K7.out.size (Below.thru (bl2 w7 _ _) (bl2 w7 _ _).size k)
        have KX := Lib.hid (HBZ.out _ (Below.refl _ _))
        clear hc HCR
        obtain rfl : er = 3 := HEE
        have HNA2 := Lib.hid HNN.1
        have HNB2 := Lib.hid HNN.2
        clear HNN
        have q2 := HBQ.out _ KX.out
        have zc0 := q2.2.1.cell (i := 0) rfl; have zc1 := q2.2.1.cell (i := 1) rfl; have zc2 := q2.2.1.cell (i := 2) rfl; have zc3 := q2.2.1.cell (i := 3) rfl; have zc4 := q2.2.1.cell (i := 4) rfl; have zc5 := q2.2.1.cell (i := 5) rfl
        clear q2
        go_wp2_with fail
        refine (HNA2.out _).mono ?_
        rintro e wa ⟨rfl, hba⟩
        have KA := Lib.hid (Below.thru KX.out KX.out.size hba)
        have qa := HBQ.out _ KA.out
        have yc0 := qa.2.2.1.cell (i := 0) rfl; have yc1 := qa.2.2.1.cell (i := 1) rfl; have yc2 := qa.2.2.1.cell (i := 2) rfl; have yc3 := qa.2.2.1.cell (i := 3) rfl; have yc4 := qa.2.2.1.cell (i := 4) rfl; have yc5 := qa.2.2.1.cell (i := 5) rfl
        clear hba qa zc0 zc1 zc2 zc3 zc4 zc5
        go_wp2_with fail
        refine (HNB2.out _).mono ?_
        rintro e wb ⟨rfl, hbb⟩
        have KB := Lib.hid (Below.thru KA.out KA.out.size hbb)
        clear hbb yc0 yc1 yc2 yc3 yc4 yc5
        go_wp2_with fail
        refine (wakes_any _).mono ?_
        rintro e wd ⟨rfl, hbd⟩
        have k8 := (HBQ.out _ (Below.thru KB.out KB.out.size hbd)).2.2.2
        clear hbd
        go_wp2
        go_ret
        exact ⟨rfl, k8⟩
      · have HK36 := Lib.hid (HCR.out.2.2.2 HV1.out hc)
        clear hc HCR
        obtain ⟨w8, hw8⟩ : ∃ w8, w8 = (w7.alloc (.cells #[.int .i64 X1, .int .i64 Z1] 24)).alloc (.cells #[.int .i64 X2, .int .i64 Z2] 24) := ⟨_, rfl⟩
        have hb8 : Below w7.heap.size w7 w8 := by rw [hw8]; exact bl2 w7 _ _
        have K8 := Lib.hid (Below.thru K7.out K7.out.size hb8)
        have q8 := HBQ.out _ K8.out
        have H36 := Lib.hid (HK36.out w8 q8.2.2.2 (by omega) (H45.out _ K8.out))
        have HW8 := Lib.hid hw8
        have s0 := q8.1.cell (i := 0) rfl; have s1 := q8.1.cell (i := 1) rfl; have s2 := q8.1.cell (i := 2) rfl; have s3 := q8.1.cell (i := 3) rfl; have s4 := q8.1.cell (i := 4) rfl; have s5 := q8.1.cell (i := 5) rfl
        have zc0 := q8.2.1.cell (i := 0) rfl; have zc1 := q8.2.1.cell (i := 1) rfl; have zc2 := q8.2.1.cell (i := 2) rfl; have zc3 := q8.2.1.cell (i := 3) rfl; have zc4 := q8.2.1.cell (i := 4) rfl; have zc5 := q8.2.1.cell (i := 5) rfl
        have yc0 := q8.2.2.1.cell (i := 0) rfl; have yc1 := q8.2.2.1.cell (i := 1) rfl; have yc2 := q8.2.2.1.cell (i := 2) rfl; have yc3 := q8.2.2.1.cell (i := 3) rfl; have yc4 := q8.2.2.1.cell (i := 4) rfl; have yc5 := q8.2.2.1.cell (i := 5) rfl
        rw [hw8] at s0 s1 s2 s3 s4 s5 zc0 zc1 zc2 zc3 zc4 zc5 yc0 yc1 yc2 yc3 yc4 yc5
        clear hw8 q8 hb8
        go_wp2_with fail
        rw [← HW8.out]
        clear s0 s1 s2 s3 s4 s5 zc0 zc1 zc2 zc3 zc4 zc5 yc0 yc1 yc2 yc3 yc4 yc5
        refine H36.out.mono ?_
        rintro e w9 ⟨rfl, hb9⟩
        have K9 := Lib.hid (Below.thru K8.out K8.out.size hb9)
        clear hb9
        go_wp2_with fail
        refine (wakes_any _).mono ?_
        rintro e wd ⟨rfl, hbd⟩
        have k8 := (HBQ.out _ (Below.thru K9.out K9.out.size hbd)).2.2.2
        clear hbd
        go_wp2
        go_ret
        exact ⟨rfl, k8⟩
end Go.Proofs.Ytljmhejljpfaiaa
