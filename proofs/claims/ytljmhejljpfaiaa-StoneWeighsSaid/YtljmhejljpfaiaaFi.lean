import Derived.Test.YtljmhejljpfaiaaFh
import Derived.Test.YtljmhejljpfaiaaCe
namespace Go.Proofs.Ytljmhejljpfaiaa
set_option maxRecDepth 100000
open Go.RowKit Go.Shelf

/-! StoneWeighs -/
/-- what the five functions answer -/
def RW (s : SV) (a1 a2 a3 a4 a5 a6 a7 a8 a9 er : Int) : Prop :=
  (Vld s ∧ er = 0 ∧ a1 = tw s.l ∧ a2 = tw s.l * s.dp * s.dn ∧ a3 = mx3 s.l ∧ a4 = mz3 s.l ∧ a5 = 3 * tw s.l ∧ a6 = hx s.l ∧ a7 = hz s.l ∧ a8 = bdl s.l ∧ a9 = bdr s.l) ∨
  (¬ Vld s ∧ er = 2 ∧ a1 = 0 ∧ a2 = 0 ∧ a3 = 0 ∧ a4 = 0 ∧ a5 = 0 ∧ a6 = 0 ∧ a7 = 0 ∧ a8 = 0 ∧ a9 = 0)
theorem RW.ex (s : SV) : ∃ a1 a2 a3 a4 a5 a6 a7 a8 a9 er, RW s a1 a2 a3 a4 a5 a6 a7 a8 a9 er := by
  by_cases h : Vld s
  · exact ⟨_, _, _, _, _, _, _, _, _, _, .inl ⟨h, rfl, rfl, rfl, rfl, rfl, rfl, rfl, rfl, rfl, rfl⟩⟩
  · exact ⟨_, _, _, _, _, _, _, _, _, _, .inr ⟨h, rfl, rfl, rfl, rfl, rfl, rfl, rfl, rfl, rfl, rfl⟩⟩
theorem twiceG {s : SV} {a1 a2 a3 a4 a5 a6 a7 a8 a9 er : Int} (g : RW s a1 a2 a3 a4 a5 a6 a7 a8 a9 er) (v : Value) (w : World) (hn : s.nm.size ≤ maxLen) (h : Pts w v s.l) : Calls Try.prog 18 #[stv s v] w fun e w' => e = .returned (.tuple #[.int .i64 a1, .int .i64 er]) ∧ Below w.heap.size w w' := by
  refine (twiceF_any s v w hn h).mono ?_
  rintro e w' ⟨⟨r, x, rfl, h⟩, k⟩
  refine ⟨?_, k⟩
  rcases g with ⟨gv, g0, g1, g2, g3, g4, g5, g6, g7, g8, g9⟩ | ⟨gv, g0, g1, g2, g3, g4, g5, g6, g7, g8, g9⟩
  · rcases h with h | h
    · obtain ⟨hv, h⟩ := h
      simp [h, g0, g1]
    · exact absurd gv h.1
  · rcases h with h | h
    · exact absurd h.1 gv
    · obtain ⟨hv, h⟩ := h
      simp [h, g0, g1]
theorem weightG {s : SV} {a1 a2 a3 a4 a5 a6 a7 a8 a9 er : Int} (g : RW s a1 a2 a3 a4 a5 a6 a7 a8 a9 er) (v : Value) (w : World) (hn : s.nm.size ≤ maxLen) (h : Pts w v s.l) : Calls Try.prog 19 #[stv s v] w fun e w' => e = .returned (.tuple #[.int .i64 a2, .int .i64 er]) ∧ Below w.heap.size w w' := by
  refine (weightF_any s v w hn h).mono ?_
  rintro e w' ⟨⟨r, x, rfl, h⟩, k⟩
  refine ⟨?_, k⟩
  rcases g with ⟨gv, g0, g1, g2, g3, g4, g5, g6, g7, g8, g9⟩ | ⟨gv, g0, g1, g2, g3, g4, g5, g6, g7, g8, g9⟩
  · rcases h with h | h
    · obtain ⟨hv, h⟩ := h
      simp [h, g0, g2]
    · exact absurd gv h.1
  · rcases h with h | h
    · exact absurd h.1 gv
    · obtain ⟨hv, h⟩ := h
      simp [h, g0, g2]
theorem centreG {s : SV} {a1 a2 a3 a4 a5 a6 a7 a8 a9 er : Int} (g : RW s a1 a2 a3 a4 a5 a6 a7 a8 a9 er) (v : Value) (w : World) (hn : s.nm.size ≤ maxLen) (h : Pts w v s.l) : Calls Try.prog 20 #[stv s v] w fun e w' => e = .returned (.tuple #[.int .i64 a3, .int .i64 a4, .int .i64 a5, .int .i64 er]) ∧ Below w.heap.size w w' := by
  refine (centreF_any s v w hn h).mono ?_
  rintro e w' ⟨⟨x, y, z, f, rfl, h⟩, k⟩
  refine ⟨?_, k⟩
  rcases g with ⟨gv, g0, g1, g2, g3, g4, g5, g6, g7, g8, g9⟩ | ⟨gv, g0, g1, g2, g3, g4, g5, g6, g7, g8, g9⟩
  · rcases h with h | h
    · obtain ⟨hv, h⟩ := h
      simp [h, g0, g3, g4, g5]
    · exact absurd gv h.1
  · rcases h with h | h
    · exact absurd h.1 gv
    · obtain ⟨hv, h⟩ := h
      simp [h, g0, g3, g4, g5]
theorem extentG {s : SV} {a1 a2 a3 a4 a5 a6 a7 a8 a9 er : Int} (g : RW s a1 a2 a3 a4 a5 a6 a7 a8 a9 er) (v : Value) (w : World) (hn : s.nm.size ≤ maxLen) (h : Pts w v s.l) : Calls Try.prog 21 #[stv s v] w fun e w' => e = .returned (.tuple #[.int .i64 a6, .int .i64 a7, .int .i64 er]) ∧ Below w.heap.size w w' := by
  refine (extentF_any s v w hn h).mono ?_
  rintro e w' ⟨⟨x, y, f, rfl, h⟩, k⟩
  refine ⟨?_, k⟩
  rcases g with ⟨gv, g0, g1, g2, g3, g4, g5, g6, g7, g8, g9⟩ | ⟨gv, g0, g1, g2, g3, g4, g5, g6, g7, g8, g9⟩
  · rcases h with h | h
    · obtain ⟨hv, h⟩ := h
      simp [h, g0, g6, g7]
    · exact absurd gv h.1
  · rcases h with h | h
    · exact absurd h.1 gv
    · obtain ⟨hv, h⟩ := h
      simp [h, g0, g6, g7]
theorem bedG {s : SV} {a1 a2 a3 a4 a5 a6 a7 a8 a9 er : Int} (g : RW s a1 a2 a3 a4 a5 a6 a7 a8 a9 er) (v : Value) (w : World) (hn : s.nm.size ≤ maxLen) (h : Pts w v s.l) : Calls Try.prog 22 #[stv s v] w fun e w' => e = .returned (.tuple #[.int .i64 a8, .int .i64 a9, .int .i64 er]) ∧ Below w.heap.size w w' := by
  refine (bedF_any s v w hn h).mono ?_
  rintro e w' ⟨⟨x, y, f, rfl, h⟩, k⟩
  refine ⟨?_, k⟩
  rcases g with ⟨gv, g0, g1, g2, g3, g4, g5, g6, g7, g8, g9⟩ | ⟨gv, g0, g1, g2, g3, g4, g5, g6, g7, g8, g9⟩
  · rcases h with h | h
    · obtain ⟨hv, h⟩ := h
      simp [h, g0, g8, g9]
    · exact absurd gv h.1
  · rcases h with h | h
    · exact absurd h.1 gv
    · obtain ⟨hv, h⟩ := h
      simp [h, g0, g8, g9]
set_option maxHeartbeats 16000000 in
theorem weighsL_any (s : SV) (p : Option Addr) (c : Nat) (w : World) (hn : s.nm.size ≤ maxLen) (hlm : s.l.length ≤ maxLen) (h : s.l.length ≤ 1000000 → Pts w (.slice p s.l.length c) s.l) : Calls Try.prog 4 #[stv s (.slice p s.l.length c)] w (PT w) := by
  have HV := Lib.hid (fun W (k : Below w.heap.size w W) (hm : s.l.length ≤ 1000000) => validv_any s (.slice p s.l.length c) W hn ((h hm).keep k))
  have HS := Lib.hid (fun W (k : Below w.heap.size w W) (hm : s.l.length ≤ 1000000) => stonev_any s (.slice p s.l.length c) W ((h hm).keep k) hm)
  have HSAME := Lib.hid (fun W v5 (k : Below w.heap.size w W) (hm : s.l.length ≤ 1000000) (h5 : Pts W v5 s.l) => same_any s v5 (.slice p s.l.length c) W h5 ((h hm).keep k) hm)
  obtain ⟨a1, a2, a3, a4, a5, a6, a7, a8, a9, er, HG⟩ := RW.ex s
  have H18 := Lib.hid (fun v W (hp : Pts W v s.l) => twiceG HG v W hn hp)
  have H19 := Lib.hid (fun v W (hp : Pts W v s.l) => weightG HG v W hn hp)
  have H20 := Lib.hid (fun v W (hp : Pts W v s.l) => centreG HG v W hn hp)
  have H21 := Lib.hid (fun v W (hp : Pts W v s.l) => extentG HG v W hn hp)
  have H22 := Lib.hid (fun v W (hp : Pts W v s.l) => bedG HG v W hn hp)
  have HGG := Lib.hid HG
  have HPT := Lib.hid h
  have hn1 := hn
  obtain ⟨nm, l, dp, dn, gx, gz⟩ := s
  have HVI : Hid (Vld ⟨nm, l, dp, dn, gx, gz⟩ → Pl l ∧ Bd dp dn gx gz) := fun h => ⟨h.2.1, h.2.2⟩
  have HGE : Hid ((Vld ⟨nm, l, dp, dn, gx, gz⟩ ∧ er = 0 ∧ a1 = tw l ∧ a2 = tw l * dp * dn ∧ a3 = mx3 l ∧ a4 = mz3 l ∧ a5 = 3 * tw l ∧ a6 = hx l ∧ a7 = hz l ∧ a8 = bdl l ∧ a9 = bdr l) ∨
  (¬ Vld ⟨nm, l, dp, dn, gx, gz⟩ ∧ er = 2 ∧ a1 = 0 ∧ a2 = 0 ∧ a3 = 0 ∧ a4 = 0 ∧ a5 = 0 ∧ a6 = 0 ∧ a7 = 0 ∧ a8 = 0 ∧ a9 = 0)) := HG
  clear HG HGG
  unfold maxLen at hn1 hlm
  unfold stv at *
  dsimp only at *
  have HO : Hid (∀ (W : World) (base : Nat) (v : Value), Own W base v l → ∃ a m c, v = .slice a m c) := fun W base v h => h.form
  have HP : Hid (∀ (W W' : World) (base : Nat) (v : Value), l.length ≤ 1000000 → Own W base v l → Below W.heap.size W W' → Pts W' v l) := fun W W' base v hb h k => (h.pts (by omega)).keep k
  clear h hn
  obtain ⟨n, hnn⟩ : ∃ n, n = l.length := ⟨_, rfl⟩
  have HN := Lib.hid hnn
  rw [← hnn] at hlm HV HS HSAME HPT HP ⊢
  clear hnn
  generalize Vld ⟨nm, l, dp, dn, gx, gz⟩ = V at *
  have b1 : Blk w.heap.size (c6 nm (.slice p n c) dp dn gx gz) 26 (w.alloc (.cells (c6 nm (.slice p n c) dp dn gx gz) 26)) := Blk.new w _ _
  have k1 := bl1 w (.cells (c6 nm (.slice p n c) dp dn gx gz) 26)
  have HB1 : Hid (∀ W, Below (w.alloc (.cells (c6 nm (.slice p n c) dp dn gx gz) 26)).heap.size (w.alloc (.cells (c6 nm (.slice p n c) dp dn gx gz) 26)) W → Blk w.heap.size (c6 nm (.slice p n c) dp dn gx gz) 26 W) := fun W k => b1.below k
  have K1 := Lib.hid k1
  clear b1 k1
  by_cases h20 : 20 < n
  · go_enter Try.func4, Try.ntmps4
    go_wp2_with fail
    refine (wakes_any _).mono ?_
    rintro e w2 ⟨rfl, hb2⟩
    have k2 := Below.thru K1.out K1.out.size hb2
    clear hb2
    go_wp2
    go_ret
    exact ⟨rfl, k2⟩
  · go_enter Try.func4, Try.ntmps4
    go_wp2_with fail
    refine (HS.out _ K1.out (by omega)).mono ?_
    rintro e w2 ⟨⟨v5, rfl, ho5⟩, hb2⟩
    have K2 := Lib.hid (Below.thru K1.out K1.out.size hb2)
    have hB2 := HB1.out _ hb2
    obtain ⟨a5', m5, c5, rfl⟩ := HO.out _ _ _ ho5
    have HO5 := Lib.hid ho5
    clear hb2 ho5
    obtain ⟨w3, hw3⟩ : ∃ w3, w3 = w2.alloc (.cells (c6 nm (.slice a5' m5 c5) dp dn gx gz) 34) := ⟨_, rfl⟩
    have hb3 : Below w2.heap.size w2 w3 := by rw [hw3]; exact bl1 w2 _
    have K3 := Lib.hid (Below.thru K2.out K2.out.size hb3)
    have b5 : Blk w2.heap.size (c6 nm (.slice a5' m5 c5) dp dn gx gz) 34 w3 := by rw [hw3]; exact Blk.new _ _ _
    have HP5 := Lib.hid (HP.out _ _ _ _ (by omega) HO5.out hb3)
    have hb1 := hB2.below hb3
    have HW3 := Lib.hid hw3
    have HBB : Hid (∀ W, Below w3.heap.size w3 W → Blk w.heap.size (c6 nm (.slice p n c) dp dn gx gz) 26 W ∧ Blk w2.heap.size (c6 nm (.slice a5' m5 c5) dp dn gx gz) 34 W) := fun W k => ⟨hb1.below k, b5.below k⟩
    have HQ3 : Hid (Below w3.heap.size w3 w3) := Below.refl _ _
    clear hB2 hb3 hb1 b5 hw3
    go_wp2_with fail
    rw [← HW3.out]
    refine (H18.out _ w3 HP5.out).mono ?_
    rintro e w4 ⟨rfl, hb⟩
    have HQ4 := Lib.hid (Below.thru HQ3.out HQ3.out.size hb)
    clear hb
    have q4 := (HBB.out w4 HQ4.out).2
    have r0 := q4.cell (i := 0) rfl
    have r1 := q4.cell (i := 1) rfl
    have r2 := q4.cell (i := 2) rfl
    have r3 := q4.cell (i := 3) rfl
    have r4 := q4.cell (i := 4) rfl
    have r5 := q4.cell (i := 5) rfl
    clear q4
    go_wp2_with fail
    refine (H19.out _ w4 (HP5.out.keep HQ4.out)).mono ?_
    rintro e w5 ⟨rfl, hb⟩
    have HQ5 := Lib.hid (Below.thru HQ4.out HQ4.out.size hb)
    clear hb r0 r1 r2 r3 r4 r5
    have q5 := (HBB.out w5 HQ5.out).2
    have r0 := q5.cell (i := 0) rfl
    have r1 := q5.cell (i := 1) rfl
    have r2 := q5.cell (i := 2) rfl
    have r3 := q5.cell (i := 3) rfl
    have r4 := q5.cell (i := 4) rfl
    have r5 := q5.cell (i := 5) rfl
    clear q5
    go_wp2_with fail
    refine (H20.out _ w5 (HP5.out.keep HQ5.out)).mono ?_
    rintro e w6 ⟨rfl, hb⟩
    have HQ6 := Lib.hid (Below.thru HQ5.out HQ5.out.size hb)
    clear hb r0 r1 r2 r3 r4 r5
    have q6 := (HBB.out w6 HQ6.out).2
    have r0 := q6.cell (i := 0) rfl
    have r1 := q6.cell (i := 1) rfl
    have r2 := q6.cell (i := 2) rfl
    have r3 := q6.cell (i := 3) rfl
    have r4 := q6.cell (i := 4) rfl
    have r5 := q6.cell (i := 5) rfl
    clear q6
    go_wp2_with fail
    refine (H21.out _ w6 (HP5.out.keep HQ6.out)).mono ?_
    rintro e w7 ⟨rfl, hb⟩
    have HQ7 := Lib.hid (Below.thru HQ6.out HQ6.out.size hb)
    clear hb r0 r1 r2 r3 r4 r5
    have q7 := (HBB.out w7 HQ7.out).2
    have r0 := q7.cell (i := 0) rfl
    have r1 := q7.cell (i := 1) rfl
    have r2 := q7.cell (i := 2) rfl
    have r3 := q7.cell (i := 3) rfl
    have r4 := q7.cell (i := 4) rfl
    have r5 := q7.cell (i := 5) rfl
    clear q7
    go_wp2_with fail
    refine (H22.out _ w7 (HP5.out.keep HQ7.out)).mono ?_
    rintro e w8 ⟨rfl, hb⟩
    have HQ8 := Lib.hid (Below.thru HQ7.out HQ7.out.size hb)
    clear hb r0 r1 r2 r3 r4 r5
    have q8 := (HBB.out w8 HQ8.out).1
    have s0 := q8.cell (i := 0) rfl
    have s1 := q8.cell (i := 1) rfl
    have s2 := q8.cell (i := 2) rfl
    have s3 := q8.cell (i := 3) rfl
    have s4 := q8.cell (i := 4) rfl
    have s5 := q8.cell (i := 5) rfl
    clear q8
    go_wp2_with fail
    refine (HV.out w8 (Below.thru K3.out K3.out.size HQ8.out) (by omega)).mono ?_
    rintro e w9 ⟨⟨bv, rfl, hbv⟩, hb⟩
    have HBV := Lib.hid hbv
    have HQ9 := Lib.hid (Below.thru HQ8.out HQ8.out.size hb)
    have K9 := Lib.hid (Below.thru K3.out K3.out.size HQ9.out)
    clear hbv hb s0 s1 s2 s3 s4 s5
    cases bv with
    | false =>
      have hv : ¬ V := fun h => absurd (HBV.out.2 h) (by decide)
      rcases HGE.out with ⟨g, _⟩ | ⟨_, rfl, rfl, rfl, rfl, rfl, rfl, rfl, rfl, rfl, rfl⟩
      · exact absurd g hv
      clear hv
      go_wp2_with fail
      refine (wakes_any _).mono ?_
      rintro e w10 ⟨rfl, hb⟩
      have k10 := Below.thru K9.out K9.out.size hb
      clear hb
      go_wp2
      go_ret
      exact ⟨rfl, k10⟩
    | true =>
      have hv : V := by first | exact HBV.out.1 rfl | exact HBV.out.1 trivial
      rcases HGE.out with ⟨_, rfl, rfl, rfl, rfl, rfl, rfl, rfl, rfl, rfl, rfl⟩ | ⟨g, _⟩
      rotate_left
      · exact absurd hv g
      obtain ⟨hpl, hbd⟩ := HVI.out hv
      obtain ⟨b, o, c', hpe, hrow⟩ := (HPT.out (by omega)).some (by have := HN.out; have := hpl.1.1; omega)
      simp only [Value.slice.injEq] at hpe
      obtain ⟨hp1, -, -⟩ := hpe
      subst hp1
      have hl3 := hpl.1
      have R23 := Lib.hid (fun W (k : Below w.heap.size w W) => rcentre_any b o c l W (hrow.keep k) (by omega) (by omega) hpl.2.1)
      have R24 := Lib.hid (fun W (k : Below w.heap.size w W) => rbed_any b o c l W (hrow.keep k) (by omega) (by omega))
      have R25 : Hid (∀ W (k : Below w.heap.size w W), Calls Try.prog 25 #[.slice (some ⟨b, o, none⟩) l.length c] W fun e w' => e = .returned (.agg #[.int .i64 (hx l), .int .i64 (hz l)]) ∧ Below W.heap.size W w') := fun W k => high_any b o c l W (hrow.keep k) (by omega) (by omega)
      have R26 := Lib.hid (fun W (k : Below w.heap.size w W) => rtwice_any b o c l W (hrow.keep k) (by omega) (by omega) hpl.2.1)
      have R27 := Lib.hid (fun W (k : Below w.heap.size w W) => rweight_any nm b o c l dp dn gx gz W (hrow.keep k) (by omega) (by omega) hpl.2.1 hbd)
      rw [hpl.bed.1, hpl.bed.2] at R24
      rw [← HN.out] at R23 R24 R25 R26 R27
      clear hpl hbd hrow hl3 hv
      have q9 := (HBB.out w9 HQ9.out).1
      have s1 := q9.cell (i := 1) rfl
      clear q9
      generalize tw l = t at *
      generalize mx3 l = m1 at *
      generalize mz3 l = m2 at *
      generalize hx l = x1 at *
      generalize hz l = x2 at *
      generalize bdl l = y1 at *
      generalize bdr l = y2 at *
      go_wp2_with fail
      refine (R23.out w9 K9.out).mono ?_
      rintro e w10 ⟨rfl, hb⟩
      have HQ10 := Lib.hid (Below.thru HQ9.out HQ9.out.size hb)
      have K10 := Lib.hid (Below.thru K3.out K3.out.size HQ10.out)
      clear hb s1
      have q10 := (HBB.out w10 HQ10.out).1
      have s1 := q10.cell (i := 1) rfl
      clear q10
      go_wp2_with fail
      refine (R24.out w10 K10.out).mono ?_
      rintro e w11 ⟨rfl, hb⟩
      have HQ11 := Lib.hid (Below.thru HQ10.out HQ10.out.size hb)
      have K11 := Lib.hid (Below.thru K3.out K3.out.size HQ11.out)
      clear hb s1
      have q11 := (HBB.out w11 HQ11.out).1
      have s1 := q11.cell (i := 1) rfl
      clear q11
      go_wp2_with fail
      refine (R25.out w11 K11.out).mono ?_
      rintro e w12 ⟨rfl, hb⟩
      have HQ12 := Lib.hid (Below.thru HQ11.out HQ11.out.size hb)
      clear hb s1
      have HQ13 := Lib.hid (Below.thru HQ12.out HQ12.out.size (bl1 w12 (.cells #[.int .i64 x1, .int .i64 x2] 24)))
      have D13 := Lib.hid (B2.new w12 x1 x2 24)
      have K13 := Lib.hid (Below.thru K3.out K3.out.size HQ13.out)
      have q13 := (HBB.out _ HQ13.out).1
      have s1 := q13.cell (i := 1) rfl
      clear q13
      go_wp2_with fail
      refine (R26.out _ K13.out).mono ?_
      rintro e w14 ⟨rfl, hb⟩
      have HQ14 := Lib.hid (Below.thru HQ13.out HQ13.out.size hb)
      have K14 := Lib.hid (Below.thru K3.out K3.out.size HQ14.out)
      have D14 := Lib.hid (D13.out.keep hb)
      clear hb s1
      have q14 := (HBB.out _ HQ14.out).1
      have s0 := q14.cell (i := 0) rfl
      have s1 := q14.cell (i := 1) rfl
      have s2 := q14.cell (i := 2) rfl
      have s3 := q14.cell (i := 3) rfl
      have s4 := q14.cell (i := 4) rfl
      have s5 := q14.cell (i := 5) rfl
      clear q14
      go_wp2_with fail
      refine (R27.out _ K14.out).mono ?_
      rintro e w15 ⟨rfl, hb⟩
      have HQ15 := Lib.hid (Below.thru HQ14.out HQ14.out.size hb)
      have K15 := Lib.hid (Below.thru K3.out K3.out.size HQ15.out)
      obtain ⟨⟨d0, d1⟩, -⟩ := (D14.out.keep hb).cells
      clear hb s0 s1 s2 s3 s4 s5
      have q15 := (HBB.out _ HQ15.out).1
      have s0 := q15.cell (i := 0) rfl
      have s1 := q15.cell (i := 1) rfl
      have s2 := q15.cell (i := 2) rfl
      have s3 := q15.cell (i := 3) rfl
      have s4 := q15.cell (i := 4) rfl
      have s5 := q15.cell (i := 5) rfl
      have r15 := (HBB.out _ HQ15.out).2
      have r0 := r15.cell (i := 0) rfl
      have r1 := r15.cell (i := 1) rfl
      have r2 := r15.cell (i := 2) rfl
      have r3 := r15.cell (i := 3) rfl
      have r4 := r15.cell (i := 4) rfl
      have r5 := r15.cell (i := 5) rfl
      clear q15 r15
      go_wp2_with fail
      refine (HSAME.out w15 _ K15.out (by omega) (HP5.out.keep HQ15.out)).mono ?_
      rintro e w16 ⟨rfl, hb⟩
      have K16 := Lib.hid (Below.thru K15.out K15.out.size hb)
      clear hb s0 s1 s2 s3 s4 s5 r0 r1 r2 r3 r4 r5 d0 d1
      go_wp2_with fail
      refine (wakes_any _).mono ?_
      rintro e w17 ⟨rfl, hb⟩
      have k17 := Below.thru K16.out K16.out.size hb
      clear hb
      go_wp2
      go_ret
      exact ⟨rfl, k17⟩
end Go.Proofs.Ytljmhejljpfaiaa
