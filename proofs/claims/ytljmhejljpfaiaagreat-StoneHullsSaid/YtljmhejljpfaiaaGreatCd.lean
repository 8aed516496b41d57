import Derived.Test.YtljmhejljpfaiaaGreatCb
namespace Go.Proofs.YtljmhejljpfaiaaGreat
set_option maxRecDepth 100000
set_option maxRecDepth 100000
open Go.RowKit Go.Shelf

/-! the brick -/
theorem four {i : Nat} (h : i < 4) : i = 0 ∨ i = 1 ∨ i = 2 ∨ i = 3 := by omega
theorem brick_bx : Bx brickL := fun i hi => by
  rcases four hi with rfl | rfl | rfl | rfl <;> decide
theorem brick_cv : Cv brickL := fun i hi => by
  rcases four hi with rfl | rfl | rfl | rfl <;> decide
theorem brick_pl : Pl brickL := ⟨by decide, brick_bx, by decide, by decide, by decide, brick_cv⟩
theorem brick_tw : tw brickL = 32000 := by kernel_rfl
theorem brick_isp1 : IsP brickL 50 0 := ⟨0, by decide, by kernel_rfl⟩
theorem brick_isp2 : IsP brickL 50 80 := ⟨2, by decide, by kernel_rfl⟩
theorem brick_isp3 : IsP brickL 0 40 := ⟨3, by decide, by kernel_rfl⟩
theorem brick_can : CanC brickL 50 0 50 80 := (canB_iff brickL (50, 0) (50, 80)).1 (by kernel_rfl)
theorem brick_left : stl (partL brickL (50, 80) (50, 0)) = [(0, 0), (50, 0), (50, 80), (0, 80)] := by kernel_rfl
theorem brick_leftn : (partL brickL (50, 80) (50, 0)).length = 4 := by kernel_rfl
theorem brick_rightn : (partL brickL (50, 0) (50, 80)).length = 4 := by kernel_rfl
theorem brick_bp : (bp brickL).length = 560 := by kernel_rfl
theorem brick_out : outc brickL 1 0 (0, 40) 0 = [(200, 40)] := by kernel_rfl
theorem brick_way : wayf 1 (1, 0) = (0, 1) := by kernel_rfl
end Go.Proofs.YtljmhejljpfaiaaGreat
namespace Go.Proofs.YtljmhejljpfaiaaGreat
set_option maxRecDepth 100000
set_option maxRecDepth 100000
open Go.RowKit Go.Shelf

/-! wakes -/
abbrev brn : ByteArray := ⟨#[98, 114, 105, 99, 107]⟩
abbrev brna : ByteArray := ⟨#[98, 114, 105, 99, 107, 97]⟩
abbrev brnb : ByteArray := ⟨#[98, 114, 105, 99, 107, 98]⟩
abbrev brv (g : Nat) : Value := .agg #[.string brn, .slice (some ⟨g, 0, none⟩) 4 4, .int .i64 100, .int .i64 2400, .int .i64 1, .int .i64 0]
theorem brick_nm : Nm brn := ⟨by decide, fun i hi => by
  have h5 : i = 0 ∨ i = 1 ∨ i = 2 ∨ i = 3 ∨ i = 4 := by have : i < 5 := hi; omega
  unfold Lt
  rcases h5 with rfl | rfl | rfl | rfl | rfl <;> decide⟩
theorem brick_vld : Vld brickS := ⟨brick_nm, brick_pl, by unfold Bd brickS; decide⟩
theorem brick_pts {w : World} {g : Nat} (h : Row w g 0 brickL) : Pts w (.slice (some ⟨g, 0, none⟩) 4 4) brickS.l := ⟨by decide, some ⟨g, 0, none⟩, 4, rfl, .inr ⟨g, 0, rfl, h, h.lt (by decide)⟩⟩
theorem wb_weight (g : Nat) (w : World) (h : Row w g 0 brickL) : Calls Tryz.prog 12 #[brv g] w fun e w' => e = .returned (.tuple #[.int .i64 7680000000, .int .i64 0]) ∧ Below w.heap.size w w' :=
  (weightF_any brickS _ w (by unfold maxLen; decide) (brick_pts h)).mono fun e w' ⟨⟨r, x, he, hx⟩, hb⟩ => ⟨by
    rcases hx with ⟨_, rfl, hr⟩ | ⟨hv, _⟩
    · have e1 : r = 7680000000 := by
        rw [hr, show tw brickS.l = 32000 from brick_tw]; decide
      rw [he, e1]
    · exact absurd brick_vld hv, hb⟩
theorem wb_split (g : Nat) (w : World) (h : Row w g 0 brickL) : Calls Tryz.prog 13 #[brv g, .agg #[.int .i64 50, .int .i64 0], .agg #[.int .i64 50, .int .i64 80]] w fun e w' =>
    (∃ g1 c1 p2 n2 c2, e = .returned (.tuple #[.agg (c6 brna (.slice (some ⟨g1, 0, none⟩) 4 c1) 100 2400 1 0), .agg (c6 brnb (.slice p2 n2 c2) 100 2400 1 0), .int .i64 0]) ∧ w'.cell? ⟨g1, 2, none⟩ = some (.int .i64 50)) ∧ Below w.heap.size w w' :=
  (split_any brickS _ 50 0 50 80 w (by decide) (brick_pts h)).mono fun e w' ⟨⟨va, vb, er, he, hE, hx⟩, hb⟩ => ⟨by
    have hE0 : er = 0 := by
      rcases hE with ⟨h, _⟩ | ⟨_, h, _⟩ | ⟨_, h, _⟩ | ⟨_, h, _⟩ | ⟨_, _, h⟩
      · exact absurd brick_vld h
      · exact absurd ⟨brick_isp1, brick_isp2⟩ h
      · exact absurd brick_can h
      · exfalso
        rcases h with h | h | h
        · exact absurd h (by decide)
        · rw [show (partL brickS.l (50, 80) (50, 0)).length = 4 from brick_leftn] at h; omega
        · rw [show (partL brickS.l (50, 0) (50, 80)).length = 4 from brick_rightn] at h; omega
      · exact h
    subst hE0
    rcases hx with ⟨h, _⟩ | ⟨_, u1, u2, rfl, o1, rfl, o2⟩
    · exact absurd rfl h
    · rw [show stl (partL brickS.l (50, 80) (50, 0)) = [(0, 0), (50, 0), (50, 80), (0, 80)] from brick_left] at o1
      obtain ⟨g1, c1, rfl, hr⟩ := o1.some (by decide)
      obtain ⟨p2, n2, c2, rfl⟩ := own_form o2
      have := (hr 1 (by decide)).1
      simp only [Nat.zero_add, Nat.one_mul] at this
      exact ⟨g1, c1, p2, n2, c2, he, this⟩, hb⟩
theorem wb_out (g : Nat) (w : World) (h : Row w g 0 brickL) : Calls Tryz.prog 14 #[brv g, .agg #[.int .i64 0, .int .i64 40], .int .i64 0] w fun e w' =>
    (∃ g1 c1, e = .returned (.tuple #[.slice (some ⟨g1, 0, none⟩) 1 c1, .int .i64 0]) ∧ w'.cell? ⟨g1, 0, none⟩ = some (.int .i64 200) ∧ w'.cell? ⟨g1, 1, none⟩ = some (.int .i64 40)) ∧ Below w.heap.size w w' :=
  (outcomes_any brickS _ 0 40 0 w (by unfold maxLen; decide) (brick_pts h)).mono fun e w' ⟨⟨v', er, he, _, hE, hx⟩, hb⟩ => ⟨by
    have hE0 : er = 0 := by
      rcases hE with ⟨h, _⟩ | ⟨_, h, _⟩ | ⟨_, h, _⟩ | ⟨_, _, h⟩
      · exact absurd brick_vld h
      · exact absurd brick_isp3 h
      · exact absurd (by decide) h
      · exact h
    subst hE0
    rcases hx with ⟨_, o1⟩ | ⟨h, _⟩
    · rw [show outc brickS.l brickS.gx brickS.gz (0, 40) 0 = [(200, 40)] from brick_out] at o1
      obtain ⟨g1, c1, rfl, hr⟩ := o1.some (by decide)
      have := hr 0 (by decide)
      exact ⟨g1, c1, he, this.1, this.2⟩
    · exact absurd rfl h, hb⟩
theorem wb_turn (g : Nat) (w : World) (h : Row w g 0 brickL) : Calls Tryz.prog 15 #[brv g, .int .i64 1] w fun e w' =>
    (∃ p2 n2 c2, e = .returned (.tuple #[.agg (c6 brn (.slice p2 n2 c2) 100 2400 0 1), .int .i64 0])) ∧ Below w.heap.size w w' :=
  (turned_any brickS _ 1 w (by unfold maxLen; decide) (brick_pts h)).mono fun e w' ⟨hx, hb⟩ => ⟨by
    rcases hx with ⟨h, _⟩ | ⟨_, h, _⟩ | ⟨_, _, v, he, ho⟩
    · exact absurd brick_vld h
    · exact absurd (by decide) h
    · obtain ⟨p2, n2, c2, rfl⟩ := own_form ho
      exact ⟨p2, n2, c2, he⟩, hb⟩
theorem wb_border (g : Nat) (w : World) (h : Row w g 0 brickL) : Calls Tryz.prog 16 #[brv g] w fun e w' =>
    (∃ p2 c2, e = .returned (.tuple #[.slice p2 560 c2, .int .i64 0])) ∧ Below w.heap.size w w' :=
  (border_any brickS _ w (by unfold maxLen; decide) (brick_pts h)).mono fun e w' ⟨⟨r, x, he, _, hx⟩, hb⟩ => ⟨by
    rcases hx with ⟨_, rfl, ho⟩ | ⟨h, _⟩
    · have hl : (bp brickS.l).length = 560 := brick_bp
      obtain ⟨g1, c1, rfl, hr⟩ := ho.some (by rw [hl]; decide)
      rw [hl] at he
      exact ⟨_, c1, he⟩
    · exact absurd brick_vld h, hb⟩
set_option maxHeartbeats 8000000 in
theorem wakes_any (w : World) : Calls Tryz.prog 4 #[] w fun e w' => e = .returned (.bool true) ∧ Below w.heap.size w w' := by
  go_enter Tryz.func4, Tryz.ntmps4
  go_wp2_with fail
  refine (brick_any _).mono ?_
  rintro e w1 ⟨⟨g, rfl, hr⟩, hb1⟩
  have HR := Lib.hid hr
  have k2 := Below.thru hb1 hb1.size (bl1 w1 (.cells #[.string brn, .slice (some ⟨g, 0, none⟩) 4 4, .int .i64 100, .int .i64 2400, .int .i64 1, .int .i64 0] 39))
  have b1 : Blk w1.heap.size #[.string brn, .slice (some ⟨g, 0, none⟩) 4 4, .int .i64 100, .int .i64 2400, .int .i64 1, .int .i64 0] 39 (w1.alloc (.cells #[.string brn, .slice (some ⟨g, 0, none⟩) 4 4, .int .i64 100, .int .i64 2400, .int .i64 1, .int .i64 0] 39)) := Blk.new _ _ _
  have r2 := hr.keep (bl1 w1 (.cells #[.string brn, .slice (some ⟨g, 0, none⟩) 4 4, .int .i64 100, .int .i64 2400, .int .i64 1, .int .i64 0] 39))
  clear hr hb1
  unfold stv brickS
  go_wp2_with fail
  generalize w1.alloc (.cells #[.string brn, .slice (some ⟨g, 0, none⟩) 4 4, .int .i64 100, .int .i64 2400, .int .i64 1, .int .i64 0] 39) = w2 at *
  generalize w1.heap.size = T1 at *
  refine (wb_weight g w2 r2).mono ?_
  rintro e w3 ⟨rfl, hb⟩
  have k3 := Below.thru k2 k2.size hb
  have r3 := r2.keep hb
  replace b1 := b1.below hb
  clear hb r2 k2
  have s0 := b1.cell (i := 0) rfl; have s1 := b1.cell (i := 1) rfl; have s2 := b1.cell (i := 2) rfl; have s3 := b1.cell (i := 3) rfl; have s4 := b1.cell (i := 4) rfl; have s5 := b1.cell (i := 5) rfl
  have B1 := Lib.hid b1
  clear b1
  go_wp2_with fail
  refine (wb_split g w3 r3).mono ?_
  rintro e w4 ⟨⟨g1, c1, p2, n2, c2, rfl, hc⟩, hb⟩
  have k4 := Below.thru k3 k3.size hb
  have r4 := r3.keep hb
  have b1 := B1.out.below hb
  clear r3 k3 B1 s0 s1 s2 s3 s4 s5
  have hw4 := hb.size
  obtain ⟨w5, hw5⟩ : ∃ w5, w5 = (w4.alloc (.cells (c6 brna (.slice (some ⟨g1, 0, none⟩) 4 c1) 100 2400 1 0) 39)).alloc (.cells (c6 brnb (.slice p2 n2 c2) 100 2400 1 0) 39) := ⟨_, rfl⟩
  have k5 : Below w.heap.size w w5 := by rw [hw5]; exact Below.thru k4 k4.size (bl2 w4 _ _)
  have hb5 : Below w4.heap.size w4 w5 := by rw [hw5]; exact bl2 w4 _ _
  have ba : Blk w4.heap.size (c6 brna (.slice (some ⟨g1, 0, none⟩) 4 c1) 100 2400 1 0) 39 w5 := by rw [hw5]; exact (Blk.new _ _ _).alloc _
  have bb : Blk (w4.heap.size + 1) (c6 brnb (.slice p2 n2 c2) 100 2400 1 0) 39 w5 := by
    rw [hw5]
    have := Blk.new (w4.alloc (.cells (c6 brna (.slice (some ⟨g1, 0, none⟩) 4 c1) 100 2400 1 0) 39)) (c6 brnb (.slice p2 n2 c2) 100 2400 1 0) 39
    rw [World.size_alloc] at this
    exact this
  have r5 := r4.keep hb5
  have b1 := b1.below hb5
  have hc5 := (hb5.cell (p := ⟨g1, 2, none⟩) (cell_lt hc)).trans hc
  have B1 := Lib.hid b1
  have HW5 := Lib.hid hw5
  have s0 := b1.cell (i := 0) rfl; have s1 := b1.cell (i := 1) rfl; have s2 := b1.cell (i := 2) rfl; have s3 := b1.cell (i := 3) rfl; have s4 := b1.cell (i := 4) rfl; have s5 := b1.cell (i := 5) rfl
  clear b1 hb5 k4 r4 hc hw4 hb
  rw [hw5] at s0 s1 s2 s3 s4 s5
  clear hw5
  go_wp2_with fail
  rw [← HW5.out]
  clear s0 s1 s2 s3 s4 s5
  refine (wb_out g w5 r5).mono ?_
  rintro e w6 ⟨⟨g6, c6', rfl, ho0, ho1⟩, hb⟩
  have k6 := Below.thru k5 k5.size hb
  have r6 := r5.keep hb
  have b1 := B1.out.below hb
  have ba6 := ba.below hb
  have bb6 := bb.below hb
  have hc6 := (hb.cell (p := ⟨g1, 2, none⟩) (cell_lt hc5)).trans hc5
  have s0 := b1.cell (i := 0) rfl; have s1 := b1.cell (i := 1) rfl; have s2 := b1.cell (i := 2) rfl; have s3 := b1.cell (i := 3) rfl; have s4 := b1.cell (i := 4) rfl; have s5 := b1.cell (i := 5) rfl
  have B1' := Lib.hid b1
  clear b1 hb k5 r5 hc5 ba bb B1 HW5
  go_wp2_with fail
  refine (wb_turn g w6 r6).mono ?_
  rintro e w7 ⟨⟨p7, n7, c7, rfl⟩, hb⟩
  have k7 := Below.thru k6 k6.size hb
  have r7 := r6.keep hb
  have b1 := B1'.out.below hb
  have ba7 := ba6.below hb
  have bb7 := bb6.below hb
  have hc7 := (hb.cell (p := ⟨g1, 2, none⟩) (cell_lt hc6)).trans hc6
  have h07 := (hb.cell (p := ⟨g6, 0, none⟩) (cell_lt ho0)).trans ho0
  have h17 := (hb.cell (p := ⟨g6, 1, none⟩) (cell_lt ho1)).trans ho1
  clear hb k6 r6 hc6 ba6 bb6 B1' ho0 ho1 s0 s1 s2 s3 s4 s5
  obtain ⟨w8, hw8⟩ : ∃ w8, w8 = w7.alloc (.cells (c6 brn (.slice p7 n7 c7) 100 2400 0 1) 39) := ⟨_, rfl⟩
  have k8 : Below w.heap.size w w8 := by rw [hw8]; exact Below.thru k7 k7.size (bl1 w7 _)
  have hb8 : Below w7.heap.size w7 w8 := by rw [hw8]; exact bl1 w7 _
  have bt : Blk w7.heap.size (c6 brn (.slice p7 n7 c7) 100 2400 0 1) 39 w8 := by rw [hw8]; exact Blk.new _ _ _
  have r8 := r7.keep hb8
  have b1 := b1.below hb8
  have ba8 := ba7.below hb8
  have bb8 := bb7.below hb8
  have hc8 := (hb8.cell (p := ⟨g1, 2, none⟩) (cell_lt hc7)).trans hc7
  have h08 := (hb8.cell (p := ⟨g6, 0, none⟩) (cell_lt h07)).trans h07
  have h18 := (hb8.cell (p := ⟨g6, 1, none⟩) (cell_lt h17)).trans h17
  have HW8 := Lib.hid hw8
  have s0 := b1.cell (i := 0) rfl; have s1 := b1.cell (i := 1) rfl; have s2 := b1.cell (i := 2) rfl; have s3 := b1.cell (i := 3) rfl; have s4 := b1.cell (i := 4) rfl; have s5 := b1.cell (i := 5) rfl
  clear b1 hb8 k7 r7 hc7 ba7 bb7 h07 h17
  rw [hw8] at s0 s1 s2 s3 s4 s5
  clear hw8
  go_wp2_with fail
  rw [← HW8.out]
  clear s0 s1 s2 s3 s4 s5
  refine (wb_border g w8 r8).mono ?_
  rintro e w9 ⟨⟨p9, c9, rfl⟩, hb⟩
  have k9 := Below.thru k8 k8.size hb
  have ba9 := ba8.below hb
  have bb9 := bb8.below hb
  have bt9 := bt.below hb
  have hc9 := (hb.cell (p := ⟨g1, 2, none⟩) (cell_lt hc8)).trans hc8
  have h09 := (hb.cell (p := ⟨g6, 0, none⟩) (cell_lt h08)).trans h08
  have h19 := (hb.cell (p := ⟨g6, 1, none⟩) (cell_lt h18)).trans h18
  have a0 := ba9.cell (i := 0) rfl
  have a1 := ba9.cell (i := 1) rfl
  have d0 := bb9.cell (i := 0) rfl
  have t4 := bt9.cell (i := 4) rfl
  have t5 := bt9.cell (i := 5) rfl
  have K9 := Lib.hid k9
  clear hb k8 r8 hc8 ba8 bb8 bt h08 h18 ba9 bb9 bt9 k9 HW8
  go_wp2
  go_ret
  exact ⟨rfl, K9.out⟩
end Go.Proofs.YtljmhejljpfaiaaGreat
