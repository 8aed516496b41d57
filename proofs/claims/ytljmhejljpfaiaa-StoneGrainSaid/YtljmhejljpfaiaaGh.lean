import Derived.Test.YtljmhejljpfaiaaGg
namespace Go.Proofs.Ytljmhejljpfaiaa
set_option maxRecDepth 100000
open Go.RowKit Go.Shelf

/-! Split of any stone; StoneSplits -/
set_option maxHeartbeats 4000000 in
theorem split_bad (s : SV) (p : Option Addr) (c : Nat) (x1 z1 x2 z2 : Int) (w : World) (hn : s.nm.size ≤ maxLen) (h : Pts w (.slice p s.l.length c) s.l) (hv : ¬ Vld s) : Calls Try.prog 35 #[stv s (.slice p s.l.length c), .agg #[.int .i64 x1, .int .i64 z1], .agg #[.int .i64 x2, .int .i64 z2]] w fun e w' => e = .returned (.tuple #[zst, zst, .int .i64 2]) ∧ Below w.heap.size w w' := by
  have HC := Lib.hid (fun W (k : Below w.heap.size w W) => check_any s (.slice p s.l.length c) W hn (h.keep k))
  have HV := Lib.hid hv
  obtain ⟨nm, l, dp, dn, gx, gz⟩ := s
  unfold stv at *
  dsimp only at *
  clear h hn hv
  generalize Vld ⟨nm, l, dp, dn, gx, gz⟩ = V at *
  generalize l.length = n at *
  have k0 : Below w.heap.size w (((((w.alloc (.cells (c6 nm (.slice p n c) dp dn gx gz) 34)).alloc (.cells #[.int .i64 x1, .int .i64 z1] 32)).alloc (.cells #[.int .i64 x2, .int .i64 z2] 32)).alloc (.cells (c6 ⟨#[]⟩ (.slice none 0 0) 0 0 0 0) 34)).alloc (.cells (c6 ⟨#[]⟩ (.slice none 0 0) 0 0 0 0) 34)) := ((bl3 w _ _ _).alloc (by simp; omega) _).alloc (by simp; omega) _
  have b0 : Blk (w.heap.size + 1 + 1 + 1) (c6 ⟨#[]⟩ (.slice none 0 0) 0 0 0 0) 34 (((((w.alloc (.cells (c6 nm (.slice p n c) dp dn gx gz) 34)).alloc (.cells #[.int .i64 x1, .int .i64 z1] 32)).alloc (.cells #[.int .i64 x2, .int .i64 z2] 32)).alloc (.cells (c6 ⟨#[]⟩ (.slice none 0 0) 0 0 0 0) 34)).alloc (.cells (c6 ⟨#[]⟩ (.slice none 0 0) 0 0 0 0) 34)) ∧ Blk (w.heap.size + 1 + 1 + 1 + 1) (c6 ⟨#[]⟩ (.slice none 0 0) 0 0 0 0) 34 (((((w.alloc (.cells (c6 nm (.slice p n c) dp dn gx gz) 34)).alloc (.cells #[.int .i64 x1, .int .i64 z1] 32)).alloc (.cells #[.int .i64 x2, .int .i64 z2] 32)).alloc (.cells (c6 ⟨#[]⟩ (.slice none 0 0) 0 0 0 0) 34)).alloc (.cells (c6 ⟨#[]⟩ (.slice none 0 0) 0 0 0 0) 34)) := by
    refine ⟨?_, ?_⟩
    · have := Blk.new (((w.alloc (.cells (c6 nm (.slice p n c) dp dn gx gz) 34)).alloc (.cells #[.int .i64 x1, .int .i64 z1] 32)).alloc (.cells #[.int .i64 x2, .int .i64 z2] 32)) (c6 ⟨#[]⟩ (.slice none 0 0) 0 0 0 0) 34
      simp only [World.size_alloc] at this
      exact this.alloc _
    · have := Blk.new ((((w.alloc (.cells (c6 nm (.slice p n c) dp dn gx gz) 34)).alloc (.cells #[.int .i64 x1, .int .i64 z1] 32)).alloc (.cells #[.int .i64 x2, .int .i64 z2] 32)).alloc (.cells (c6 ⟨#[]⟩ (.slice none 0 0) 0 0 0 0) 34)) (c6 ⟨#[]⟩ (.slice none 0 0) 0 0 0 0) 34
      simp only [World.size_alloc] at this
      exact this
  have hsz : (((((w.alloc (.cells (c6 nm (.slice p n c) dp dn gx gz) 34)).alloc (.cells #[.int .i64 x1, .int .i64 z1] 32)).alloc (.cells #[.int .i64 x2, .int .i64 z2] 32)).alloc (.cells (c6 ⟨#[]⟩ (.slice none 0 0) 0 0 0 0) 34)).alloc (.cells (c6 ⟨#[]⟩ (.slice none 0 0) 0 0 0 0) 34)).heap.size = w.heap.size + 5 := by simp
  go_enter Try.func35, Try.ntmps35
  go_wp2_with fail
  generalize ((((w.alloc (.cells (c6 nm (.slice p n c) dp dn gx gz) 34)).alloc (.cells #[.int .i64 x1, .int .i64 z1] 32)).alloc (.cells #[.int .i64 x2, .int .i64 z2] 32)).alloc (.cells (c6 ⟨#[]⟩ (.slice none 0 0) 0 0 0 0) 34)).alloc (.cells (c6 ⟨#[]⟩ (.slice none 0 0) 0 0 0 0) 34) = w0 at *
  have HBS : Hid (∀ W, Below w0.heap.size w0 W → Blk (w.heap.size + 1 + 1 + 1) (c6 ⟨#[]⟩ (.slice none 0 0) 0 0 0 0) 34 W ∧ Blk (w.heap.size + 1 + 1 + 1 + 1) (c6 ⟨#[]⟩ (.slice none 0 0) 0 0 0 0) 34 W ∧ Below w.heap.size w W) := fun W k => ⟨b0.1.below k, b0.2.below k, Below.thru k0 k0.size k⟩
  clear b0
  refine (HC.out _ k0).mono ?_
  rintro e w1 ⟨⟨er, rfl, hx⟩, hb1⟩
  have q2 := HBS.out _ hb1
  have K1 := Lib.hid q2.2.2
  have hl : w.heap.size + 5 ≤ w1.heap.size := by have := hb1.size; omega
  clear hb1 k0 hsz
  rcases hx with ⟨rfl, hv⟩ | ⟨rfl, hv⟩
  · exact absurd hv HV.out
  · have zc0 := q2.1.cell (i := 0) rfl; have zc1 := q2.1.cell (i := 1) rfl; have zc2 := q2.1.cell (i := 2) rfl; have zc3 := q2.1.cell (i := 3) rfl; have zc4 := q2.1.cell (i := 4) rfl; have zc5 := q2.1.cell (i := 5) rfl; have zcf0 := q2.1.frozen 0; have zcf1 := q2.1.frozen 1; have zcf2 := q2.1.frozen 2; have zcf3 := q2.1.frozen 3; have zcf4 := q2.1.frozen 4; have zcf5 := q2.1.frozen 5
    have yc0 := q2.2.1.cell (i := 0) rfl; have yc1 := q2.2.1.cell (i := 1) rfl; have yc2 := q2.2.1.cell (i := 2) rfl; have yc3 := q2.2.1.cell (i := 3) rfl; have yc4 := q2.2.1.cell (i := 4) rfl; have yc5 := q2.2.1.cell (i := 5) rfl; have ycf0 := q2.2.1.frozen 0; have ycf1 := q2.2.1.frozen 1; have ycf2 := q2.2.1.frozen 2; have ycf3 := q2.2.1.frozen 3; have ycf4 := q2.2.1.frozen 4; have ycf5 := q2.2.1.frozen 5
    clear hv q2
    go_wp2
    refine bodyPost_ret (v := .tuple #[zst, zst, .int .i64 2]) (by simp [results, Try.results35, go_sem, zst, zc0, zc1, zc2, zc3, zc4, zc5, yc0, yc1, yc2, yc3, yc4, yc5]) rfl ⟨rfl, below6 (below6 K1.out (by omega) _ _ _ _ _ _) (by omega) _ _ _ _ _ _⟩
theorem split_all (s : SV) (p : Option Addr) (c : Nat) (x1 z1 x2 z2 : Int) (w : World) (hn : s.nm.size ≤ maxLen) (h : Pts w (.slice p s.l.length c) s.l) : Calls Try.prog 35 #[stv s (.slice p s.l.length c), .agg #[.int .i64 x1, .int .i64 z1], .agg #[.int .i64 x2, .int .i64 z2]] w (PSp s (x1, z1) (x2, z2) w) := by
  by_cases hb : s.nm.size ≤ 1000000
  · exact split_any s _ x1 z1 x2 z2 w hb h
  · have hv : ¬ Vld s := fun h => hb (by have := h.1.1.2; omega)
    exact (split_bad s p c x1 z1 x2 z2 w hn h hv).mono fun e w' ⟨he, hk⟩ => ⟨⟨_, _, 2, he, .inl ⟨hv, rfl⟩, .inl ⟨by decide, rfl, rfl⟩⟩, hk⟩
theorem stl_len9 (l : List Pt) : (stl l).length = l.length := by simp [stl]
/-- the same, in cells -/
def PSc (s : SV) (x1 z1 x2 z2 : Int) (w : World) (e : Ending) (w' : World) : Prop :=
  (∃ na pa ma ca da ea ga ha nb pb mb cb db eb gb ib er, e = .returned (.tuple #[.agg (c6 na (.slice pa ma ca) da ea ga ha), .agg (c6 nb (.slice pb mb cb) db eb gb ib), .int .i64 er]) ∧ SplE s (x1, z1) (x2, z2) er ∧
    (er ≠ 0 → (Value.agg (c6 na (.slice pa ma ca) da ea ga ha) = zst ∧ Value.agg (c6 nb (.slice pb mb cb) db eb gb ib) = zst)) ∧
    (er = 0 → ((Value.agg (c6 na (.slice pa ma ca) da ea ga ha) = stv (pieceS s lta (partL s.l (x2, z2) (x1, z1))) (.slice pa ma ca) ∧ Pts w' (.slice pa ma ca) (stl (partL s.l (x2, z2) (x1, z1)))) ∧
      (Value.agg (c6 nb (.slice pb mb cb) db eb gb ib) = stv (pieceS s ltb (partL s.l (x1, z1) (x2, z2))) (.slice pb mb cb) ∧ Pts w' (.slice pb mb cb) (stl (partL s.l (x1, z1) (x2, z2))))))) ∧ Below w.heap.size w w'
theorem splE_len {s : SV} {x1 z1 x2 z2 : Int} (h : SplE s (x1, z1) (x2, z2) 0) : (partL s.l (x2, z2) (x1, z1)).length ≤ 1000000 ∧ (partL s.l (x1, z1) (x2, z2)).length ≤ 1000000 := by
  rcases h with ⟨_, h⟩ | ⟨_, _, h⟩ | ⟨_, _, h⟩ | ⟨_, _, h⟩ | ⟨h, _, _⟩
  · omega
  · omega
  · omega
  · omega
  · have h12 := h.1.1.2.1.1.2
    have a := partL_len s.l (x2, z2) (x1, z1) (eo_isp h.1.2.2) (eo_isp h.1.2.1)
    have b := partL_len s.l (x1, z1) (x2, z2) (eo_isp h.1.2.1) (eo_isp h.1.2.2)
    omega
theorem splitc_any (s : SV) (p : Option Addr) (c : Nat) (x1 z1 x2 z2 : Int) (w : World) (hn : s.nm.size ≤ maxLen) (h : Pts w (.slice p s.l.length c) s.l) : Calls Try.prog 35 #[stv s (.slice p s.l.length c), .agg #[.int .i64 x1, .int .i64 z1], .agg #[.int .i64 x2, .int .i64 z2]] w (PSc s x1 z1 x2 z2 w) :=
  (split_all s p c x1 z1 x2 z2 w hn h).mono fun e w' ⟨⟨va, vb, er, he, hE, hx⟩, hk⟩ => ⟨by
    rcases hx with ⟨h0, rfl, rfl⟩ | ⟨h0, u1, u2, rfl, o1, rfl, o2⟩
    · exact ⟨_, _, _, _, _, _, _, _, _, _, _, _, _, _, _, _, er, he, hE, fun _ => ⟨rfl, rfl⟩, fun h => absurd h h0⟩
    · subst h0
      have hl := splE_len hE
      obtain ⟨a1, m1, c1, rfl⟩ := o1.form
      obtain ⟨a2, m2, c2, rfl⟩ := o2.form
      exact ⟨_, _, _, _, _, _, _, _, _, _, _, _, _, _, _, _, 0, he, hE, fun h => absurd rfl h, fun _ => ⟨⟨rfl, o1.pts (by rw [stl_len9]; omega)⟩, ⟨rfl, o2.pts (by rw [stl_len9]; omega)⟩⟩⟩, hk⟩
set_option maxHeartbeats 16000000 in
theorem splitsL_any (s : SV) (p : Option Addr) (c : Nat) (x1 z1 x2 z2 : Int) (w : World) (hn : s.nm.size ≤ maxLen) (hlm : s.l.length ≤ maxLen) (h : s.l.length ≤ 1000000 → Pts w (.slice p s.l.length c) s.l) : Calls Try.prog 7 #[stv s (.slice p s.l.length c), .agg #[.int .i64 x1, .int .i64 z1], .agg #[.int .i64 x2, .int .i64 z2]] w (PT w) := by
  have HS := Lib.hid (fun W (k : Below w.heap.size w W) (hm : s.l.length ≤ 1000000) => stonev_any s (.slice p s.l.length c) W ((h hm).keep k) hm)
  have HSP := Lib.hid (fun W a m (hp : Pts W (.slice a s.l.length m) s.l) => splitc_any s a m x1 z1 x2 z2 W hn hp)
  have HSAME := Lib.hid (fun W v5 (k : Below w.heap.size w W) (hm : s.l.length ≤ 1000000) (h5 : Pts W v5 s.l) => same_any s v5 (.slice p s.l.length c) W h5 ((h hm).keep k) hm)
  have HCR := Lib.hid (fun W (k : Below w.heap.size w W) (hm : s.l.length ≤ 1000000) na pa ma ca da ea ga ha nb pb mb cb db eb gb ib er => cutRight_any s p c x1 z1 x2 z2 na pa ma ca da ea ga ha nb pb mb cb db eb gb ib er W hn ((h hm).keep k))
  have hn1 := hn
  obtain ⟨nm, l, dp, dn, gx, gz⟩ := s
  have HSC : Hid (∀ W e W', PSc ⟨nm, l, dp, dn, gx, gz⟩ x1 z1 x2 z2 W e W' → ∃ na pa ma ca da ea ga ha nb pb mb cb db eb gb ib er, e = .returned (.tuple #[.agg (c6 na (.slice pa ma ca) da ea ga ha), .agg (c6 nb (.slice pb mb cb) db eb gb ib), .int .i64 er]) ∧ Below W.heap.size W W' ∧ Hid (∀ W2, Below w.heap.size w W2 → l.length ≤ 1000000 → Below W'.heap.size W' W2 → Calls Try.prog 36 #[.agg (c6 nm (.slice p l.length c) dp dn gx gz), .agg #[.int .i64 x1, .int .i64 z1], .agg #[.int .i64 x2, .int .i64 z2], .agg (c6 na (.slice pa ma ca) da ea ga ha), .agg (c6 nb (.slice pb mb cb) db eb gb ib), .int .i64 er] W2 fun e w' => e = .returned (.bool true) ∧ Below W2.heap.size W2 w')) := by
    rintro W e W' ⟨⟨na, pa, ma, ca, da, ea, ga, ha, nb, pb, mb, cb, db, eb, gb, ib, er, he, hE, hA, hO⟩, hk⟩
    exact ⟨na, pa, ma, ca, da, ea, ga, ha, nb, pb, mb, cb, db, eb, gb, ib, er, he, hk, fun W2 k hm k2 => HCR.out W2 k hm na pa ma ca da ea ga ha nb pb mb cb db eb gb ib er hE hA (fun h0 => ⟨⟨(hO h0).1.1, (hO h0).1.2.keep k2⟩, ⟨(hO h0).2.1, (hO h0).2.2.keep k2⟩⟩)⟩
  have HSL : Hid (∀ (W : World) (base : Nat) (v : Value), Own W base v l → ∃ a m, v = .slice a l.length m) := fun W base v h => by
    rcases h.row with ⟨rfl, h0⟩ | ⟨g, c, h1, _⟩
    · exact ⟨none, 0, by rw [h0]; rfl⟩
    · exact ⟨_, _, h1⟩
  unfold maxLen at hn1 hlm
  unfold stv at *
  dsimp only at *
  have HP : Hid (∀ (W W' : World) (base : Nat) (v : Value), l.length ≤ 1000000 → Own W base v l → Below W.heap.size W W' → Pts W' v l) := fun W W' base v hb h k => (h.pts (by omega)).keep k
  clear h hn HCR
  obtain ⟨n, hnn⟩ : ∃ n, n = l.length := ⟨_, rfl⟩
  rw [← hnn] at hlm HS HSP HSAME HSC HSL HP ⊢
  clear hnn
  have k1 := bl3 w (.cells (c6 nm (.slice p n c) dp dn gx gz) 26) (.cells #[.int .i64 x1, .int .i64 z1] 24) (.cells #[.int .i64 x2, .int .i64 z2] 24)
  have b1 : Blk w.heap.size (c6 nm (.slice p n c) dp dn gx gz) 26 (((w.alloc (.cells (c6 nm (.slice p n c) dp dn gx gz) 26)).alloc (.cells #[.int .i64 x1, .int .i64 z1] 24)).alloc (.cells #[.int .i64 x2, .int .i64 z2] 24)) ∧ B2 (w.heap.size + 1) x1 z1 (((w.alloc (.cells (c6 nm (.slice p n c) dp dn gx gz) 26)).alloc (.cells #[.int .i64 x1, .int .i64 z1] 24)).alloc (.cells #[.int .i64 x2, .int .i64 z2] 24)) ∧ B2 (w.heap.size + 1 + 1) x2 z2 (((w.alloc (.cells (c6 nm (.slice p n c) dp dn gx gz) 26)).alloc (.cells #[.int .i64 x1, .int .i64 z1] 24)).alloc (.cells #[.int .i64 x2, .int .i64 z2] 24)) :=
    ⟨((Blk.new w _ 26).alloc _).alloc _, ⟨by simp [go_sem], by simp [go_sem], by simp [go_sem], by simp [go_sem]⟩, ⟨by simp [go_sem], by simp [go_sem], by simp [go_sem], by simp [go_sem]⟩⟩
  have HB1 : Hid (∀ W, Below (((w.alloc (.cells (c6 nm (.slice p n c) dp dn gx gz) 26)).alloc (.cells #[.int .i64 x1, .int .i64 z1] 24)).alloc (.cells #[.int .i64 x2, .int .i64 z2] 24)).heap.size (((w.alloc (.cells (c6 nm (.slice p n c) dp dn gx gz) 26)).alloc (.cells #[.int .i64 x1, .int .i64 z1] 24)).alloc (.cells #[.int .i64 x2, .int .i64 z2] 24)) W → Blk w.heap.size (c6 nm (.slice p n c) dp dn gx gz) 26 W ∧ B2 (w.heap.size + 1) x1 z1 W ∧ B2 (w.heap.size + 1 + 1) x2 z2 W ∧ Below w.heap.size w W) := fun W k => ⟨b1.1.below k, b1.2.1.keep k, b1.2.2.keep k, Below.thru k1 k1.size k⟩
  have K1 := Lib.hid k1
  clear b1 k1
  by_cases h20 : 20 < n
  · go_enter Try.func7, Try.ntmps7
    go_wp2_with fail
    refine (wakes_any _).mono ?_
    rintro e w2 ⟨rfl, hb2⟩
    have k2 := Below.thru K1.out K1.out.size hb2
    clear hb2
    go_wp2
    go_ret
    exact ⟨rfl, k2⟩
  · go_enter Try.func7, Try.ntmps7
    go_wp2_with fail
    refine (HS.out _ K1.out (by omega)).mono ?_
    rintro e w2 ⟨⟨v5, rfl, ho5⟩, hb2⟩
    have K2 := Lib.hid (Below.thru K1.out K1.out.size hb2)
    have hB2 := HB1.out _ hb2
    obtain ⟨a5, c5, rfl⟩ := HSL.out _ _ _ ho5
    have HO5 := Lib.hid ho5
    clear hb2 ho5
    obtain ⟨w3, hw3⟩ : ∃ w3, w3 = w2.alloc (.cells (c6 nm (.slice a5 n c5) dp dn gx gz) 34) := ⟨_, rfl⟩
    have hb3 : Below w2.heap.size w2 w3 := by rw [hw3]; exact bl1 w2 _
    have K3 := Lib.hid (Below.thru K2.out K2.out.size hb3)
    have b5 : Blk w2.heap.size (c6 nm (.slice a5 n c5) dp dn gx gz) 34 w3 := by rw [hw3]; exact Blk.new _ _ _
    have HP5 := Lib.hid (HP.out _ _ _ _ (by omega) HO5.out hb3)
    have hb1 := hB2.1.below hb3
    have hc1 := hB2.2.1.keep hb3
    have hd1 := hB2.2.2.1.keep hb3
    have HW3 := Lib.hid hw3
    have HBB : Hid (∀ W, Below w3.heap.size w3 W → Blk w.heap.size (c6 nm (.slice p n c) dp dn gx gz) 26 W ∧ B2 (w.heap.size + 1) x1 z1 W ∧ B2 (w.heap.size + 1 + 1) x2 z2 W ∧ Blk w2.heap.size (c6 nm (.slice a5 n c5) dp dn gx gz) 34 W) := fun W k => ⟨hb1.below k, hc1.keep k, hd1.keep k, b5.below k⟩
    obtain ⟨p0, p1, _, _⟩ := id hc1
    obtain ⟨r0, r1, _, _⟩ := id hd1
    rw [hw3] at p0 p1 r0 r1
    clear hB2 hb3 hb1 hc1 hd1 b5 hw3
    go_wp2_with fail
    rw [← HW3.out]
    clear p0 p1 r0 r1
    refine (HSP.out w3 _ _ HP5.out).mono ?_
    rintro e w4 hx
    obtain ⟨na, pa, ma, ca, da, ea, ga, ha, nb, pb, mb, cb, db, eb, gb, ib, er, rfl, hb4, HCR⟩ := HSC.out _ _ _ hx
    have K4 := Lib.hid (Below.thru K3.out K3.out.size hb4)
    clear hx
    obtain ⟨w5, hw5⟩ : ∃ w5, w5 = (w4.alloc (.cells (c6 na (.slice pa ma ca) da ea ga ha) 34)).alloc (.cells (c6 nb (.slice pb mb cb) db eb gb ib) 34) := ⟨_, rfl⟩
    have hb5 : Below w4.heap.size w4 w5 := by rw [hw5]; exact bl2 w4 _ _
    have K5 := Lib.hid (Below.thru K4.out K4.out.size hb5)
    have K35 := Below.thru hb4 hb4.size hb5
    have b6 : Blk w4.heap.size (c6 na (.slice pa ma ca) da ea ga ha) 34 w5 := by rw [hw5]; exact (Blk.new _ _ _).alloc _
    have b7 : Blk (w4.heap.size + 1) (c6 nb (.slice pb mb cb) db eb gb ib) 34 w5 := by
      rw [hw5]
      have := Blk.new (w4.alloc (.cells (c6 na (.slice pa ma ca) da ea ga ha) 34)) (c6 nb (.slice pb mb cb) db eb gb ib) 34
      simp only [World.size_alloc] at this
      exact this
    have q5 := HBB.out _ K35
    have HCR2 := Lib.hid (HCR.out w5 K5.out (by omega) hb5)
    have HSB : Hid (∀ W, Below w5.heap.size w5 W → Calls Try.prog 28 #[.agg (c6 nm (.slice a5 n c5) dp dn gx gz), .agg (c6 nm (.slice p n c) dp dn gx gz)] W fun e w' => e = .returned (.bool true) ∧ Below W.heap.size W w') := fun W kk =>
      HSAME.out W _ (Below.thru K5.out K5.out.size kk) (by omega) (HP5.out.keep (Below.thru K35 K35.size kk))
    have HBQ : Hid (∀ W, Below w5.heap.size w5 W → Blk w.heap.size (c6 nm (.slice p n c) dp dn gx gz) 26 W ∧ Blk w2.heap.size (c6 nm (.slice a5 n c5) dp dn gx gz) 34 W) := fun W k => ⟨q5.1.below k, q5.2.2.2.below k⟩
    have HW5 := Lib.hid hw5
    have s0 := q5.1.cell (i := 0) rfl; have s1 := q5.1.cell (i := 1) rfl; have s2 := q5.1.cell (i := 2) rfl; have s3 := q5.1.cell (i := 3) rfl; have s4 := q5.1.cell (i := 4) rfl; have s5 := q5.1.cell (i := 5) rfl
    obtain ⟨p0, p1, _, _⟩ := q5.2.1
    obtain ⟨r0, r1, _, _⟩ := q5.2.2.1
    have zc0 := b6.cell (i := 0) rfl; have zc1 := b6.cell (i := 1) rfl; have zc2 := b6.cell (i := 2) rfl; have zc3 := b6.cell (i := 3) rfl; have zc4 := b6.cell (i := 4) rfl; have zc5 := b6.cell (i := 5) rfl
    have yc0 := b7.cell (i := 0) rfl; have yc1 := b7.cell (i := 1) rfl; have yc2 := b7.cell (i := 2) rfl; have yc3 := b7.cell (i := 3) rfl; have yc4 := b7.cell (i := 4) rfl; have yc5 := b7.cell (i := 5) rfl
    rw [hw5] at s0 s1 s2 s3 s4 s5 p0 p1 r0 r1 zc0 zc1 zc2 zc3 zc4 zc5 yc0 yc1 yc2 yc3 yc4 yc5
    clear hw5 q5 hb5 b6 b7 hb4 K35
    go_wp2_with fail
    rw [← HW5.out]
    clear s0 s1 s2 s3 s4 s5 p0 p1 r0 r1 zc0 zc1 zc2 zc3 zc4 zc5 yc0 yc1 yc2 yc3 yc4 yc5
    refine HCR2.out.mono ?_
    rintro e w6 ⟨rfl, hb6⟩
    have K6 := Lib.hid hb6
    have q6 := HBQ.out _ hb6
    have s0 := q6.1.cell (i := 0) rfl; have s1 := q6.1.cell (i := 1) rfl; have s2 := q6.1.cell (i := 2) rfl; have s3 := q6.1.cell (i := 3) rfl; have s4 := q6.1.cell (i := 4) rfl; have s5 := q6.1.cell (i := 5) rfl
    have t0 := q6.2.cell (i := 0) rfl; have t1 := q6.2.cell (i := 1) rfl; have t2 := q6.2.cell (i := 2) rfl; have t3 := q6.2.cell (i := 3) rfl; have t4 := q6.2.cell (i := 4) rfl; have t5 := q6.2.cell (i := 5) rfl
    clear q6 hb6
    go_wp2_with fail
    refine (HSB.out _ K6.out).mono ?_
    rintro e w7 ⟨rfl, hb7⟩
    have K7 := Lib.hid (Below.thru K6.out K6.out.size hb7)
    clear hb7 s0 s1 s2 s3 s4 s5 t0 t1 t2 t3 t4 t5
    go_wp2_with fail
    refine (wakes_any _).mono ?_
    rintro e w8 ⟨rfl, hb8⟩
    have k8 := Below.thru K5.out K5.out.size (Below.thru K7.out K7.out.size hb8)
    clear hb8
    go_wp2
    go_ret
    exact ⟨rfl, k8⟩
end Go.Proofs.Ytljmhejljpfaiaa
