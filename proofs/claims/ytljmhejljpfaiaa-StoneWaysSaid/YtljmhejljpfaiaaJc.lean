import Derived.Test.YtljmhejljpfaiaaJb
import Derived.Test.YtljmhejljpfaiaaCe
namespace Go.Proofs.Ytljmhejljpfaiaa
set_option maxRecDepth 100000
open Go.RowKit Go.Shelf

/-! StoneWays -/
theorem turn_len (s : SV) (k : Nat) : (turnS s k).l.length = s.l.length := by unfold turnS; dsimp only; rw [stl_len, tls_length]
/-- a stone in a box, its points in a row of their own -/
structure Bxd (s : SV) (n T g c : Nat) (W : World) : Prop where
  b : Blk T (c6 s.nm (.slice (some ⟨g, 0, none⟩) n c) s.dp s.dn s.gx s.gz) 34 W
  r : Row W g 0 s.l
  hn : s.l.length = n
theorem Bxd.keep {s : SV} {n T g c : Nat} {W W' : World} (h : Bxd s n T g c W) (k : Below W.heap.size W W') : Bxd s n T g c W' := ⟨h.b.below k, h.r.keep k, h.hn⟩
theorem Bxd.pts {s : SV} {n T g c : Nat} {W : World} (h : Bxd s n T g c W) (h0 : 0 < n) (h1 : n ≤ 1000000) : Pts W (.slice (some ⟨g, 0, none⟩) n c) s.l := by
  have hn := h.hn
  exact ⟨by omega, _, c, by rw [hn], .inr ⟨g, 0, rfl, h.r, h.r.lt (by omega)⟩⟩
theorem Bxd.under {s : SV} {n T g c B : Nat} {W W' : World} (h : Bxd s n T g c W) (k : Below B W W') (hT : T < B) (hg : g < B) : Bxd s n T g c W' :=
  ⟨(k.block T hT).trans h.b, fun i hi => ⟨(cell_same (a := ⟨g, _, none⟩) (k.block g hg)).trans (h.r i hi).1, (cell_same (a := ⟨g, _, none⟩) (k.block g hg)).trans (h.r i hi).2⟩, h.hn⟩
theorem Blk.set6 {T : Nat} {nm nm' : ByteArray} {v v' : Value} {d1 d2 d3 d4 e1 e2 e3 e4 : Int} {U : TypeId} {W : World} (h : Blk T (c6 nm v d1 d2 d3 d4) U W) : Blk T (c6 nm' v' e1 e2 e3 e4) U ((((((W.setCell ⟨T, 0, none⟩ (.string nm')).setCell ⟨T, 1, none⟩ v').setCell ⟨T, 2, none⟩ (.int .i64 e1)).setCell ⟨T, 3, none⟩ (.int .i64 e2)).setCell ⟨T, 4, none⟩ (.int .i64 e3)).setCell ⟨T, 5, none⟩ (.int .i64 e4)) :=
  (((((h.set (i := 0) (.string nm')).set (i := 1) v').set (i := 2) (.int .i64 e1)).set (i := 3) (.int .i64 e2)).set (i := 4) (.int .i64 e3)).set (i := 5) (.int .i64 e4)
theorem own_row {w : World} {base : Nat} {g n c : Nat} {l : List Pt} (h : Own w base (.slice (some ⟨g, 0, none⟩) n c) l) : Row w g 0 l := by
  rcases h.row with ⟨h, _⟩ | ⟨g', c', h, hr, _⟩
  · cases h
  · cases h; exact hr
set_option maxHeartbeats 16000000 in
theorem waysL_any (s : SV) (p : Option Addr) (c : Nat) (a b : Nat) (ha : a < 256) (hb : b < 256) (w : World) (hn : s.nm.size ≤ maxLen) (hlm : s.l.length ≤ maxLen) (h : s.l.length ≤ 1000000 → Pts w (.slice p s.l.length c) s.l) : Calls Try.prog 10 #[stv s (.slice p s.l.length c), .int .u8 a, .int .u8 b] w (PT w) := by
  have HV := Lib.hid (fun W (k : Below w.heap.size w W) (hm : s.l.length ≤ 1000000) => validv_any s (.slice p s.l.length c) W hn ((h hm).keep k))
  have HS : Hid (∀ W, Below w.heap.size w W → Vld s → Calls Try.prog 17 #[stv s (.slice p s.l.length c)] W fun e w' => (∃ g c', e = .returned (stv s (.slice (some ⟨g, 0, none⟩) s.l.length c')) ∧ Own w' W.heap.size (.slice (some ⟨g, 0, none⟩) s.l.length c') s.l) ∧ Below W.heap.size W w') := fun W k hv => by
    have h3 := hv.2.1.1
    refine (stonev_any s (.slice p s.l.length c) W ((h (by omega)).keep k) (by omega)).mono fun e w' ⟨⟨v', he, ho⟩, hb⟩ => ⟨?_, hb⟩
    obtain ⟨g, c', rfl, _⟩ := ho.some (by omega)
    exact ⟨g, c', he, ho⟩
  clear h hn
  obtain ⟨va, hva⟩ : ∃ va, va = a % 8 := ⟨_, rfl⟩
  obtain ⟨vb, hvb⟩ : ∃ vb, vb = b % 8 := ⟨_, rfl⟩
  have ea : (a : Int) % 8 = (va : Int) := by omega
  have eb : (b : Int) % 8 = (vb : Int) := by omega
  have hva8 : va < 8 := by omega
  have hvb8 : vb < 8 := by omega
  have w1 := IntWalk.i64_in (va : Int) (by omega)
  have w2 := IntWalk.i64_in (vb : Int) (by omega)
  clear hva hvb
  -- what the program answers of a valid stone
  have HT : Hid (∀ W v k, k < 8 → Vld s → Pts W v s.l → Calls Try.prog 29 #[stv s v, .int .i64 (k : Nat)] W fun e w' => (∃ g c, e = .returned (.tuple #[stv (turnS s k) (.slice (some ⟨g, 0, none⟩) s.l.length c), .int .i64 0]) ∧ Own w' W.heap.size (.slice (some ⟨g, 0, none⟩) s.l.length c) (turnS s k).l) ∧ Below W.heap.size W w') := fun W v k hk hv hp => turnedV_any s v k hk W hv hp
  have HT2 : Hid (∀ W v k m, k < 8 → m < 8 → Vld s → Pts W v (turnS s k).l → Calls Try.prog 29 #[stv (turnS s k) v, .int .i64 (m : Nat)] W fun e w' => (∃ g c, e = .returned (.tuple #[stv (turnS s (cmpW k m)) (.slice (some ⟨g, 0, none⟩) s.l.length c), .int .i64 0]) ∧ Own w' W.heap.size (.slice (some ⟨g, 0, none⟩) s.l.length c) (turnS s (cmpW k m)).l) ∧ Below W.heap.size W w') := fun W v k m hk hm hv hp => by
    have h := turnedV_any (turnS s k) v m hm W (turn_vld hk hv) hp
    rw [turn_comp hv.2.1 hk hm, turn_len] at h
    exact h
  have HW1 : Hid (∀ W v, Vld s → Pts W v s.l → Calls Try.prog 19 #[stv s v] W fun e w' => e = .returned (.tuple #[.int .i64 (tw s.l * s.dp * s.dn), .int .i64 0]) ∧ Below W.heap.size W w') := fun W v hv hp => (weightF_any s v W (by have := hv.1.1.2; unfold maxLen; omega) hp).mono fun e w' ⟨⟨r, x, he, hx⟩, hk⟩ => ⟨by
      rcases hx with ⟨_, rfl, rfl⟩ | ⟨h, _⟩
      · exact he
      · exact absurd hv h, hk⟩
  have HW2 : Hid (∀ W v k, k < 8 → Vld s → Pts W v (turnS s k).l → Calls Try.prog 19 #[stv (turnS s k) v] W fun e w' => e = .returned (.tuple #[.int .i64 (tw s.l * s.dp * s.dn), .int .i64 0]) ∧ Below W.heap.size W w') := fun W v k hk hv hp => (weightF_any (turnS s k) v W (by have := hv.1.1.2; show s.nm.size ≤ _; unfold maxLen; omega) hp).mono fun e w' ⟨⟨r, x, he, hx⟩, hb⟩ => ⟨by
      rcases hx with ⟨_, rfl, rfl⟩ | ⟨h, _⟩
      · have e1 : tw (turnS s k).l = tw s.l := turn_tw hk hv.2.1.1.1
        rw [e1] at he
        exact he
      · exact absurd (turn_vld hk hv) h, hb⟩
  have HA : Hid (∀ W k m g1 c1 g2 c2, Vld s → Row W g1 0 (turnS s k).l → Row W g2 0 (turnS s m).l → Calls Try.prog 44 #[stv (turnS s k) (.slice (some ⟨g1, 0, none⟩) s.l.length c1), stv (turnS s m) (.slice (some ⟨g2, 0, none⟩) s.l.length c2)] W fun e w' => (∃ bb : Bool, e = .returned (.bool bb) ∧ (k = m → bb = true)) ∧ Below W.heap.size W w') := fun W k m g1 c1 g2 c2 hv r1 r2 => by
    have h3 := hv.2.1.1
    refine (alike_any s.nm g1 0 c1 g2 0 c2 (turnS s k).l (turnS s m).l s.l.length s.dp s.dn _ _ _ _ W r1 r2 (turn_len s k) (turn_len s m) (by omega) (by omega)).mono fun e w' ⟨⟨bb, he, hx⟩, hk⟩ => ⟨⟨bb, he, fun e => ?_⟩, hk⟩
    subst e
    exact hx rfl rfl rfl
  have HAX : Hid (∀ W g1 c1 g2 c2, Vld s → Row W g1 0 (turnS s 0).l → Row W g2 0 s.l → Calls Try.prog 44 #[stv (turnS s 0) (.slice (some ⟨g1, 0, none⟩) s.l.length c1), stv s (.slice (some ⟨g2, 0, none⟩) s.l.length c2)] W fun e w' => e = .returned (.bool true) ∧ Below W.heap.size W w') := fun W g1 c1 g2 c2 hv r1 r2 => by
    have h3 := hv.2.1.1
    have h0 := turn_zero hv.2.1
    refine (alike_any s.nm g1 0 c1 g2 0 c2 (turnS s 0).l s.l s.l.length s.dp s.dn _ _ _ _ W r1 r2 (turn_len s 0) rfl (by omega) (by omega)).mono fun e w' ⟨⟨bb, he, hx⟩, hk⟩ => ⟨?_, hk⟩
    rw [he, hx (by rw [h0]) (by rw [h0]) (by rw [h0])]
  have HT1 : Hid (∀ W v k, k < 4 → Vld s → Pts W v (turnS s k).l → Calls Try.prog 29 #[stv (turnS s k) v, .int .i64 1] W fun e w' => (∃ g c, e = .returned (.tuple #[stv (turnS s ((k + 1) % 4)) (.slice (some ⟨g, 0, none⟩) s.l.length c), .int .i64 0]) ∧ Own w' W.heap.size (.slice (some ⟨g, 0, none⟩) s.l.length c) (turnS s ((k + 1) % 4)).l) ∧ Below W.heap.size W w') := fun W v k hk hv hp => by
    have h := HT2.out W v k 1 (by omega) (by omega) hv hp
    have e : cmpW k 1 = (k + 1) % 4 := by unfold cmpW; rw [if_pos (by omega), if_pos hk]
    rw [e] at h
    exact h
  have HT4 : Hid (∀ W v, Vld s → Pts W v s.l → Calls Try.prog 29 #[stv s v, .int .i64 4] W fun e w' => (∃ g c, e = .returned (.tuple #[stv (turnS s 4) (.slice (some ⟨g, 0, none⟩) s.l.length c), .int .i64 0]) ∧ Own w' W.heap.size (.slice (some ⟨g, 0, none⟩) s.l.length c) (turnS s 4).l) ∧ Below W.heap.size W w') := fun W v hv hp => HT.out W v 4 (by omega) hv hp
  have HTZ : Hid (∀ W v, Vld s → Pts W v s.l → Calls Try.prog 29 #[stv s v, .int .i64 0] W fun e w' => (∃ g c, e = .returned (.tuple #[stv (turnS s 0) (.slice (some ⟨g, 0, none⟩) s.l.length c), .int .i64 0]) ∧ Own w' W.heap.size (.slice (some ⟨g, 0, none⟩) s.l.length c) (turnS s 0).l) ∧ Below W.heap.size W w') := fun W v hv hp => HT.out W v 0 (by omega) hv hp
  have HT44 : Hid (∀ W v, Vld s → Pts W v (turnS s 4).l → Calls Try.prog 29 #[stv (turnS s 4) v, .int .i64 4] W fun e w' => (∃ g c, e = .returned (.tuple #[stv (turnS s 0) (.slice (some ⟨g, 0, none⟩) s.l.length c), .int .i64 0]) ∧ Own w' W.heap.size (.slice (some ⟨g, 0, none⟩) s.l.length c) (turnS s 0).l) ∧ Below W.heap.size W w') := fun W v hv hp => HT2.out W v 4 4 (by omega) (by omega) hv hp
  have H0 : Hid (Vld s → turnS s 0 = s) := fun hv => turn_zero hv.2.1
  have HLN : Hid (Vld s → 3 ≤ s.l.length ∧ s.l.length ≤ 12) := fun hv => hv.2.1.1
  have hlm1 := hlm
  unfold maxLen at hlm1
  have HCW : Hid (∀ k m, cmpW k m < 8) := fun k m => cmpW_lt
  have k1 := bl1 w (.cells (c6 s.nm (.slice p s.l.length c) s.dp s.dn s.gx s.gz) 26)
  have b1 : Blk w.heap.size (c6 s.nm (.slice p s.l.length c) s.dp s.dn s.gx s.gz) 26 (w.alloc (.cells (c6 s.nm (.slice p s.l.length c) s.dp s.dn s.gx s.gz) 26)) := Blk.new w _ 26
  have HB1 : Hid (∀ W, Below (w.alloc (.cells (c6 s.nm (.slice p s.l.length c) s.dp s.dn s.gx s.gz) 26)).heap.size (w.alloc (.cells (c6 s.nm (.slice p s.l.length c) s.dp s.dn s.gx s.gz) 26)) W → Blk w.heap.size (c6 s.nm (.slice p s.l.length c) s.dp s.dn s.gx s.gz) 26 W ∧ Below w.heap.size w W) := fun W k => ⟨b1.below k, Below.thru k1 k1.size k⟩
  have K1 := Lib.hid k1
  clear b1 k1 hlm
  -- a turned stone's numbers
  have HTG : Hid (∀ k, stv (turnS s k) = fun v => .agg (c6 s.nm v s.dp s.dn (turnS s k).gx (turnS s k).gz)) := fun k => rfl
  have HSG : stv s = fun v => .agg (c6 s.nm v s.dp s.dn s.gx s.gz) := rfl
  rw [HSG] at HV HS HT HW1 HT4 HTZ HAX ⊢
  simp only [HTG.out] at HT HT2 HW2 HA HAX HT1 HT4 HTZ HT44
  by_cases h20 : 20 < s.l.length
  · go_enter Try.func10, Try.ntmps10
    go_wp2_with fail
    refine (wakes_any _).mono ?_
    rintro e wd ⟨rfl, hbd⟩
    have k8 := Below.thru K1.out K1.out.size hbd
    clear hbd
    go_wp2
    go_ret
    exact ⟨rfl, k8⟩
  · go_enter Try.func10, Try.ntmps10
    go_wp2_with fail
    refine (HV.out _ K1.out (by omega)).mono ?_
    rintro e w2 ⟨⟨bv, rfl, hbv⟩, hb2⟩
    have K2 := Lib.hid hb2
    have HBV := Lib.hid hbv
    clear hb2 hbv
    cases bv with
    | false =>
      go_wp2_with fail
      refine (wakes_any _).mono ?_
      rintro e wd ⟨rfl, hbd⟩
      have k8 := (HB1.out _ (Below.thru K2.out K2.out.size hbd)).2
      clear hbd
      go_wp2
      go_ret
      exact ⟨rfl, k8⟩
    | true =>
      have HV1 : Hid (Vld s) := HBV.out.1 rfl
      have hl := HLN.out HV1.out
      have q2 := HB1.out _ K2.out
      have s0 := q2.1.cell (i := 0) rfl; have s1 := q2.1.cell (i := 1) rfl; have s2 := q2.1.cell (i := 2) rfl; have s3 := q2.1.cell (i := 3) rfl; have s4 := q2.1.cell (i := 4) rfl; have s5 := q2.1.cell (i := 5) rfl
      have KW2 := Lib.hid q2.2
      clear q2
      go_wp2_with fail
      refine (HS.out w2 KW2.out HV1.out).mono ?_
      rintro e w3 ⟨⟨g5, c5, rfl, ho5⟩, hb3⟩
      clear s0 s1 s2 s3 s4 s5
      obtain ⟨n, hnn⟩ : ∃ n, n = s.l.length := ⟨_, rfl⟩
      rw [← hnn] at hl
      have HNL := Lib.hid hnn.symm
      have hl0 : 0 < n := by omega
      have hlM : n ≤ 1000000 := by omega
      have X5 : Hid (Bxd s n w3.heap.size g5 c5 (w3.alloc (.cells (c6 s.nm (.slice (some ⟨g5, 0, none⟩) s.l.length c5) s.dp s.dn s.gx s.gz) 34))) := by
        refine ⟨?_, (own_row ho5).keep (bl1 _ _), hnn.symm⟩
        rw [hnn]
        exact Blk.new w3 _ 34
      have K3 := Lib.hid (Below.thru KW2.out KW2.out.size (Below.thru hb3 hb3.size (bl1 w3 (.cells (c6 s.nm (.slice (some ⟨g5, 0, none⟩) s.l.length c5) s.dp s.dn s.gx s.gz) 34))))
      clear ho5 hb3
      rw [← hnn] at HT HT2 HA HAX HT1 HT4 HTZ HT44 X5 K3 ⊢
      clear hnn HS HV
      go_wp2_with fail
      generalize w3.alloc (.cells (c6 s.nm (.slice (some ⟨g5, 0, none⟩) n c5) s.dp s.dn s.gx s.gz) 34) = w4 at *
      refine (HT.out w4 _ va hva8 HV1.out (X5.out.pts hl0 hlM)).mono ?_
      rintro e w5 ⟨⟨ga, ca, rfl, hoa⟩, hb5⟩
      have XA : Hid (Bxd (turnS s va) n w5.heap.size ga ca (w5.alloc (.cells (c6 s.nm (.slice (some ⟨ga, 0, none⟩) n ca) s.dp s.dn (turnS s va).gx (turnS s va).gz) 34))) := ⟨Blk.new w5 _ 34, (own_row hoa).keep (bl1 _ _), by rw [turn_len]; exact HNL.out⟩
      have K56 := Lib.hid (Below.thru hb5 hb5.size (bl1 w5 (.cells (c6 s.nm (.slice (some ⟨ga, 0, none⟩) n ca) s.dp s.dn (turnS s va).gx (turnS s va).gz) 34)))
      clear hoa hb5
      go_wp2_with fail
      generalize w5.alloc (.cells (c6 s.nm (.slice (some ⟨ga, 0, none⟩) n ca) s.dp s.dn (turnS s va).gx (turnS s va).gz) 34) = w6 at *
      refine (HT2.out w6 _ va vb hva8 hvb8 HV1.out (XA.out.pts hl0 hlM)).mono ?_
      rintro e w7 ⟨⟨gb, cb, rfl, hob⟩, hb7⟩
      have hcc : cmpW va vb < 8 := HCW.out va vb
      obtain ⟨cc, hcce⟩ : ∃ cc, cc = cmpW va vb := ⟨_, rfl⟩
      rw [← hcce] at hcc hob ⊢
      clear hcce
      have XB : Hid (Bxd (turnS s cc) n w7.heap.size gb cb (w7.alloc (.cells (c6 s.nm (.slice (some ⟨gb, 0, none⟩) n cb) s.dp s.dn (turnS s cc).gx (turnS s cc).gz) 34))) := ⟨Blk.new w7 _ 34, (own_row hob).keep (bl1 _ _), by rw [turn_len]; exact HNL.out⟩
      have K48 := Lib.hid (Below.thru K56.out K56.out.size (Below.thru hb7 hb7.size (bl1 w7 (.cells (c6 s.nm (.slice (some ⟨gb, 0, none⟩) n cb) s.dp s.dn (turnS s cc).gx (turnS s cc).gz) 34))))
      clear hob hb7 XA
      have x8 := X5.out.keep K48.out
      have s0 := x8.b.cell (i := 0) rfl; have s1 := x8.b.cell (i := 1) rfl; have s2 := x8.b.cell (i := 2) rfl; have s3 := x8.b.cell (i := 3) rfl; have s4 := x8.b.cell (i := 4) rfl; have s5 := x8.b.cell (i := 5) rfl
      go_wp2_with fail
      generalize w7.alloc (.cells (c6 s.nm (.slice (some ⟨gb, 0, none⟩) n cb) s.dp s.dn (turnS s cc).gx (turnS s cc).gz) 34) = w8 at *
      refine (HW1.out w8 _ HV1.out (x8.pts hl0 hlM)).mono ?_
      rintro e w9 ⟨rfl, hb9⟩
      have xb9 := XB.out.keep hb9
      have K89 := Lib.hid hb9
      clear s0 s1 s2 s3 s4 s5 x8 hb9
      have s0 := xb9.b.cell (i := 0) rfl; have s1 := xb9.b.cell (i := 1) rfl; have s2 := xb9.b.cell (i := 2) rfl; have s3 := xb9.b.cell (i := 3) rfl; have s4 := xb9.b.cell (i := 4) rfl; have s5 := xb9.b.cell (i := 5) rfl
      go_wp2_with fail
      refine (HW2.out w9 _ cc hcc HV1.out (xb9.pts hl0 hlM)).mono ?_
      rintro e w10 ⟨rfl, hb10⟩
      have K8A := Lib.hid (Below.thru K89.out K89.out.size hb10)
      clear s0 s1 s2 s3 s4 s5 xb9 hb10
      have xA := X5.out.keep (Below.thru K48.out K48.out.size K8A.out)
      have xB := XB.out.keep K8A.out
      have HX : Hid (∀ W, Below w10.heap.size w10 W → Bxd s n w3.heap.size g5 c5 W ∧ Bxd (turnS s cc) n w7.heap.size gb cb W ∧ Below w.heap.size w W) := fun W k => ⟨xA.keep k, xB.keep k, Below.thru K3.out K3.out.size (Below.thru K48.out K48.out.size (Below.thru K8A.out K8A.out.size k))⟩
      have u1 := xA.b.cell (i := 1) rfl
      have u2 := xB.b.cell (i := 1) rfl
      have hg5 := xA.r.lt (by rw [xA.hn]; omega)
      have ht5 := xA.b.lt
      generalize tw s.l * s.dp * s.dn = WT at *
      clear xA xB
      go_wp2
      clear u1 u2
      go_loopw [17, 18, 19, 16] (fun i _ _ f wr => ∃ k : Nat, k ≤ 8 ∧ i = .int .i64 k ∧ ∃ bf : Bool, f = .bool bf ∧ Hid (cc < k → bf = true) ∧ Below w10.heap.size w10 wr) (fun i _ _ _ _ => 8 - (intOf i).toNat)
      case atStart => exact ⟨0, by omega, rfl, false, rfl, fun h => absurd h (by omega), Below.refl _ _⟩
      case round =>
        obtain ⟨k, hk, rfl, bf, rfl, HBF, hB⟩ := hrel
        by_cases hk8 : k < 8
        · have x := HX.out _ hB
          have s0 := x.1.b.cell (i := 0) rfl; have s1 := x.1.b.cell (i := 1) rfl; have s2 := x.1.b.cell (i := 2) rfl; have s3 := x.1.b.cell (i := 3) rfl; have s4 := x.1.b.cell (i := 4) rfl; have s5 := x.1.b.cell (i := 5) rfl
          have KR := Lib.hid hB
          clear hB
          go_wp2_with fail
          refine (HT.out wr _ k hk8 HV1.out (x.1.pts hl0 hlM)).mono ?_
          rintro e w11 ⟨⟨gk, ck, rfl, hok⟩, hb11⟩
          have XK : Hid (Bxd (turnS s k) n w11.heap.size gk ck (w11.alloc (.cells (c6 s.nm (.slice (some ⟨gk, 0, none⟩) n ck) s.dp s.dn (turnS s k).gx (turnS s k).gz) 34))) := ⟨Blk.new w11 _ 34, (own_row hok).keep (bl1 _ _), by rw [turn_len]; exact HNL.out⟩
          have hb12 := Below.thru hb11 hb11.size (bl1 w11 (.cells (c6 s.nm (.slice (some ⟨gk, 0, none⟩) n ck) s.dp s.dn (turnS s k).gx (turnS s k).gz) 34))
          have K12 := Lib.hid (Below.thru KR.out KR.out.size hb12)
          clear hok hb11 hb12 x s0 s1 s2 s3 s4 s5
          cases bf with
          | true =>
            have hB2 := K12.out
            go_wp2
            go_roundw
            case rel => exact ⟨k + 1, by omega, by go_num, true, rfl, fun _ => rfl, hB2⟩
            case measure => simp [intOf]; omega
          | false =>
            have x2 := HX.out _ K12.out
            have s0 := x2.2.1.b.cell (i := 0) rfl; have s1 := x2.2.1.b.cell (i := 1) rfl; have s2 := x2.2.1.b.cell (i := 2) rfl; have s3 := x2.2.1.b.cell (i := 3) rfl; have s4 := x2.2.1.b.cell (i := 4) rfl; have s5 := x2.2.1.b.cell (i := 5) rfl
            go_wp2_with fail
            generalize w11.alloc (.cells (c6 s.nm (.slice (some ⟨gk, 0, none⟩) n ck) s.dp s.dn (turnS s k).gx (turnS s k).gz) 34) = w12 at *
            refine (HA.out w12 k cc _ _ _ _ HV1.out XK.out.r x2.2.1.r).mono ?_
            rintro e w13 ⟨⟨bb, rfl, hbb⟩, hb13⟩
            have hB2 := Below.thru K12.out K12.out.size hb13
            have HBB := Lib.hid hbb
            clear x2 hb13 hbb s0 s1 s2 s3 s4 s5
            go_wp2
            go_roundw
            case rel => exact ⟨k + 1, by omega, by go_num, bb, rfl, fun h => HBB.out (by rcases Nat.lt_or_ge cc k with q | q; exact absurd (HBF.out q) (by decide); omega), hB2⟩
            case measure => simp [intOf]; omega
        · obtain rfl : k = 8 := by omega
          obtain rfl : bf = true := HBF.out hcc
          have x := HX.out _ hB
          have s0 := x.1.b.cell (i := 0) rfl; have s1 := x.1.b.cell (i := 1) rfl; have s2 := x.1.b.cell (i := 2) rfl; have s3 := x.1.b.cell (i := 3) rfl; have s4 := x.1.b.cell (i := 4) rfl; have s5 := x.1.b.cell (i := 5) rfl
          have hszr : w10.heap.size ≤ wr.heap.size := hB.size
          have x14 := x.1.keep (bl1 wr (.cells (c6 s.nm (.slice (some ⟨g5, 0, none⟩) n c5) s.dp s.dn s.gx s.gz) 34))
          have k14 := Below.thru x.2.2 x.2.2.size (bl1 wr (.cells (c6 s.nm (.slice (some ⟨g5, 0, none⟩) n c5) s.dp s.dn s.gx s.gz) 34))
          have X20 : Hid (Bxd (turnS s 0) n wr.heap.size g5 c5 (wr.alloc (.cells (c6 s.nm (.slice (some ⟨g5, 0, none⟩) n c5) s.dp s.dn s.gx s.gz) 34))) := by
            rw [H0.out HV1.out]
            exact ⟨Blk.new wr _ 34, x14.r, x14.hn⟩
          have hs14 : (wr.alloc (.cells (c6 s.nm (.slice (some ⟨g5, 0, none⟩) n c5) s.dp s.dn s.gx s.gz) 34)).heap.size = wr.heap.size + 1 := by simp
          clear hB x
          go_wp2
          clear s0 s1 s2 s3 s4 s5
          generalize wr.alloc (.cells (c6 s.nm (.slice (some ⟨g5, 0, none⟩) n c5) s.dp s.dn s.gx s.gz) 34) = w14 at *
          generalize hTT : wr.heap.size = T20 at *
          have HX14 : Hid (∀ W, Below T20 w14 W → Bxd s n w3.heap.size g5 c5 W ∧ Below w.heap.size w W) := fun W kk => ⟨x14.under kk (by omega) (by omega), k14.trans (kk.mono (by have := (HX.out w10 (Below.refl _ _)).2.2.size; omega))⟩
          clear x14 k14 hTT
          go_loopw [22, 21] (fun i f wq => ∃ k : Nat, k ≤ 4 ∧ i = .int .i64 k ∧ f = .int .i64 0 ∧ Hid (∃ gk ck, Bxd (turnS s (k % 4)) n T20 gk ck wq) ∧ Below T20 w14 wq) (fun i _ _ => 4 - (intOf i).toNat)
          case atStart => exact ⟨0, by omega, rfl, rfl, ⟨_, _, X20.out⟩, Below.refl _ _⟩
          case round =>
            obtain ⟨k, hk, rfl, rfl, HBK, hB⟩ := hrel
            have hszq : T20 + 1 ≤ wr.heap.size := by have := hB.size; omega
            obtain ⟨gk, ck, hbk⟩ := HBK.out
            by_cases hk4 : k < 4
            · have hk44 : k % 4 = k := Nat.mod_eq_of_lt hk4
              rw [hk44] at hbk
              have s0 := hbk.b.cell (i := 0) rfl; have s1 := hbk.b.cell (i := 1) rfl; have s2 := hbk.b.cell (i := 2) rfl; have s3 := hbk.b.cell (i := 3) rfl; have s4 := hbk.b.cell (i := 4) rfl; have s5 := hbk.b.cell (i := 5) rfl
              have KR := Lib.hid hB
              clear hB
              go_wp2_with fail
              refine (HT1.out wr _ k hk4 HV1.out (hbk.pts hl0 hlM)).mono ?_
              rintro e w15 ⟨⟨gm, cm, rfl, hom⟩, hb15⟩
              have bk15 := hbk.b.below hb15
              have HOM := Lib.hid hom
              have HBK15 := Lib.hid bk15
              have K15 := Lib.hid (KR.out.trans (hb15.mono (by omega)))
              have hs15 := hb15.size
              clear s0 s1 s2 s3 s4 s5 hom hb15
              have s0 := bk15.cell (i := 0) rfl; have s1 := bk15.cell (i := 1) rfl; have s2 := bk15.cell (i := 2) rfl; have s3 := bk15.cell (i := 3) rfl; have s4 := bk15.cell (i := 4) rfl; have s5 := bk15.cell (i := 5) rfl
              have z0 := bk15.frozen 0; have z1 := bk15.frozen 1; have z2 := bk15.frozen 2; have z3 := bk15.frozen 3; have z4 := bk15.frozen 4; have z5 := bk15.frozen 5
              clear bk15 hbk HBK
              go_wp2
              go_roundw
              case rel =>
                refine ⟨k + 1, by omega, by go_num, rfl, ⟨gm, cm, HBK15.out.set6, own_row (HOM.out.far6 (by omega) _ _ _ _ _ _), by rw [turn_len]; exact HNL.out⟩, below6 K15.out (Nat.le_refl _) _ _ _ _ _ _⟩
              case measure => simp [intOf]; omega
            · obtain rfl : k = 4 := by omega
              have XR := Lib.hid hbk
              have KR := Lib.hid hB
              have x := HX14.out _ hB
              have s0 := x.1.b.cell (i := 0) rfl; have s1 := x.1.b.cell (i := 1) rfl; have s2 := x.1.b.cell (i := 2) rfl; have s3 := x.1.b.cell (i := 3) rfl; have s4 := x.1.b.cell (i := 4) rfl; have s5 := x.1.b.cell (i := 5) rfl
              clear hbk HBK hB
              go_wp2_with fail
              refine (HT4.out wr _ HV1.out (x.1.pts hl0 hlM)).mono ?_
              rintro e w16 ⟨⟨g1, c1, rfl, ho1⟩, hb16⟩
              clear s0 s1 s2 s3 s4 s5 x
              have X1 : Hid (Bxd (turnS s 4) n w16.heap.size g1 c1 (w16.alloc (.cells (c6 s.nm (.slice (some ⟨g1, 0, none⟩) n c1) s.dp s.dn (turnS s 4).gx (turnS s 4).gz) 34))) := ⟨Blk.new w16 _ 34, (own_row ho1).keep (bl1 _ _), by rw [turn_len]; exact HNL.out⟩
              have K17 := Lib.hid (Below.thru hb16 hb16.size (bl1 w16 (.cells (c6 s.nm (.slice (some ⟨g1, 0, none⟩) n c1) s.dp s.dn (turnS s 4).gx (turnS s 4).gz) 34)))
              clear ho1 hb16
              go_wp2_with fail
              generalize w16.alloc (.cells (c6 s.nm (.slice (some ⟨g1, 0, none⟩) n c1) s.dp s.dn (turnS s 4).gx (turnS s 4).gz) 34) = w17 at *
              refine (HT44.out w17 _ HV1.out (X1.out.pts hl0 hlM)).mono ?_
              rintro e w18 ⟨⟨g2, c2, rfl, ho2⟩, hb18⟩
              have X2 : Hid (Bxd (turnS s 0) n w18.heap.size g2 c2 (w18.alloc (.cells (c6 s.nm (.slice (some ⟨g2, 0, none⟩) n c2) s.dp s.dn (turnS s 0).gx (turnS s 0).gz) 34))) := ⟨Blk.new w18 _ 34, (own_row ho2).keep (bl1 _ _), by rw [turn_len]; exact HNL.out⟩
              have K19 := Lib.hid (Below.thru K17.out K17.out.size (Below.thru hb18 hb18.size (bl1 w18 (.cells (c6 s.nm (.slice (some ⟨g2, 0, none⟩) n c2) s.dp s.dn (turnS s 0).gx (turnS s 0).gz) 34))))
              have x := HX14.out _ (KR.out.trans (K19.out.mono (by omega)))
              have s0 := x.1.b.cell (i := 0) rfl; have s1 := x.1.b.cell (i := 1) rfl; have s2 := x.1.b.cell (i := 2) rfl; have s3 := x.1.b.cell (i := 3) rfl; have s4 := x.1.b.cell (i := 4) rfl; have s5 := x.1.b.cell (i := 5) rfl
              clear ho2 hb18
              go_wp2_with fail
              generalize w18.alloc (.cells (c6 s.nm (.slice (some ⟨g2, 0, none⟩) n c2) s.dp s.dn (turnS s 0).gx (turnS s 0).gz) 34) = w19 at *
              refine (HTZ.out w19 _ HV1.out (x.1.pts hl0 hlM)).mono ?_
              rintro e w20 ⟨⟨g3, c3, rfl, ho3⟩, hb20⟩
              clear s0 s1 s2 s3 s4 s5 x
              obtain ⟨w21, hw21⟩ : ∃ w21, w21 = w20.alloc (.cells (c6 s.nm (.slice (some ⟨g3, 0, none⟩) n c3) s.dp s.dn (turnS s 0).gx (turnS s 0).gz) 34) := ⟨_, rfl⟩
              have X3 : Hid (Bxd (turnS s 0) n w20.heap.size g3 c3 w21) := by rw [hw21]; exact ⟨Blk.new w20 _ 34, (own_row ho3).keep (bl1 _ _), by rw [turn_len]; exact HNL.out⟩
              have hb1921 : Below w19.heap.size w19 w21 := by rw [hw21]; exact Below.thru hb20 hb20.size (bl1 w20 _)
              have K21 := Lib.hid (Below.thru K19.out K19.out.size hb1921)
              have XR2 := Lib.hid (XR.out.keep K21.out)
              have X22 := Lib.hid (X2.out.keep hb1921)
              have HXF : Hid (∀ W, Below w21.heap.size w21 W → Bxd s n w3.heap.size g5 c5 W ∧ Below w.heap.size w W ∧ Bxd (turnS s 0) n T20 gk ck W ∧ Bxd (turnS s 0) n w18.heap.size g2 c2 W ∧ Bxd (turnS s 0) n w20.heap.size g3 c3 W) := fun W kk => by
                have h := HX14.out W (KR.out.trans ((Below.thru K21.out K21.out.size kk).mono (by omega)))
                exact ⟨h.1, h.2, XR2.out.keep kk, X22.out.keep kk, X3.out.keep kk⟩
              have HW21 := Lib.hid hw21
              have x := HXF.out _ (Below.refl _ _)
              have s0 := x.1.b.cell (i := 0) rfl; have s1 := x.1.b.cell (i := 1) rfl; have s2 := x.1.b.cell (i := 2) rfl; have s3 := x.1.b.cell (i := 3) rfl; have s4 := x.1.b.cell (i := 4) rfl; have s5 := x.1.b.cell (i := 5) rfl
              have t0 := x.2.2.1.b.cell (i := 0) rfl; have t1 := x.2.2.1.b.cell (i := 1) rfl; have t2 := x.2.2.1.b.cell (i := 2) rfl; have t3 := x.2.2.1.b.cell (i := 3) rfl; have t4 := x.2.2.1.b.cell (i := 4) rfl; have t5 := x.2.2.1.b.cell (i := 5) rfl
              rw [hw21] at s0 s1 s2 s3 s4 s5 t0 t1 t2 t3 t4 t5
              clear ho3 hb20 hb1921 hw21 hszq
              go_wp2_with fail
              rw [← HW21.out]
              refine (HAX.out w21 _ _ _ _ HV1.out x.2.2.1.r x.1.r).mono ?_
              rintro e w22 ⟨rfl, hb22⟩
              have K22 := Lib.hid hb22
              clear s0 s1 s2 s3 s4 s5 t0 t1 t2 t3 t4 t5 x hb22
              have x := HXF.out _ K22.out
              have s0 := x.1.b.cell (i := 0) rfl; have s1 := x.1.b.cell (i := 1) rfl; have s2 := x.1.b.cell (i := 2) rfl; have s3 := x.1.b.cell (i := 3) rfl; have s4 := x.1.b.cell (i := 4) rfl; have s5 := x.1.b.cell (i := 5) rfl
              have t0 := x.2.2.2.1.b.cell (i := 0) rfl; have t1 := x.2.2.2.1.b.cell (i := 1) rfl; have t2 := x.2.2.2.1.b.cell (i := 2) rfl; have t3 := x.2.2.2.1.b.cell (i := 3) rfl; have t4 := x.2.2.2.1.b.cell (i := 4) rfl; have t5 := x.2.2.2.1.b.cell (i := 5) rfl
              go_wp2_with fail
              refine (HAX.out w22 _ _ _ _ HV1.out x.2.2.2.1.r x.1.r).mono ?_
              rintro e w23 ⟨rfl, hb23⟩
              have K23 := Lib.hid (Below.thru K22.out K22.out.size hb23)
              clear s0 s1 s2 s3 s4 s5 t0 t1 t2 t3 t4 t5 x hb23
              have x := HXF.out _ K23.out
              have s0 := x.1.b.cell (i := 0) rfl; have s1 := x.1.b.cell (i := 1) rfl; have s2 := x.1.b.cell (i := 2) rfl; have s3 := x.1.b.cell (i := 3) rfl; have s4 := x.1.b.cell (i := 4) rfl; have s5 := x.1.b.cell (i := 5) rfl
              have t0 := x.2.2.2.2.b.cell (i := 0) rfl; have t1 := x.2.2.2.2.b.cell (i := 1) rfl; have t2 := x.2.2.2.2.b.cell (i := 2) rfl; have t3 := x.2.2.2.2.b.cell (i := 3) rfl; have t4 := x.2.2.2.2.b.cell (i := 4) rfl; have t5 := x.2.2.2.2.b.cell (i := 5) rfl
              go_wp2_with fail
              refine (HAX.out w23 _ _ _ _ HV1.out x.2.2.2.2.r x.1.r).mono ?_
              rintro e w24 ⟨rfl, hb24⟩
              have K24 := Lib.hid (Below.thru K23.out K23.out.size hb24)
              clear s0 s1 s2 s3 s4 s5 t0 t1 t2 t3 t4 t5 x hb24
              go_wp2_with fail
              refine (wakes_any _).mono ?_
              rintro e wd ⟨rfl, hbd⟩
              have k8 := (HXF.out _ (Below.thru K24.out K24.out.size hbd)).2.1
              clear hbd
              go_wp2
              go_ret
              exact ⟨rfl, k8⟩
end Go.Proofs.Ytljmhejljpfaiaa
