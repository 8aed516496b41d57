import Derived.Test.YtljmhejljpfaiaaIe
import Derived.Test.YtljmhejljpfaiaaCe
namespace Go.Proofs.Ytljmhejljpfaiaa
set_option maxRecDepth 100000
open Go.RowKit Go.Shelf

/-! StoneOutcomes -/
theorem outc_len {l : List Pt} {gx gz x z t : Int} (ht : Tr l) (h3 : 3 ≤ l.length) (h12 : l.length ≤ 12) (hx : Bx l) (hp : IsP l x z) : (outc l gx gz (x, z) t).length ≤ 24000 := by
  have h1 := ouR_oth ht h3 (p := (x, z)) hp (okq l gx gz (x, z) t)
  have h2 := ouR_len (bp l) (ixL (bp l) (x, z) (bp l).length) (okq l gx gz (x, z) t) ((bp l).length - 1)
  rw [h1] at h2
  have := bp_len2 ht h3 h12 hx
  unfold outc
  omega
theorem outc_mem {l : List Pt} {gx gz x z t : Int} (ht : Tr l) (h3 : 3 ≤ l.length) (hp : IsP l x z) {q : Pt} (h : q ∈ outc l gx gz (x, z) t) : IsP l q.1 q.2 ∧ CanC l x z q.1 q.2 := by
  unfold outc at h
  obtain ⟨h1, h2⟩ := List.mem_filter.1 h
  obtain ⟨X, Y, e, _, _, ho⟩ := oth_split ht h3 (p := (x, z)) hp
  refine ⟨(bp_mem ht h3 q).1 ?_, ?_⟩
  · rw [ho] at h1
    rw [e]
    rcases List.mem_append.1 h1 with h | h
    · exact List.mem_append_right _ (List.mem_cons_of_mem _ h)
    · exact List.mem_append_left _ h
  · unfold okq at h2
    rw [Bool.and_eq_true] at h2
    exact (canB_iff l (x, z) q).1 h2.2
theorem blowE_one {s : SV} {x z t a b : Int} (h1 : BlowE s x z t a) (h2 : BlowE s x z t b) : a = b := by
  unfold BlowE at h1 h2
  rcases h1 with ⟨p1, q1⟩ | ⟨p1, p2, q1⟩ | ⟨⟨p1, p2⟩, p3, q1⟩ | ⟨⟨p1, p2⟩, p3, q1⟩ <;>
  rcases h2 with ⟨r1, s1⟩ | ⟨r1, r2, s1⟩ | ⟨⟨r1, r2⟩, r3, s1⟩ | ⟨⟨r1, r2⟩, r3, s1⟩ <;>
  first | (exact absurd r1 p1) | (exact absurd p1 r1) | (exact absurd r2 p2) | (exact absurd p2 r2) | (exact absurd r3 p3) | (exact absurd p3 r3) | (rw [q1, s1])
theorem field24_0 (x y : Value) (W : World) : (Instr.field 24 (.agg #[x, y]) 0).run Try.prog W = .ok x W := by kernel_rfl
theorem field24_1 (x y : Value) (W : World) : (Instr.field 24 (.agg #[x, y]) 1).run Try.prog W = .ok y W := by kernel_rfl
set_option maxHeartbeats 32000000 in
theorem outcomesL_any (s : SV) (p : Option Addr) (c : Nat) (x z t : Int) (w : World) (hn : s.nm.size ≤ maxLen) (hlm : s.l.length ≤ maxLen) (h : s.l.length ≤ 1000000 → Pts w (.slice p s.l.length c) s.l) : Calls Try.prog 8 #[stv s (.slice p s.l.length c), .agg #[.int .i64 x, .int .i64 z], .int .i64 t] w (PT w) := by
  have HS := Lib.hid (fun W (k : Below w.heap.size w W) (hm : s.l.length ≤ 1000000) => stonev_any s (.slice p s.l.length c) W ((h hm).keep k) hm)
  have HV := Lib.hid (fun W (k : Below w.heap.size w W) (hm : s.l.length ≤ 1000000) => validv_any s (.slice p s.l.length c) W hn ((h hm).keep k))
  have HO1 := Lib.hid (fun W v (hp : Pts W v s.l) => outcomes_any s v x z t W hn hp)
  have HO2 := Lib.hid (fun W v (hp : Pts W v s.l) => sure_any s v x z t W hn hp)
  have HPT := Lib.hid h
  have hn1 := hn
  obtain ⟨nm, l, dp, dn, gx, gz⟩ := s
  have HVI : Hid (Vld ⟨nm, l, dp, dn, gx, gz⟩ → (3 ≤ l.length ∧ l.length ≤ 12) ∧ Bx l ∧ Tr l ∧ ((-100 ≤ gx ∧ gx ≤ 100) ∧ (-100 ≤ gz ∧ gz ≤ 100))) := fun h => ⟨h.2.1.1, h.2.1.2.1, h.2.1.tr, h.2.2.2.2.2⟩
  have HSL : Hid (∀ (W : World) (base : Nat) (v : Value), Own W base v l → ∃ a m, v = .slice a l.length m) := fun W base v h => by
    rcases h.row with ⟨rfl, h0⟩ | ⟨g, c, h1, _⟩
    · exact ⟨none, 0, by rw [h0]; rfl⟩
    · exact ⟨_, _, h1⟩
  unfold maxLen at hn1 hlm
  unfold stv at *
  dsimp only at *
  have HP : Hid (∀ (W W' : World) (base : Nat) (v : Value), l.length ≤ 1000000 → Own W base v l → Below W.heap.size W W' → Pts W' v l) := fun W W' base v hb h k => (h.pts (by omega)).keep k
  have HBE : Hid (∀ er, BlowE ⟨nm, l, dp, dn, gx, gz⟩ x z t er ↔ (¬ Vld ⟨nm, l, dp, dn, gx, gz⟩ ∧ er = 2) ∨ (Vld ⟨nm, l, dp, dn, gx, gz⟩ ∧ ¬ IsP l x z ∧ er = 8) ∨ ((Vld ⟨nm, l, dp, dn, gx, gz⟩ ∧ IsP l x z) ∧ ¬ (0 ≤ t ∧ t ≤ 100) ∧ er = 3) ∨ ((Vld ⟨nm, l, dp, dn, gx, gz⟩ ∧ IsP l x z) ∧ (0 ≤ t ∧ t ≤ 100) ∧ er = 0)) := fun _ => Iff.rfl
  -- both answers
  have HAN : Hid (∀ W e W', POu ⟨nm, l, dp, dn, gx, gz⟩ x z t W e W' → ∃ pa na ca er1, e = .returned (.tuple #[.slice pa na ca, .int .i64 er1]) ∧ Below W.heap.size W W' ∧ Hid (BlowE ⟨nm, l, dp, dn, gx, gz⟩ x z t er1 ∧ ((er1 = 0 ∧ Own W' W.heap.size (.slice pa na ca) (outc l gx gz (x, z) t)) ∨ (er1 ≠ 0 ∧ Value.slice pa na ca = .slice none 0 0)))) := by
    rintro W e W' ⟨⟨v', er, he, ⟨a, m, cc, rfl⟩, hb, ho⟩, hk⟩
    exact ⟨a, m, cc, er, he, hk, hb, ho⟩
  have HSN : Hid (∀ W e W', PSu ⟨nm, l, dp, dn, gx, gz⟩ x z t W e W' → ∃ nn er2, e = .returned (.tuple #[.int .i64 nn, .int .i64 er2]) ∧ Below W.heap.size W W' ∧ Hid (∃ er0, BlowE ⟨nm, l, dp, dn, gx, gz⟩ x z t er0 ∧ ((er0 ≠ 0 ∧ er2 = er0 ∧ nn = 0) ∨ (er0 = 0 ∧ outc l gx gz (x, z) t = [] ∧ er2 = 8 ∧ nn = 0) ∨ (er0 = 0 ∧ outc l gx gz (x, z) t ≠ [] ∧ er2 = 0 ∧ nn = sur (grP l (x, z)) (outc l gx gz (x, z) t) (outc l gx gz (x, z) t).length)))) := by
    rintro W e W' ⟨⟨nn, er0, er, he, hb, ho⟩, hk⟩
    exact ⟨nn, er, he, hk, er0, hb, ho⟩
  have HB1E : Hid (∀ a b, BlowE ⟨nm, l, dp, dn, gx, gz⟩ x z t a → BlowE ⟨nm, l, dp, dn, gx, gz⟩ x z t b → a = b) := fun a b h1 h2 => blowE_one h1 h2
  -- the reference, of a valid stone
  have HIB : Hid (∀ W, Below w.heap.size w W → Vld ⟨nm, l, dp, dn, gx, gz⟩ → l.length ≤ 1000000 → Calls Try.prog 39 #[.slice p l.length c, .agg #[.int .i64 x, .int .i64 z]] W (PBt (IsP l x z) W)) := fun W k hv hm => by
    obtain ⟨h3, hbx, htr, _⟩ := HVI.out hv
    obtain ⟨b, o, c', hpe, hrow⟩ := ((HPT.out hm).keep k).some (by show 0 < l.length; omega)
    cases hpe
    exact isBorder_any b o c l x z W hrow h3.1 h3.2 hbx htr
  have HHI : Hid (∀ W, Below w.heap.size w W → Vld ⟨nm, l, dp, dn, gx, gz⟩ → l.length ≤ 1000000 → Calls Try.prog 25 #[.slice p l.length c] W fun e w' => e = .returned (.agg #[.int .i64 (mxx l l.length), .int .i64 (mxz l l.length)]) ∧ Below W.heap.size W w') := fun W k hv hm => by
    obtain ⟨h3, hbx, htr, _⟩ := HVI.out hv
    obtain ⟨b, o, c', hpe, hrow⟩ := ((HPT.out hm).keep k).some (by show 0 < l.length; omega)
    cases hpe
    exact high_any b o c l W hrow (by omega) (by omega)
  have HRO : Hid (∀ W, Below w.heap.size w W → Vld ⟨nm, l, dp, dn, gx, gz⟩ → IsP l x z → (0 ≤ t ∧ t ≤ 100) → l.length ≤ 1000000 → Calls Try.prog 40 #[.agg (c6 nm (.slice p l.length c) dp dn gx gz), .agg #[.int .i64 x, .int .i64 z], .int .i64 t] W fun e w' => (∃ v, e = .returned v ∧ OwnR w' W.heap.size v (outc l gx gz (x, z) t)) ∧ Below W.heap.size W w') := fun W k hv hp ht hm => by
    obtain ⟨h3, hbx, htr, hg⟩ := HVI.out hv
    obtain ⟨b, o, c', hpe, hrow⟩ := ((HPT.out hm).keep k).some (by show 0 < l.length; omega)
    cases hpe
    exact routcomes_any nm b o c l dp dn gx gz x z t W hrow h3.1 h3.2 hbx htr hp hg ht
  have HRS : Hid (∀ W g cq, Below w.heap.size w W → Vld ⟨nm, l, dp, dn, gx, gz⟩ → IsP l x z → l.length ≤ 1000000 → Row W g 0 (outc l gx gz (x, z) t) → 0 < (outc l gx gz (x, z) t).length → Calls Try.prog 41 #[.agg (c6 nm (.slice p l.length c) dp dn gx gz), .agg #[.int .i64 x, .int .i64 z], .slice (some ⟨g, 0, none⟩) (outc l gx gz (x, z) t).length cq] W fun e w' => e = .returned (.int .i64 (sur (grP l (x, z)) (outc l gx gz (x, z) t) (outc l gx gz (x, z) t).length)) ∧ Below W.heap.size W w') := fun W g cq k hv hp hm hrow2 h0 => by
    obtain ⟨h3, hbx, htr, hg⟩ := HVI.out hv
    obtain ⟨b, o, c', hpe, hrow⟩ := ((HPT.out hm).keep k).some (by show 0 < l.length; omega)
    cases hpe
    have hQ := fun q (hq : q ∈ outc l gx gz (x, z) t) => outc_mem htr h3.1 hp hq
    have h := rsure_any nm b o c g cq l (outc l gx gz (x, z) t) dp dn gx gz x z W hrow hrow2 h3.1 h3.2 hbx htr hp hQ h0 (by have := outc_len (gx := gx) (gz := gz) (t := t) htr h3.1 h3.2 hbx hp; omega)
    rw [sur_congr (fun q hq => gr_eq (p := (x, z)) htr h3.1 hp (hQ q hq).1 (hQ q hq).2) _ (Nat.le_refl _)] at h
    exact h
  have HOL : Hid (Vld ⟨nm, l, dp, dn, gx, gz⟩ → IsP l x z → (outc l gx gz (x, z) t).length ≤ 24000) := fun hv hp => by
    obtain ⟨h3, hbx, htr, hg⟩ := HVI.out hv
    exact outc_len htr h3.1 h3.2 hbx hp
  clear h hn HPT HVI
  generalize BlowE ⟨nm, l, dp, dn, gx, gz⟩ x z t = BE at *
  generalize Vld ⟨nm, l, dp, dn, gx, gz⟩ = V at *
  generalize hQQ : outc l gx gz (x, z) t = Q at *
  generalize IsP l x z = IP at *
  generalize sur (grP l (x, z)) Q Q.length = SQ at *
  generalize mxx l l.length = MX at *
  generalize mxz l l.length = MZ at *
  clear hQQ
  obtain ⟨n, hnn⟩ : ∃ n, n = l.length := ⟨_, rfl⟩
  rw [← hnn] at hlm HS HV HSL HP HIB HHI HRO HRS ⊢
  clear hnn
  have k1 := bl2 w (.cells (c6 nm (.slice p n c) dp dn gx gz) 26) (.cells #[.int .i64 x, .int .i64 z] 24)
  have b1 : Blk w.heap.size (c6 nm (.slice p n c) dp dn gx gz) 26 ((w.alloc (.cells (c6 nm (.slice p n c) dp dn gx gz) 26)).alloc (.cells #[.int .i64 x, .int .i64 z] 24)) ∧ B2 (w.heap.size + 1) x z ((w.alloc (.cells (c6 nm (.slice p n c) dp dn gx gz) 26)).alloc (.cells #[.int .i64 x, .int .i64 z] 24)) := ⟨(Blk.new w _ 26).alloc _, ⟨by simp [go_sem], by simp [go_sem], by simp [go_sem], by simp [go_sem]⟩⟩
  have HB1 : Hid (∀ W, Below ((w.alloc (.cells (c6 nm (.slice p n c) dp dn gx gz) 26)).alloc (.cells #[.int .i64 x, .int .i64 z] 24)).heap.size ((w.alloc (.cells (c6 nm (.slice p n c) dp dn gx gz) 26)).alloc (.cells #[.int .i64 x, .int .i64 z] 24)) W → Blk w.heap.size (c6 nm (.slice p n c) dp dn gx gz) 26 W ∧ B2 (w.heap.size + 1) x z W ∧ Below w.heap.size w W) := fun W k => ⟨b1.1.below k, b1.2.keep k, Below.thru k1 k1.size k⟩
  have K1 := Lib.hid k1
  clear b1 k1
  have hcell := (HB1.out _ (Below.refl _ _)).1.cell (i := 1) rfl
  have hcs := (HB1.out _ (Below.refl _ _)).1
  go_enter Try.func8, Try.ntmps8
  go_upto_region 1 with fail
  generalize ((w.alloc (.cells (c6 nm (.slice p n c) dp dn gx gz) 26)).alloc (.cells #[.int .i64 x, .int .i64 z] 24)) = w1 at *
  go_cut [36] (fun cc wx => ∃ bb : Bool, cc = .bool bb ∧ Hid (bb = true ∨ n ≤ 20) ∧ Hid (Below w1.heap.size w1 wx))
  case first =>
    rename_i J K' hJ hK
    by_cases h20 : 20 < n
    · go_wp2
      all_goals
        refine Met.intro (hJ _ _ ?_)
        (repeat apply Exists.intro)
        exact ⟨⟨_, rfl, .inl rfl, Below.refl _ _⟩, rfl⟩
    · have s0 := hcs.cell (i := 0) rfl; have s1 := hcs.cell (i := 1) rfl; have s2 := hcs.cell (i := 2) rfl; have s3 := hcs.cell (i := 3) rfl; have s4 := hcs.cell (i := 4) rfl; have s5 := hcs.cell (i := 5) rfl
      go_wp2_with fail
      refine (HV.out _ K1.out (by omega)).mono ?_
      rintro e w2 ⟨⟨bv, rfl, hbv⟩, hb2⟩
      have K2 := Lib.hid hb2
      have HBV := Lib.hid hbv
      clear hb2 hbv s0 s1 s2 s3 s4 s5
      cases bv with
      | false =>
        go_wp2
        all_goals
          refine Met.intro (hJ _ _ ?_)
          (repeat apply Exists.intro)
          exact ⟨⟨_, rfl, .inr (by omega), K2.out⟩, rfl⟩
      | true =>
        have HV1 : Hid V := HBV.out.1 rfl
        have s1 := (HB1.out _ K2.out).1.cell (i := 1) rfl
        have hf0 := fun W => field24_0 (.int .i64 MX) (.int .i64 MZ) W
        have hf1 := fun W => field24_1 (.int .i64 MX) (.int .i64 MZ) W
        go_wp2_with fail
        refine (HHI.out _ (HB1.out _ K2.out).2.2 HV1.out (by omega)).mono ?_
        rintro e w3 ⟨rfl, hb3⟩
        have K3 := Lib.hid (Below.thru K2.out K2.out.size hb3)
        clear hb3 s1
        by_cases g1 : 300 < MX
        · go_wp2
          all_goals
            refine Met.intro (hJ _ _ ?_)
            (repeat apply Exists.intro)
            exact ⟨⟨_, rfl, .inr (by omega), K3.out⟩, rfl⟩
        · have s1 := (HB1.out _ K3.out).1.cell (i := 1) rfl
          go_wp2_with fail
          refine (HHI.out _ (HB1.out _ K3.out).2.2 HV1.out (by omega)).mono ?_
          rintro e w4 ⟨rfl, hb4⟩
          have K4 := Lib.hid (Below.thru K3.out K3.out.size hb4)
          clear hb4 s1
          go_wp2
          all_goals
            refine Met.intro (hJ _ _ ?_)
            (repeat apply Exists.intro)
            exact ⟨⟨_, rfl, .inr (by omega), K4.out⟩, rfl⟩
  obtain ⟨bb, rfl, HBB, HWC⟩ := hcut
  clear hcell hcs HHI
  cases bb with
  | true =>
    go_wp2_with fail
    refine (wakes_any _).mono ?_
    rintro e wd ⟨rfl, hbd⟩
    have k8 := (HB1.out _ (Below.thru HWC.out HWC.out.size hbd)).2.2
    clear hbd
    go_wp2
    go_ret
    exact ⟨rfl, k8⟩
  | false =>
    have h20 : n ≤ 20 := HBB.out.elim (fun h => by cases h) id
    have qc := HB1.out _ HWC.out
    have KW := Lib.hid qc.2.2
    have s0 := qc.1.cell (i := 0) rfl; have s1 := qc.1.cell (i := 1) rfl; have s2 := qc.1.cell (i := 2) rfl; have s3 := qc.1.cell (i := 3) rfl; have s4 := qc.1.cell (i := 4) rfl; have s5 := qc.1.cell (i := 5) rfl
    go_wp2_with fail
    refine (HS.out _ KW.out (by omega)).mono ?_
    rintro e w2 ⟨⟨v5, rfl, ho5⟩, hb2⟩
    have K2 := Lib.hid (Below.thru HWC.out HWC.out.size hb2)
    obtain ⟨a5, c5, rfl⟩ := HSL.out _ _ _ ho5
    have HO5 := Lib.hid ho5
    clear hb2 ho5 qc s0 s1 s2 s3 s4 s5
    obtain ⟨w3, hw3⟩ : ∃ w3, w3 = (w2.alloc (.cells (c6 nm (.slice a5 n c5) dp dn gx gz) 34)).alloc (.cells #[.int .i64 x, .int .i64 z] 32) := ⟨_, rfl⟩
    have hb3 : Below w2.heap.size w2 w3 := by rw [hw3]; exact bl2 w2 _ _
    have K3 := Lib.hid (Below.thru K2.out K2.out.size hb3)
    have b7 : Blk w2.heap.size (c6 nm (.slice a5 n c5) dp dn gx gz) 34 w3 := by rw [hw3]; exact (Blk.new _ _ _).alloc _
    have b8 : B2 (w2.heap.size + 1) x z w3 := by rw [hw3]; exact ⟨by simp [go_sem], by simp [go_sem], by simp [go_sem], by simp [go_sem]⟩
    have HP5 := Lib.hid (HP.out _ _ _ _ (by omega) HO5.out hb3)
    have q3 := HB1.out _ K3.out
    have HBC : Hid (∀ W, Below w3.heap.size w3 W → Blk w.heap.size (c6 nm (.slice p n c) dp dn gx gz) 26 W ∧ B2 (w.heap.size + 1) x z W ∧ (Blk w2.heap.size (c6 nm (.slice a5 n c5) dp dn gx gz) 34 W ∧ B2 (w2.heap.size + 1) x z W) ∧ Below w.heap.size w W) := fun W k => ⟨q3.1.below k, q3.2.1.keep k, ⟨b7.below k, b8.keep k⟩, Below.thru q3.2.2 q3.2.2.size k⟩
    have HW3 := Lib.hid hw3
    have qx := HB1.out _ (Below.thru K2.out K2.out.size (bl1 w2 (.cells (c6 nm (.slice a5 n c5) dp dn gx gz) 34)))
    obtain ⟨e0, e1, _, _⟩ := qx.2.1
    obtain ⟨p0, p1, _, _⟩ := (HB1.out _ K2.out).2.1
    have t0 := b7.cell (i := 0) rfl; have t1 := b7.cell (i := 1) rfl; have t2 := b7.cell (i := 2) rfl; have t3 := b7.cell (i := 3) rfl; have t4 := b7.cell (i := 4) rfl; have t5 := b7.cell (i := 5) rfl
    obtain ⟨r0, r1, _, _⟩ := id b8
    rw [hw3] at t0 t1 t2 t3 t4 t5 r0 r1
    clear hw3 q3 hb3 b7 b8 qx
    go_wp2_with fail
    rw [← HW3.out]
    clear t0 t1 t2 t3 t4 t5 r0 r1 e0 e1 p0 p1
    refine (HO1.out w3 _ HP5.out).mono ?_
    rintro e w4 hx
    obtain ⟨pa, na, ca, er1, rfl, hb4, HA1⟩ := HAN.out _ _ _ hx
    have K4 := Lib.hid hb4
    clear hx hb4
    have q4 := HBC.out _ K4.out
    have t0 := q4.2.2.1.1.cell (i := 0) rfl; have t1 := q4.2.2.1.1.cell (i := 1) rfl; have t2 := q4.2.2.1.1.cell (i := 2) rfl; have t3 := q4.2.2.1.1.cell (i := 3) rfl; have t4 := q4.2.2.1.1.cell (i := 4) rfl; have t5 := q4.2.2.1.1.cell (i := 5) rfl
    obtain ⟨r0, r1, _, _⟩ := q4.2.2.1.2
    clear q4
    go_wp2_with fail
    clear t0 t1 t2 t3 t4 t5 r0 r1
    refine (HO2.out w4 _ (HP5.out.keep K4.out)).mono ?_
    rintro e w5 hx
    obtain ⟨nn, er2, rfl, hb5, HA2⟩ := HSN.out _ _ _ hx
    have K45 := Lib.hid hb5
    have K5 := Lib.hid (Below.thru K4.out K4.out.size hb5)
    have HBQ : Hid (∀ W, Below w5.heap.size w5 W → Blk w.heap.size (c6 nm (.slice p n c) dp dn gx gz) 26 W ∧ B2 (w.heap.size + 1) x z W ∧ True ∧ Below w.heap.size w W) := fun W k => by
      have h := HBC.out W (Below.thru K5.out K5.out.size k)
      exact ⟨h.1, h.2.1, trivial, h.2.2.2⟩
    have HBAD : Hid (∀ er, er ≠ 0 → BE er → er1 = er ∧ Value.slice pa na ca = .slice none 0 0 ∧ er2 = er ∧ nn = 0) := fun er h0 hb => by
      have e1 := HB1E.out _ _ HA1.out.1 hb
      obtain ⟨er0, hb0, h⟩ := HA2.out
      have e2 := HB1E.out _ _ hb0 hb
      refine ⟨e1, ?_, ?_⟩
      · rcases HA1.out.2 with ⟨h, _⟩ | ⟨_, h⟩
        · exact absurd (e1.symm.trans h) h0
        · exact h
      · rcases h with ⟨_, h1, h2⟩ | ⟨h1, _⟩ | ⟨h1, _⟩
        · exact ⟨h1.trans e2, h2⟩
        · exact absurd (e2.symm.trans h1) h0
        · exact absurd (e2.symm.trans h1) h0
    have q5 := HBQ.out _ (Below.refl _ _)
    have s0 := q5.1.cell (i := 0) rfl; have s1 := q5.1.cell (i := 1) rfl; have s2 := q5.1.cell (i := 2) rfl; have s3 := q5.1.cell (i := 3) rfl; have s4 := q5.1.cell (i := 4) rfl; have s5 := q5.1.cell (i := 5) rfl
    have KW5 := Lib.hid q5.2.2.2
    clear hx hb5 q5
    go_wp2_with fail
    refine (HV.out w5 KW5.out (by omega)).mono ?_
    rintro e w6 ⟨⟨bv, rfl, hbv⟩, hb6⟩
    have K6 := Lib.hid hb6
    have HBV := Lib.hid hbv
    clear hb6 hbv s0 s1 s2 s3 s4 s5
    cases bv with
    | false =>
      have hv : ¬ V := fun h => by cases HBV.out.2 h
      have HEE := (HBE.out 2).2 (.inl ⟨hv, rfl⟩)
      clear hv
      obtain ⟨e1, e2, e3, e4⟩ := HBAD.out 2 (by decide) HEE
      subst e1 e3 e4
      cases e2
      clear HEE
      go_wp2_with fail
      refine (wakes_any _).mono ?_
      rintro e wd ⟨rfl, hbd⟩
      have k8 := (HBQ.out _ (Below.thru K6.out K6.out.size hbd)).2.2.2
      clear hbd
      go_wp2
      go_ret
      exact ⟨rfl, k8⟩
    | true =>
      have HV1 : Hid V := HBV.out.1 rfl
      have q6 := HBQ.out _ K6.out
      have s1 := q6.1.cell (i := 1) rfl
      obtain ⟨p0, p1, _, _⟩ := q6.2.1
      have KW6 := Lib.hid q6.2.2.2
      clear q6
      go_wp2_with fail
      refine (HIB.out w6 KW6.out HV1.out (by omega)).mono ?_
      rintro e w7 ⟨⟨bp, rfl, hbp⟩, hb7⟩
      have K7 := Lib.hid (Below.thru K6.out K6.out.size hb7)
      have HBP := Lib.hid hbp
      clear hb7 hbp s1 p0 p1
      cases bp with
      | false =>
        have hp : ¬ IP := fun h => by cases HBP.out.2 h
        have HEE := (HBE.out 8).2 (.inr (.inl ⟨HV1.out, hp, rfl⟩))
        clear hp
        obtain ⟨e1, e2, e3, e4⟩ := HBAD.out 8 (by decide) HEE
        subst e1 e3 e4
        cases e2
        clear HEE
        go_wp2_with fail
        refine (wakes_any _).mono ?_
        rintro e wd ⟨rfl, hbd⟩
        have k8 := (HBQ.out _ (Below.thru K7.out K7.out.size hbd)).2.2.2
        clear hbd
        go_wp2
        go_ret
        exact ⟨rfl, k8⟩
      | true =>
        have HP1 : Hid IP := HBP.out.1 rfl
        have hts : t < 0 ∨ (¬ t < 0 ∧ 100 < t) ∨ (¬ t < 0 ∧ ¬ 100 < t) := by omega
        rcases hts with u1 | ⟨u1, u2⟩ | ⟨u1, u2⟩
        · have HEE := (HBE.out 3).2 (.inr (.inr (.inl ⟨⟨HV1.out, HP1.out⟩, by omega, rfl⟩)))
          obtain ⟨e1, e2, e3, e4⟩ := HBAD.out 3 (by decide) HEE
          subst e1 e3 e4
          cases e2
          clear HEE
          go_wp2_with fail
          refine (wakes_any _).mono ?_
          rintro e wd ⟨rfl, hbd⟩
          have k8 := (HBQ.out _ (Below.thru K7.out K7.out.size hbd)).2.2.2
          clear hbd
          go_wp2
          go_ret
          exact ⟨rfl, k8⟩
        · have HEE := (HBE.out 3).2 (.inr (.inr (.inl ⟨⟨HV1.out, HP1.out⟩, by omega, rfl⟩)))
          obtain ⟨e1, e2, e3, e4⟩ := HBAD.out 3 (by decide) HEE
          subst e1 e3 e4
          cases e2
          clear HEE
          go_wp2_with fail
          refine (wakes_any _).mono ?_
          rintro e wd ⟨rfl, hbd⟩
          have k8 := (HBQ.out _ (Below.thru K7.out K7.out.size hbd)).2.2.2
          clear hbd
          go_wp2
          go_ret
          exact ⟨rfl, k8⟩
        · have htt : 0 ≤ t ∧ t ≤ 100 := by omega
          have HE0 := (HBE.out 0).2 (.inr (.inr (.inr ⟨⟨HV1.out, HP1.out⟩, htt, rfl⟩)))
          obtain rfl : er1 = 0 := HB1E.out _ _ HA1.out.1 HE0
          have HOW : Hid (Own w4 w3.heap.size (.slice pa na ca) Q) := by
            rcases HA1.out.2 with ⟨_, h⟩ | ⟨h, _⟩
            · exact h
            · exact absurd rfl h
          have HAQ : Hid ((Q = [] ∧ er2 = 8 ∧ nn = 0) ∨ (Q ≠ [] ∧ er2 = 0 ∧ nn = SQ)) := by
            obtain ⟨er0, hb0, h⟩ := HA2.out
            have e2 := HB1E.out _ _ hb0 HE0
            rcases h with ⟨h1, _⟩ | ⟨_, h⟩ | ⟨_, h⟩
            · exact absurd e2 h1
            · exact .inl h
            · exact .inr h
          have hql := HOL.out HV1.out HP1.out
          have q7 := HBQ.out _ K7.out
          have s0 := q7.1.cell (i := 0) rfl; have s1 := q7.1.cell (i := 1) rfl; have s2 := q7.1.cell (i := 2) rfl; have s3 := q7.1.cell (i := 3) rfl; have s4 := q7.1.cell (i := 4) rfl; have s5 := q7.1.cell (i := 5) rfl
          obtain ⟨p0, p1, _, _⟩ := q7.2.1
          have KW7 := Lib.hid q7.2.2.2
          have HRO2 := Lib.hid (HRO.out w7 KW7.out HV1.out HP1.out htt (by omega))
          clear q7 htt HE0
          go_wp2_with fail
          refine HRO2.out.mono ?_
          rintro e w8 ⟨⟨v14, rfl, ho14⟩, hb8⟩
          have K8 := Lib.hid (Below.thru K7.out K7.out.size hb8)
          have HO14 := Lib.hid ho14
          have HSM : Hid (Calls Try.prog 33 #[.slice pa na ca, v14] w8 fun e w' => e = .returned (.bool true) ∧ Below w8.heap.size w8 w') :=
            samePoints_any _ _ Q w8 ((HOW.out.pts (by omega)).keep (Below.thru K45.out K45.out.size K8.out)) (HO14.out.pts (by omega)) (by omega)
          clear hb8 ho14 s0 s1 s2 s3 s4 s5 p0 p1
          obtain ⟨a14, m14, c14, rfl⟩ := own_form HO14.out
          go_wp2_with fail
          refine HSM.out.mono ?_
          rintro e w9 ⟨rfl, hb9⟩
          have K89 := Lib.hid hb9
          have K9 := Lib.hid (Below.thru K8.out K8.out.size hb9)
          clear hb9
          rcases HAQ.out with ⟨hQ, rfl, rfl⟩ | ⟨hQ, rfl, rfl⟩
          · obtain rfl : m14 = 0 := by
              have h := HO14.out.row
              rw [hQ] at h
              rcases h with ⟨h, _⟩ | ⟨g, cc, h, _⟩
              · cases h; rfl
              · cases h; rfl
            clear hQ
            go_wp2_with fail
            refine (wakes_any _).mono ?_
            rintro e wd ⟨rfl, hbd⟩
            have k8 := (HBQ.out _ (Below.thru K9.out K9.out.size hbd)).2.2.2
            clear hbd
            go_wp2
            go_ret
            exact ⟨rfl, k8⟩
          · have hq0 : 0 < Q.length := List.length_pos_iff.2 hQ
            obtain ⟨g14, cc14, hve, hrow14, -⟩ := OwnR.at' HO14.out hq0
            cases hve
            have q9 := HBQ.out _ K9.out
            have s0 := q9.1.cell (i := 0) rfl; have s1 := q9.1.cell (i := 1) rfl; have s2 := q9.1.cell (i := 2) rfl; have s3 := q9.1.cell (i := 3) rfl; have s4 := q9.1.cell (i := 4) rfl; have s5 := q9.1.cell (i := 5) rfl
            obtain ⟨p0, p1, _, _⟩ := q9.2.1
            have HRS2 := Lib.hid (fun cc => HRS.out w9 g14 cc q9.2.2.2 HV1.out HP1.out (by omega) (hrow14.keep K89.out) hq0)
            have hqn : ¬ Q.length = 0 := by omega
            clear q9 hQ hrow14
            generalize Q.length = ql at *
            go_wp2_with fail
            refine (HRS2.out _).mono ?_
            rintro e w10 ⟨rfl, hb10⟩
            have K10 := Lib.hid (Below.thru K9.out K9.out.size hb10)
            clear hb10 s0 s1 s2 s3 s4 s5 p0 p1
            go_wp2_with fail
            refine (wakes_any _).mono ?_
            rintro e wd ⟨rfl, hbd⟩
            have k8 := (HBQ.out _ (Below.thru K10.out K10.out.size hbd)).2.2.2
            clear hbd
            go_wp2
            go_ret
            exact ⟨rfl, k8⟩
end Go.Proofs.Ytljmhejljpfaiaa
