import Derived.Test.YtljmhejljpfaiaaIa
import Derived.Test.YtljmhejljpfaiaaGd
import Derived.Test.YtljmhejljpfaiaaGf
import Derived.Test.YtljmhejljpfaiaaDi
namespace Go.Proofs.Ytljmhejljpfaiaa
set_option maxRecDepth 100000
open Go.RowKit Go.Shelf

/-! the reference's Outcomes -/
theorem OwnR.at' {w : World} {base : Nat} {v : Value} {l : List Pt} (h : OwnR w base v l) (h3 : 0 < l.length) : ∃ g c, v = .slice (Option.some ⟨g, 0, Option.none⟩) l.length c ∧ Row w g 0 l ∧ base ≤ g := by
  rcases h.row with ⟨_, h0⟩ | ⟨g, c, h1, hr, hb, _⟩
  · subst h0; simp at h3
  · exact ⟨g, c, h1, hr, hb⟩
theorem ouR_len (L : List Pt) (a : Nat) (f : Pt → Bool) : ∀ k, (ouR L a f k).length ≤ k
  | 0 => Nat.le_refl _
  | k + 1 => by
    have := ouR_len L a f k
    unfold ouR
    rw [List.length_append]
    split
    · simp; omega
    · simp; omega
theorem bp_len2 {l : List Pt} (ht : Tr l) (h3 : 3 ≤ l.length) (h12 : l.length ≤ 12) (hx : Bx l) : (bp l).length ≤ 24000 := by
  have h1 := rbp_len hx l.length (Nat.le_refl _)
  rw [rbp_bp (fun i hi => edge_ne ht h3 hi)] at h1
  have : l.length * 2000 ≤ 12 * 2000 := Nat.mul_le_mul_right _ h12
  omega
theorem bp_bx {l : List Pt} (ht : Tr l) (h3 : 3 ≤ l.length) (hx : Bx l) : Bx (bp l) := fun i hi => by
  have h := (bp_mem ht h3 _).1 (mem_p hi)
  exact h.bd hx
theorem okq_eq (l : List Pt) (gx gz x z t fx fz u v off al : Int) (bc : Bool) (hc : bc = true ↔ CanC l x z fx fz) (hu : fx - x = u) (hv : fz - z = v) (ho : u * gz - v * gx = off) (ha : u * gx + v * gz = al) :
    okq l gx gz (x, z) t (fx, fz) = (bc && decide (100 * (off.natAbs : Int) ≤ t * (al.natAbs : Int))) := by
  have e : canB l (x, z) (fx, fz) = bc := by
    rw [Bool.eq_iff_iff, canB_iff]
    exact hc.symm
  unfold okq agr
  rw [e]
  dsimp only
  rw [hu, hv, ho, ha, Bool.and_comm]
set_option maxHeartbeats 16000000 in
theorem routcomes_any (nm : ByteArray) (b o c : Nat) (l : List Pt) (dp dn gx gz x z t : Int) (w : World) (hr : Row w b o l) (h3 : 3 ≤ l.length) (h12 : l.length ≤ 12) (hx : Bx l) (ht : Tr l) (hp : IsP l x z)
    (hg : (-100 ≤ gx ∧ gx ≤ 100) ∧ (-100 ≤ gz ∧ gz ≤ 100)) (htt : 0 ≤ t ∧ t ≤ 100) :
    Calls Try.prog 40 #[.agg (c6 nm (.slice (some ⟨b, o, none⟩) l.length c) dp dn gx gz), .agg #[.int .i64 x, .int .i64 z], .int .i64 t] w fun e w' =>
      (∃ v, e = .returned v ∧ OwnR w' w.heap.size v (outc l gx gz (x, z) t)) ∧ Below w.heap.size w w' := by
  obtain ⟨i0, hi, hz0, hz1, hz2⟩ := info_parts Try.info24
  have HBO := Lib.hid (fun W (k : Below w.heap.size w W) => rborder_any b o c l W (hr.keep k) (by omega) h12 hx (fun i hi => edge_ne ht h3 hi))
  have hpb := hp.bd hx
  have HAP := Lib.hid (fun W (k : Below w.heap.size w W) fx fz (hf : (0 ≤ fx ∧ fx ≤ 2000) ∧ (0 ≤ fz ∧ fz ≤ 2000)) => apart_any b o c l x z fx fz W (hr.keep k) (by omega) (by omega) hx (by unfold Sm; omega) (by unfold Sm; omega))
  have HOK := Lib.hid (okq_eq l gx gz x z t)
  have HOU := Lib.hid (ouR_oth ht h3 (p := (x, z)) hp (okq l gx gz (x, z) t))
  have HOC : Hid (outc l gx gz (x, z) t = (oth l (x, z)).filter (okq l gx gz (x, z) t)) := rfl
  have hlen := bp_len2 ht h3 h12 hx
  have hpos : 0 < (bp l).length := List.length_pos_of_mem ((bp_mem ht h3 (x, z)).2 hp)
  have HBX := Lib.hid (bp_bx ht h3 hx)
  have HIX0 : Hid (ixL (bp l) (x, z) 0 = 0) := rfl
  have HIX : Hid (∀ k, ixL (bp l) (x, z) (k + 1) = if (bp l).getD k (0, 0) = (x, z) then k else ixL (bp l) (x, z) k) := fun _ => rfl
  have HIXL := Lib.hid (ixL_lt (bp l) (x, z) hpos)
  have HR0 : Hid (∀ a, ouR (bp l) a (okq l gx gz (x, z) t) 0 = []) := fun _ => rfl
  have HRS : Hid (∀ a k, ouR (bp l) a (okq l gx gz (x, z) t) (k + 1) = ouR (bp l) a (okq l gx gz (x, z) t) k ++ (if okq l gx gz (x, z) t ((bp l).getD ((a + (k + 1)) % (bp l).length) (0, 0)) then [(bp l).getD ((a + (k + 1)) % (bp l).length) (0, 0)] else [])) := fun _ _ => rfl
  have HRL := Lib.hid (fun a => ouR_len (bp l) a (okq l gx gz (x, z) t))
  have HPG : Hid (∀ i, (bp l).getD i (0, 0) = (px (bp l) i, pz (bp l) i)) := fun _ => rfl
  have hbw := hr.lt (by omega)
  clear hr hx ht hp h3
  generalize okq l gx gz (x, z) t = OKF at *
  generalize ouR (bp l) = OU at *
  generalize ixL (bp l) (x, z) = IX at *
  generalize outc l gx gz (x, z) t = OC at *
  generalize bp l = L at *
  obtain ⟨m, hm⟩ : ∃ m, m = L.length := ⟨_, rfl⟩
  rw [← hm] at hlen hpos HOU HIXL HRS
  have HM := Lib.hid hm
  clear hm
  have k0 := bl2 w (.cells (c6 nm (.slice (some ⟨b, o, none⟩) l.length c) dp dn gx gz) 26) (.cells #[.int .i64 x, .int .i64 z] 24)
  have b0 : Blk w.heap.size (c6 nm (.slice (some ⟨b, o, none⟩) l.length c) dp dn gx gz) 26 ((w.alloc (.cells (c6 nm (.slice (some ⟨b, o, none⟩) l.length c) dp dn gx gz) 26)).alloc (.cells #[.int .i64 x, .int .i64 z] 24)) ∧ B2 (w.heap.size + 1) x z ((w.alloc (.cells (c6 nm (.slice (some ⟨b, o, none⟩) l.length c) dp dn gx gz) 26)).alloc (.cells #[.int .i64 x, .int .i64 z] 24)) :=
    ⟨(Blk.new w _ 26).alloc _, ⟨by simp [go_sem], by simp [go_sem], by simp [go_sem], by simp [go_sem]⟩⟩
  have hsz : ((w.alloc (.cells (c6 nm (.slice (some ⟨b, o, none⟩) l.length c) dp dn gx gz) 26)).alloc (.cells #[.int .i64 x, .int .i64 z] 24)).heap.size = w.heap.size + 2 := by simp
  have s1 := b0.1.cell (i := 1) rfl
  go_enter Try.func40, Try.ntmps40
  go_wp2_with fail
  refine (HBO.out _ k0).mono ?_
  rintro e w1 ⟨⟨v, rfl, ho⟩, hb1⟩
  obtain ⟨g7, c7, rfl, hr7, hg7⟩ := ho.at' (by rw [← HM.out]; exact hpos)
  rw [← HM.out]
  have hlt7 := hr7.lt (by rw [← HM.out]; exact hpos)
  have HB1 : Hid (∀ W, Below w1.heap.size w1 W → Blk w.heap.size (c6 nm (.slice (some ⟨b, o, none⟩) l.length c) dp dn gx gz) 26 W ∧ B2 (w.heap.size + 1) x z W ∧ Row W g7 0 L ∧ Below w.heap.size w W) := fun W k => ⟨(b0.1.below hb1).below k, (b0.2.keep hb1).keep k, hr7.keep k, Below.thru k0 k0.size (Below.thru hb1 hb1.size k)⟩
  have hw1 : w.heap.size + 2 ≤ w1.heap.size := by have := hb1.size; omega
  clear b0 k0 hsz s1 ho hb1 hr7 hg7 HBO
  go_wp2
  go_loopw [9, 8] (fun i f wr => ∃ k : Nat, k ≤ m ∧ i = .int .i64 k ∧ f = .int .i64 (IX k : Nat) ∧ Below w1.heap.size w1 wr) (fun i _ _ => m - (intOf i).toNat)
  case atStart => exact ⟨0, Nat.zero_le _, rfl, by rw [HIX0.out]; rfl, Below.refl _ _⟩
  case round =>
    obtain ⟨k, hk, rfl, rfl, hB⟩ := hrel
    by_cases hkn : k < m
    · have HIK := Lib.hid (HIX.out k)
      rw [HPG.out] at HIK
      have q9 := HB1.out _ hB
      obtain ⟨ckx, ckz⟩ := q9.2.2.1 k (by rw [← HM.out]; exact hkn)
      simp only [Nat.zero_add] at ckx ckz
      have kkx := cell_regrown ckx
      have kkz := cell_regrown ckz
      have kx := cell_regrown q9.2.1.1
      have kz := cell_regrown q9.2.1.2.1
      clear ckx ckz q9
      generalize px L k = fx at *
      generalize pz L k = fz at *
      have hcase : ¬ fx = x ∨ (fx = x ∧ ¬ fz = z) ∨ (fx = x ∧ fz = z) := by
        by_cases e1 : fx = x
        · by_cases e2 : fz = z
          · exact .inr (.inr ⟨e1, e2⟩)
          · exact .inr (.inl ⟨e1, e2⟩)
        · exact .inl e1
      have HNE : Hid ((¬ fx = x ∨ (fx = x ∧ ¬ fz = z)) → IX (k + 1) = IX k) := fun h => by
        rw [HIK.out, if_neg]
        intro e
        have e1 := congrArg Prod.fst e; have e2 := congrArg Prod.snd e
        dsimp only at e1 e2
        rcases h with h | ⟨_, h⟩
        · exact h e1
        · exact h e2
      rcases hcase with h | ⟨rfl, h⟩ | ⟨rfl, rfl⟩
      · have HL2 := Lib.hid (HNE.out (.inl h))
        go_wp2_with fail
        refine wp_region_quiet_below (by kernel_rfl) (by kernel_rfl) ?_
        repeat (any_goals (first | go_big_quiet_step (fail) | quiet_step (fail)))
        refine wpQuiet_nil ?_
        intro _ hw'
        obtain ⟨⟨dq1, osq1⟩, hw''⟩ := hw'
        subst hw''
        have hBq := Below.thru hB hB.size (below_regrown wr dq1 osq1)
        clear kkx kkz kx kz
        generalize Sort.grow (redrawn wr dq1) osq1 = w2 at *
        go_wp2
        go_roundw
        case rel => exact ⟨k + 1, by omega, by go_num, by rw [HL2.out], hBq⟩
        case measure => simp [intOf]; omega
      · have HL2 := Lib.hid (HNE.out (.inr ⟨rfl, h⟩))
        go_wp2_with fail
        refine wp_region_quiet_below (by kernel_rfl) (by kernel_rfl) ?_
        repeat (any_goals (first | go_big_quiet_step (fail) | quiet_step (fail)))
        refine wpQuiet_nil ?_
        intro _ hw'
        obtain ⟨⟨dq1, osq1⟩, hw''⟩ := hw'
        subst hw''
        have hBq := Below.thru hB hB.size (below_regrown wr dq1 osq1)
        clear kkx kkz kx kz
        generalize Sort.grow (redrawn wr dq1) osq1 = w2 at *
        go_wp2
        go_roundw
        case rel => exact ⟨k + 1, by omega, by go_num, by rw [HL2.out], hBq⟩
        case measure => simp [intOf]; omega
      · have HL2 : Hid (IX (k + 1) = k) := by show _ = _; rw [HIK.out, if_pos rfl]
        clear HNE
        go_wp2_with fail
        refine wp_region_quiet_below (by kernel_rfl) (by kernel_rfl) ?_
        repeat (any_goals (first | go_big_quiet_step (fail) | quiet_step (fail)))
        refine wpQuiet_nil ?_
        intro _ hw'
        obtain ⟨⟨dq1, osq1⟩, hw''⟩ := hw'
        subst hw''
        have hBq := Below.thru hB hB.size (below_regrown wr dq1 osq1)
        clear kkx kkz kx kz
        generalize Sort.grow (redrawn wr dq1) osq1 = w2 at *
        go_wp2
        go_roundw
        case rel => exact ⟨k + 1, by omega, by go_num, by rw [HL2.out], hBq⟩
        case measure => simp [intOf]; omega
    · obtain rfl : k = m := by omega
      have hfn := HIXL.out k (Nat.le_refl _)
      have HB2 := Lib.hid hB
      obtain ⟨f, hf⟩ : ∃ f, f = IX k := ⟨_, rfl⟩
      rw [← hf] at hfn HOU ⊢
      clear hf HIX HIX0 HIXL
      go_wp2
      obtain ⟨wo, hwo⟩ : ∃ wo : World, wo = wr := ⟨_, rfl⟩
      rw [← hwo] at HB2 ⊢
      clear hB hwo
      go_loopw [11, 12, 13, 14, 15, 16, 10] (fun i _ _ _ _ _ v wr => ∃ j : Nat, j + 1 ≤ k ∧ i = .int .i64 ((j : Int) + 1) ∧ Hid (OwnR wr w1.heap.size v (OU f OKF j)) ∧ Hid (Below w1.heap.size w1 wr)) (fun i _ _ _ _ _ _ _ => k - (intOf i).toNat)
      case atStart => exact ⟨0, by omega, rfl, by rw [HR0.out]; exact World.ownsRow_nil _ _ _ _, HB2.out⟩
      case round =>
        obtain ⟨j, hj, rfl, HO, HB⟩ := hrel
        by_cases hjk : j + 1 < k
        · have hm : (f + (j + 1)) % k < k := Nat.mod_lt _ hpos
          have hr' : ((f : Int) + ((j : Int) + 1)) % (k : Int) = (((f + (j + 1)) % k : Nat) : Int) := by rw [Int.natCast_emod]; congr 1
          have h0 : ¬ (k : Int) = 0 := by omega
          have hk9 : ¬ k = 0 := by omega
          have HL1 := Lib.hid (HRS.out f j)
          have q9 := HB1.out _ HB.out
          obtain ⟨jj, hjj⟩ : ∃ jj, jj = (f + (j + 1)) % k := ⟨_, rfl⟩
          rw [← hjj, HPG.out] at HL1
          rw [← hjj] at hm hr'
          clear hjj
          obtain ⟨ckx, ckz⟩ := q9.2.2.1 jj (by rw [← HM.out]; exact hm)
          simp only [Nat.zero_add] at ckx ckz
          have hbf := HBX.out jj (by rw [← HM.out]; exact hm)
          generalize px L jj = fx at *
          generalize pz L jj = fz at *
          have hlen9 := HRL.out f j
          have HW := Lib.hid HO.out
          have hwr := HB.out.size
          have S5 : Hid (Blk w.heap.size (c6 nm (.slice (some ⟨b, o, none⟩) l.length c) dp dn gx gz) 26 (wr.alloc (.cells #[.int .i64 fx, .int .i64 fz] 24)) ∧ B2 (w.heap.size + 1) x z (wr.alloc (.cells #[.int .i64 fx, .int .i64 fz] 24)) ∧ B2 wr.heap.size fx fz (wr.alloc (.cells #[.int .i64 fx, .int .i64 fz] 24)) ∧ Below wr.heap.size wr (wr.alloc (.cells #[.int .i64 fx, .int .i64 fz] 24))) :=
            ⟨q9.1.below (bl1 _ _), q9.2.1.keep (bl1 _ _), ⟨by simp [go_sem], by simp [go_sem], by simp [go_sem], by simp [go_sem]⟩, bl1 _ _⟩
          clear q9
          obtain ⟨u, hu⟩ : ∃ u, u = fx - x := ⟨_, rfl⟩
          obtain ⟨v, hv⟩ : ∃ v, v = fz - z := ⟨_, rfl⟩
          have hbu : -2000 ≤ u ∧ u ≤ 2000 := by omega
          have hbv : -2000 ≤ v ∧ v ≤ 2000 := by omega
          have e1 : fx - x = u := hu.symm
          have e2 : fz - z = v := hv.symm
          have v1 := IntWalk.i64_in (fx - x) (by omega)
          have v2 := IntWalk.i64_in (fz - z) (by omega)
          clear hu hv
          go_wp2_with fail
          generalize wr.alloc (.cells #[.int .i64 fx, .int .i64 fz] 24) = w5 at *
          clear ckx ckz
          have r1 := cell_regrown S5.out.2.1.1
          have r2 := cell_regrown S5.out.2.1.2.1
          have r3 := cell_regrown S5.out.2.2.1.1
          have r4 := cell_regrown S5.out.2.2.1.2.1
          refine wp_region_quiet_below (by kernel_rfl) (by kernel_rfl) ?_
          repeat (any_goals (first | go_big_quiet_step (fail) | quiet_step (fail)))
          refine wpQuiet_nil ?_
          intro _ hw'
          obtain ⟨⟨dq1, osq1⟩, hw''⟩ := hw'
          subst hw''
          have S6 : Hid (Blk w.heap.size (c6 nm (.slice (some ⟨b, o, none⟩) l.length c) dp dn gx gz) 26 (Sort.grow (redrawn w5 dq1) osq1) ∧ B2 (w.heap.size + 1) x z (Sort.grow (redrawn w5 dq1) osq1) ∧ B2 wr.heap.size fx fz (Sort.grow (redrawn w5 dq1) osq1) ∧ Below wr.heap.size wr (Sort.grow (redrawn w5 dq1) osq1)) := ⟨S5.out.1.below (below_regrown w5 dq1 osq1), S5.out.2.1.keep (below_regrown w5 dq1 osq1), S5.out.2.2.1.keep (below_regrown w5 dq1 osq1), Below.thru S5.out.2.2.2 S5.out.2.2.2.size (below_regrown w5 dq1 osq1)⟩
          clear r1 r2 r3 r4 S5
          generalize Sort.grow (redrawn w5 dq1) osq1 = w6 at *
          have hm1 := mul_sm (a := u) (b := gz) (A := 2000) (B := 100) hbu hg.2 (by omega)
          have hm2 := mul_sm (a := v) (b := gx) (A := 2000) (B := 100) hbv hg.1 (by omega)
          have hm3 := mul_sm (a := u) (b := gx) (A := 2000) (B := 100) hbu hg.1 (by omega)
          have hm4 := mul_sm (a := v) (b := gz) (A := 2000) (B := 100) hbv hg.2 (by omega)
          have y1 := IntWalk.i64_in (u * gz) (by omega)
          have y2 := IntWalk.i64_in (v * gx) (by omega)
          have y3 := IntWalk.i64_in (u * gx) (by omega)
          have y4 := IntWalk.i64_in (v * gz) (by omega)
          have HQ := Lib.hid (fun off al bc hc => HOK.out fx fz u v off al bc hc e1 e2)
          generalize hp1 : u * gz = m1 at *
          generalize hp2 : v * gx = m2 at *
          generalize hp3 : u * gx = m3 at *
          generalize hp4 : v * gz = m4 at *
          have y5 := IntWalk.i64_in (m1 - m2) (by omega)
          have y6 := IntWalk.i64_in (m3 + m4) (by omega)
          generalize hp5 : m1 - m2 = off at *
          generalize hp6 : m3 + m4 = al at *
          have hbo : -400000 ≤ off ∧ off ≤ 400000 := by omega
          have hba : -400000 ≤ al ∧ al ≤ 400000 := by omega
          have r4 := cell_regrown (S6.out.1.cell (i := 4) rfl)
          have r5 := cell_regrown (S6.out.1.cell (i := 5) rfl)
          have HQ2 := Lib.hid (fun bc hc => HQ.out off al bc hc rfl rfl)
          clear HQ hm1 hm2 hm3 hm4
          go_wp2_with fail
          refine wp_region_quiet_below (by kernel_rfl) (by kernel_rfl) ?_
          repeat (any_goals (first | go_big_quiet_step (fail) | quiet_step (fail)))
          refine wpQuiet_nil ?_
          intro _ hw'
          obtain ⟨⟨dq2, osq2⟩, hw''⟩ := hw'
          subst hw''
          have S7 : Hid (Blk w.heap.size (c6 nm (.slice (some ⟨b, o, none⟩) l.length c) dp dn gx gz) 26 (Sort.grow (redrawn w6 dq2) osq2) ∧ B2 (w.heap.size + 1) x z (Sort.grow (redrawn w6 dq2) osq2) ∧ B2 wr.heap.size fx fz (Sort.grow (redrawn w6 dq2) osq2) ∧ Below wr.heap.size wr (Sort.grow (redrawn w6 dq2) osq2)) := ⟨S6.out.1.below (below_regrown w6 dq2 osq2), S6.out.2.1.keep (below_regrown w6 dq2 osq2), S6.out.2.2.1.keep (below_regrown w6 dq2 osq2), Below.thru S6.out.2.2.2 S6.out.2.2.2.size (below_regrown w6 dq2 osq2)⟩
          clear r4 r5 S6 y1 y2 y3 y4 y5 y6 hp1 hp2 hp3 hp4 hp5 hp6 e1 e2 v1 v2
          generalize Sort.grow (redrawn w6 dq2) osq2 = w7 at *
          have KW7 := Lib.hid (Below.thru (HB1.out _ HB.out).2.2.2 (HB1.out _ HB.out).2.2.2.size S7.out.2.2.2)
          go_upto_region 15 with fail
          go_cut [98] (fun cc wx => cc = .bool (OKF (fx, fz)) ∧ Hid (Below w7.heap.size w7 wx))
          case first =>
            rename_i J K' hJ hK
            have s1 := S7.out.1.cell (i := 1) rfl
            obtain ⟨p0, p1, _, _⟩ := S7.out.2.1
            obtain ⟨r0, r1, _, _⟩ := S7.out.2.2.1
            go_wp2_with fail
            refine (HAP.out w7 KW7.out fx fz hbf).mono ?_
            rintro e w8 ⟨⟨bc, rfl, hbc⟩, hb8⟩
            have K8 := Lib.hid hb8
            have HBC := Lib.hid (HQ2.out bc hbc)
            clear hbc hb8 s1 p0 p1 r0 r1
            cases bc with
            | false =>
              have HBF : Hid (OKF (fx, fz) = false) := by show _ = _; rw [HBC.out]; rfl
              go_wp2
              all_goals
                refine Met.intro (hJ _ _ ?_)
                (repeat apply Exists.intro)
                refine ⟨⟨by rw [HBF.out], K8.out⟩, rfl⟩
            | true =>
              have HBT : Hid (OKF (fx, fz) = decide (100 * (off.natAbs : Int) ≤ t * (al.natAbs : Int))) := by show _ = _; rw [HBC.out, Bool.true_and]
              have n1 := IntWalk.i64_in (-off) (by omega)
              have n2 := IntWalk.i64_in (-al) (by omega)
              have ht1 := mul_sm (a := t) (b := al) (A := 100) (B := 400000) (by omega) hba (by omega)
              have ht2 := mul_sm (a := t) (b := -al) (A := 100) (B := 400000) (by omega) (by omega) (by omega)
              have n3 := IntWalk.i64_in (100 * off) (by omega)
              have n4 := IntWalk.i64_in (100 * -off) (by omega)
              have n5 := IntWalk.i64_in (t * al) (by omega)
              have n6 := IntWalk.i64_in (t * -al) (by omega)
              clear HBC HQ2 HAP
              by_cases o1 : off < -off
              · have a1 : (off.natAbs : Int) = -off := by omega
                by_cases o2 : al < -al
                · have a2 : (al.natAbs : Int) = -al := by omega
                  have HA := Lib.hid (And.intro a1 a2)
                  clear a1 a2
                  go_wp2
                  all_goals
                    refine Met.intro (hJ _ _ ?_)
                    (repeat apply Exists.intro)
                    refine ⟨⟨by rw [HBT.out, HA.out.1, HA.out.2], K8.out⟩, rfl⟩
                · have a2 : (al.natAbs : Int) = al := by omega
                  have HA := Lib.hid (And.intro a1 a2)
                  clear a1 a2
                  go_wp2
                  all_goals
                    refine Met.intro (hJ _ _ ?_)
                    (repeat apply Exists.intro)
                    refine ⟨⟨by rw [HBT.out, HA.out.1, HA.out.2], K8.out⟩, rfl⟩
              · have a1 : (off.natAbs : Int) = off := by omega
                by_cases o2 : al < -al
                · have a2 : (al.natAbs : Int) = -al := by omega
                  have HA := Lib.hid (And.intro a1 a2)
                  clear a1 a2
                  go_wp2
                  all_goals
                    refine Met.intro (hJ _ _ ?_)
                    (repeat apply Exists.intro)
                    refine ⟨⟨by rw [HBT.out, HA.out.1, HA.out.2], K8.out⟩, rfl⟩
                · have a2 : (al.natAbs : Int) = al := by omega
                  have HA := Lib.hid (And.intro a1 a2)
                  clear a1 a2
                  go_wp2
                  all_goals
                    refine Met.intro (hJ _ _ ?_)
                    (repeat apply Exists.intro)
                    refine ⟨⟨by rw [HBT.out, HA.out.1, HA.out.2], K8.out⟩, rfl⟩
          obtain ⟨rfl, HWC⟩ := hcut
          have hb9 := Below.thru S7.out.2.2.2 S7.out.2.2.2.size HWC.out
          obtain ⟨d0, d1, _, _⟩ := S7.out.2.2.1.keep HWC.out
          have hown9 : wc.ownsRow w1.heap.size 24 2 u10 (OU f OKF j).length (cls (OU f OKF j)) := own_of HW.out (fun g cap hv ⟨cur, hg⟩ => hb9.block g (Array.getElem?_eq_some_iff.1 hg).1)
          have HON : Hid (OwnR wc w1.heap.size u10 (OU f OKF j)) := hown9
          have HBN := Lib.hid (HB.out.trans (hb9.mono hwr))
          have hsz9 : w1.heap.size ≤ wc.heap.size := Nat.le_trans hwr hb9.size
          clear S7 HWC hb9 HQ2 HAP HOK
          cases hq : OKF (fx, fz) with
          | true =>
            have HL2 : Hid (OU f OKF (j + 1) = OU f OKF j ++ [(fx, fz)]) := by show _ = _; rw [HL1.out, hq]; rfl
            clear hq
            go_wp2_with (at_builtin; refine wpList_append_own _ rfl (.tmp 99) (.tmp 101) 22 rfl w1.heap.size 24 i0 (.agg #[.int .i64 0, .int .i64 0]) 2 16 Try.underlying22' hi hz0 hz1 hz2 rfl (by decide) _ _ _ rfl (hown9.alloc _) ⟨wc.heap.size, 0, none⟩ 1 1 [.int .i64 fx, .int .i64 fz] rfl rfl two_new (by simp [Value.oneCell']) (by unfold maxLen; omega) (by omega) (by simp; omega) ?_; intro v' w9 hown' hgrow _)
            have hBg : Below w1.heap.size wc w9 := ((Below.refl _ _).alloc (by omega) _).grown hgrow (by simp; omega) (fun r e => (hown9.lt r e).1)
            go_wp2
            go_roundw
            case rel =>
              refine ⟨j + 1, by omega, by go_num, ?_, HBN.out.trans hBg⟩
              rw [HL2.out]
              show World.ownsRow _ _ _ _ _ _ _
              rw [List.length_append, cls_snoc]
              exact hown'
            case measure => simp [intOf]; omega
          | false =>
            have HL2 : Hid (OU f OKF (j + 1) = OU f OKF j) := by show _ = _; rw [HL1.out, hq]; simp
            clear hq hown9
            go_wp2
            go_roundw
            case rel => exact ⟨j + 1, by omega, by go_num, by rw [HL2.out]; exact HON.out, HBN.out⟩
            case measure => simp [intOf]; omega
        · obtain ⟨q, rfl⟩ : ∃ q, k = q + 1 := ⟨k - 1, by omega⟩
          obtain rfl : j = q := by omega
          have HFI : Hid (OwnR wr w.heap.size u10 OC) := OwnR.base (by rw [HOC.out, ← HOU.out]; exact HO.out) (by omega)
          have HKK := Lib.hid (HB1.out _ HB.out).2.2.2
          go_wp2
          go_ret
          exact ⟨⟨_, rfl, HFI.out⟩, HKK.out⟩
end Go.Proofs.Ytljmhejljpfaiaa
