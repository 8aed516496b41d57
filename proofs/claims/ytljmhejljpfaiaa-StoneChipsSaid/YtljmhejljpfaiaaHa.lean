import Derived.Test.YtljmhejljpfaiaaDi
namespace Go.Proofs.Ytljmhejljpfaiaa
set_option maxRecDepth 100000
open Go.RowKit Go.Shelf

/-! the reference's along: all whole points from one point to another one -/
def two2 (x1 z1 x2 z2 : Int) : List Pt := [(x1, z1), (x2, z2)]
/-- all whole points of an edge, its end included -/
def alg (x1 z1 x2 z2 : Int) : List Pt := eps (two2 x1 z1 x2 z2) 0 (sn x1 z1 x2 z2 + 1)
theorem alg_rps (x1 z1 x2 z2 : Int) (hd : ¬ (x2 = x1 ∧ z2 = z1)) : rps (two2 x1 z1 x2 z2) 0 (lngE (two2 x1 z1 x2 z2) 0 + 1) = alg x1 z1 x2 z2 := by
  have h := rps_eps (two2 x1 z1 x2 z2) 0 hd
  have hl : lngE (two2 x1 z1 x2 z2) 0 = max (x2 - x1).natAbs (z2 - z1).natAbs := rfl
  have h0 : ¬ ((lngE (two2 x1 z1 x2 z2) 0 : Nat) : Int) = 0 := by rw [hl]; omega
  have es : snE (two2 x1 z1 x2 z2) 0 = sn x1 z1 x2 z2 := rfl
  have ew : whE (two2 x1 z1 x2 z2) 0 (lngE (two2 x1 z1 x2 z2) 0) = true := by
    unfold whE
    rw [Int.mul_tmod_left, Int.mul_tmod_left]
    rfl
  have ep : whp (two2 x1 z1 x2 z2) 0 (lngE (two2 x1 z1 x2 z2) 0) = ept (two2 x1 z1 x2 z2) 0 (sn x1 z1 x2 z2) := by
    unfold whp ept
    rw [Int.mul_tdiv_cancel _ h0, Int.mul_tdiv_cancel _ h0, ← es, sxE_mul, szE_mul]
  rw [rps_succ, h, ew, if_pos rfl, ep, es]
  unfold alg
  rw [eps_succ]
theorem alg_length (x1 z1 x2 z2 : Int) : (alg x1 z1 x2 z2).length = sn x1 z1 x2 z2 + 1 := by unfold alg eps; simp
theorem alg_at (x1 z1 x2 z2 : Int) {k : Nat} (hk : k < sn x1 z1 x2 z2 + 1) : px (alg x1 z1 x2 z2) k = x1 + k * (x2 - x1).tdiv (sn x1 z1 x2 z2 : Nat) ∧ pz (alg x1 z1 x2 z2) k = z1 + k * (z2 - z1).tdiv (sn x1 z1 x2 z2 : Nat) := by
  have e : (alg x1 z1 x2 z2).getD k (0, 0) = ept (two2 x1 z1 x2 z2) 0 k := by
    unfold alg eps
    rw [List.getD_eq_getElem?_getD, List.getElem?_map, List.getElem?_range hk]
    rfl
  unfold px pz
  rw [e]
  exact ⟨rfl, rfl⟩
set_option maxHeartbeats 16000000 in
theorem along_any (x1 z1 x2 z2 : Int) (w : World) (b1 : 0 ≤ x1 ∧ x1 ≤ 2000) (b2 : 0 ≤ z1 ∧ z1 ≤ 2000) (b3 : 0 ≤ x2 ∧ x2 ≤ 2000) (b4 : 0 ≤ z2 ∧ z2 ≤ 2000) (hne : ¬ (x2 = x1 ∧ z2 = z1)) :
    Calls Try.prog 85 #[.agg #[.int .i64 x1, .int .i64 z1], .agg #[.int .i64 x2, .int .i64 z2]] w fun e w' => (∃ v, e = .returned v ∧ OwnR w' w.heap.size v (alg x1 z1 x2 z2)) ∧ Below w.heap.size w w' := by
  obtain ⟨i0, hi, hz0, hz1, hz2⟩ := info_parts Try.info24
  have HRP := Lib.hid (alg_rps x1 z1 x2 z2 hne)
  have HRL := Lib.hid (fun q => rps_len (two2 x1 z1 x2 z2) 0 q)
  obtain ⟨dx, hdx⟩ : ∃ dx, dx = x2 - x1 := ⟨_, rfl⟩
  obtain ⟨dz, hdz⟩ : ∃ dz, dz = z2 - z1 := ⟨_, rfl⟩
  obtain ⟨lg, hlg⟩ : ∃ lg, lg = lngE (two2 x1 z1 x2 z2) 0 := ⟨_, rfl⟩
  have hlgm : lg = max dx.natAbs dz.natAbs := by rw [hlg, hdx, hdz]; rfl
  have hlgv : (lg : Int) = max (dx.natAbs : Int) (dz.natAbs : Int) := by omega
  have hlgp : 0 < lg := by omega
  have hlg2 : lg ≤ 2000 := by omega
  have hbdx : -2000 ≤ dx ∧ dx ≤ 2000 := by omega
  have hbdz : -2000 ≤ dz ∧ dz ≤ 2000 := by omega
  have HWH : Hid (∀ q, rps (two2 x1 z1 x2 z2) 0 (q + 1) = rps (two2 x1 z1 x2 z2) 0 q ++ (if (((dx * q).tmod lg == 0) && ((dz * q).tmod lg == 0)) then [(x1 + (dx * q).tdiv lg, z1 + (dz * q).tdiv lg)] else [])) := fun q => by
    rw [rps_succ, hlg, hdx, hdz]; rfl
  rw [← hlg] at HRP
  have e1 : x2 - x1 = dx := hdx.symm
  have e2 : z2 - z1 = dz := hdz.symm
  have v1 := IntWalk.i64_in (x2 - x1) (by omega)
  have v2 := IntWalk.i64_in (z2 - z1) (by omega)
  have HR0 : Hid (rps (two2 x1 z1 x2 z2) 0 0 = []) := rfl
  clear hlg hlgm hdx hdz hne
  have S0 : Hid (B2 w.heap.size x1 z1 ((w.alloc (.cells #[.int .i64 x1, .int .i64 z1] 24)).alloc (.cells #[.int .i64 x2, .int .i64 z2] 24)) ∧ B2 (w.heap.size + 1) x2 z2 ((w.alloc (.cells #[.int .i64 x1, .int .i64 z1] 24)).alloc (.cells #[.int .i64 x2, .int .i64 z2] 24)) ∧ Below w.heap.size w ((w.alloc (.cells #[.int .i64 x1, .int .i64 z1] 24)).alloc (.cells #[.int .i64 x2, .int .i64 z2] 24)) ∧ ((w.alloc (.cells #[.int .i64 x1, .int .i64 z1] 24)).alloc (.cells #[.int .i64 x2, .int .i64 z2] 24)).heap.size = w.heap.size + 2) := ⟨⟨by simp [go_sem], by simp [go_sem], by simp [go_sem], by simp [go_sem]⟩, ⟨by simp [go_sem], by simp [go_sem], by simp [go_sem], by simp [go_sem]⟩, bl2 w _ _, by simp⟩
  go_enter Try.func85, Try.ntmps85
  go_wp2_with fail
  generalize (w.alloc (.cells #[.int .i64 x1, .int .i64 z1] 24)).alloc (.cells #[.int .i64 x2, .int .i64 z2] 24) = w0 at *
  have f1 := cell_regrown S0.out.1.1
  have f2 := cell_regrown S0.out.1.2.1
  have f3 := cell_regrown S0.out.2.1.1
  have f4 := cell_regrown S0.out.2.1.2.1
  refine wp_region_quiet_below (by kernel_rfl) (by kernel_rfl) ?_
  repeat (any_goals (first | go_big_quiet_step (fail) | quiet_step (fail)))
  refine wpQuiet_nil ?_
  intro _ hw'
  obtain ⟨⟨dq, osq⟩, hw''⟩ := hw'
  subst hw''
  have HB2 : Hid (B2 w.heap.size x1 z1 (Sort.grow (redrawn w0 dq) osq) ∧ Below w.heap.size w (Sort.grow (redrawn w0 dq) osq) ∧ w.heap.size + 2 ≤ (Sort.grow (redrawn w0 dq) osq).heap.size) :=
    ⟨S0.out.1.keep (below_regrown w0 dq osq), Below.thru S0.out.2.2.1 S0.out.2.2.1.size (below_regrown w0 dq osq), by have := (below_regrown w0 dq osq).size; have := S0.out.2.2.2; omega⟩
  clear f1 f2 f3 f4 v1 v2 e1 e2
  generalize Sort.grow (redrawn w0 dq) osq = w7 at *
  have v3 := IntWalk.i64_in (-dx) (by omega)
  have v4 := IntWalk.i64_in (-dz) (by omega)
  go_upto_region 3 with fail
  go_cut [8] (fun u8 wx => u8 = .int .i64 (lg : Nat) ∧ wx = w7)
  case first =>
    rename_i J K' hJ hK
    go_wp2
    all_goals
      refine Met.intro (hJ _ _ ?_)
      (repeat apply Exists.intro)
      refine ⟨⟨?_, rfl⟩, rfl⟩
      congr 1
      omega
  obtain ⟨rfl, rfl⟩ := hcut
  have H0 : Hid (OwnR wc (w.heap.size + 2) (.slice none 0 0) (rps (two2 x1 z1 x2 z2) 0 0)) := by show OwnR _ _ _ _; rw [HR0.out]; exact World.ownsRow_nil _ _ _ _
  have H1 : Hid (B2 w.heap.size x1 z1 wc ∧ Below w.heap.size w wc ∧ w.heap.size + 2 ≤ wc.heap.size) := HB2.out
  clear v3 v4 hlgv HB2 S0
  go_wp2
  go_loopw [9, 5] (fun j v wq => ∃ q : Nat, q ≤ lg + 1 ∧ j = .int .i64 q ∧ Hid (OwnR wq (w.heap.size + 2) v (rps (two2 x1 z1 x2 z2) 0 q)) ∧ Hid (B2 w.heap.size x1 z1 wq ∧ Below w.heap.size w wq ∧ w.heap.size + 2 ≤ wq.heap.size)) (fun j _ _ => lg + 1 - (intOf j).toNat)
  case atStart => exact ⟨0, Nat.zero_le _, rfl, H0.out, H1.out⟩
  case round =>
    obtain ⟨q, hq, rfl, HO, HB⟩ := hrel
    by_cases hlt2 : q ≤ lg
    · have hmx := mul_sm (a := dx) (b := (q : Int)) (A := 2000) (B := 2000) hbdx (by omega) (by omega)
      have hmz := mul_sm (a := dz) (b := (q : Int)) (A := 2000) (B := 2000) hbdz (by omega) (by omega)
      have HWQ := Lib.hid (HWH.out q)
      have hrl := HRL.out q
      have w1 := IntWalk.i64_in (dx * q) (by omega)
      have w2 := IntWalk.i64_in (dz * q) (by omega)
      generalize hu1 : dx * (q : Int) = u1 at *
      generalize hu2 : dz * (q : Int) = u2 at *
      have t1 : (u1.tmod lg).natAbs ≤ u1.natAbs := by rw [Int.natAbs_tmod]; exact Nat.mod_le _ _
      have t2 : (u2.tmod lg).natAbs ≤ u2.natAbs := by rw [Int.natAbs_tmod]; exact Nat.mod_le _ _
      have t3 : (u1.tdiv lg).natAbs ≤ u1.natAbs := by rw [Int.natAbs_tdiv]; exact Nat.div_le_self _ _
      have t4 : (u2.tdiv lg).natAbs ≤ u2.natAbs := by rw [Int.natAbs_tdiv]; exact Nat.div_le_self _ _
      have hlg0 : ¬ (lg : Int) = 0 := by omega
      have hlg9 : ¬ lg = 0 := by omega
      generalize hr1 : u1.tmod (lg : Int) = r1 at *
      generalize hr2 : u2.tmod (lg : Int) = r2 at *
      generalize hd1 : u1.tdiv (lg : Int) = d1 at *
      generalize hd2 : u2.tdiv (lg : Int) = d2 at *
      have w3 := IntWalk.i64_in r1 (by omega)
      have w4 := IntWalk.i64_in r2 (by omega)
      have w5 := IntWalk.i64_in d1 (by omega)
      have w6 := IntWalk.i64_in d2 (by omega)
      have w8 := IntWalk.i64_in (x1 + d1) (by omega)
      have w9 := IntWalk.i64_in (z1 + d2) (by omega)
      clear t1 t2 t3 t4 hmx hmz
      have hlen : (rps (two2 x1 z1 x2 z2) 0 q).length ≤ 30000 := by omega
      have hown : wr.ownsRow (w.heap.size + 2) 24 2 u5 (rps (two2 x1 z1 x2 z2) 0 q).length (cls (rps (two2 x1 z1 x2 z2) 0 q)) := HO.out
      clear HO hrl
      generalize rps (two2 x1 z1 x2 z2) 0 q = L0 at *
      cases hb1 : (r1 == 0) with
      | false =>
        have hp1 : ¬ r1 = 0 := by simpa using hb1
        have HW3 : Hid (rps (two2 x1 z1 x2 z2) 0 (q + 1) = L0) := by show _ = _; have := HWQ.out; rw [hb1] at this; simpa using this
        have HWN := Lib.hid hown
        clear hown hb1
        go_wp2
        go_roundw
        case rel => exact ⟨q + 1, by omega, by go_num, by rw [HW3.out]; exact HWN.out, HB.out⟩
        case measure => simp [intOf]; omega
      | true =>
        cases hb2 : (r2 == 0) with
        | false =>
          have hp2 : ¬ r2 = 0 := by simpa using hb2
          have HW3 : Hid (rps (two2 x1 z1 x2 z2) 0 (q + 1) = L0) := by show _ = _; have := HWQ.out; rw [hb1, hb2] at this; simpa using this
          have HWN := Lib.hid hown
          clear hown hb2
          go_wp2
          go_roundw
          case rel => exact ⟨q + 1, by omega, by go_num, by rw [HW3.out]; exact HWN.out, HB.out⟩
          case measure => simp [intOf]; omega
        | true =>
          have HW3 : Hid (rps (two2 x1 z1 x2 z2) 0 (q + 1) = L0 ++ [(x1 + d1, z1 + d2)]) := by show _ = _; have := HWQ.out; rw [hb1, hb2] at this; simpa using this
          obtain ⟨hT0, hT1, _, _⟩ := id HB.out.1
          have hTl := cell_lt hT0
          have hwl := HB.out.2.2
          go_wp2
          replace hown : wr.drew.ownsRow (w.heap.size + 2) 24 2 u5 L0.length (cls L0) := hown
          have HB4 : Hid (B2 w.heap.size x1 z1 wr.drew ∧ Below w.heap.size w wr.drew) := ⟨HB.out.1.keep (Below.refl _ _).drew, HB.out.2.1.drew⟩
          go_region_law (refine step_append_own_at rfl (.tmp 48) (.tmp 66) 22 rfl (w.heap.size + 2) 24 i0 (.agg #[.int .i64 0, .int .i64 0]) 2 16 Try.underlying22' hi hz0 hz1 hz2 rfl (by decide) _ _ _ rfl (hown.alloc _) ⟨wr.heap.size, 0, none⟩ 1 1 [.int .i64 (x1 + d1), .int .i64 (z1 + d2)] rfl rfl two_new (by simp [Value.oneCell']) (by unfold maxLen; omega) (by omega) (by simp; omega) ?_; intro v' w1 hown' hgrow hob)
          all_goals
            have hBg : Below (w.heap.size + 2) wr.drew w1 := ((Below.refl _ _).alloc (by simpa using hwl) _).grown hgrow (by simp; omega) (fun r e => (hown.lt r e).1)
            have HBN : Hid (B2 w.heap.size x1 z1 w1 ∧ Below w.heap.size w w1 ∧ w.heap.size + 2 ≤ w1.heap.size) := ⟨HB4.out.1.under hBg (by omega), HB4.out.2.trans (hBg.mono (by omega)), by have := hBg.size; simp at this; omega⟩
            have HON : Hid (OwnR w1 (w.heap.size + 2) v' (L0 ++ [(x1 + d1, z1 + d2)])) := by
              show World.ownsRow _ _ _ _ _ _ _
              rw [List.length_append, cls_snoc]
              exact hown'
            clear hown hown' hgrow hob hT0 hT1 hBg
            go_wp2
            go_roundw
            case rel => exact ⟨q + 1, by omega, by go_num, by rw [HW3.out]; exact HON.out, HBN.out⟩
            case measure => simp [intOf]; omega
    · obtain rfl : q = lg + 1 := by omega
      have HF : Hid (OwnR wr w.heap.size u5 (alg x1 z1 x2 z2)) := OwnR.base (by rw [← HRP.out]; exact HO.out) (by omega)
      have HB3 := Lib.hid HB.out.2.1
      clear HO HB
      go_wp2
      go_ret
      exact ⟨⟨_, rfl, HF.out⟩, HB3.out⟩
end Go.Proofs.Ytljmhejljpfaiaa
