import Derived.Test.YtljmhejljpfaiaaBu
namespace Go.Proofs.Ytljmhejljpfaiaa
set_option maxRecDepth 100000
open Go.RowKit Go.Shelf

/-! put -/
theorem indexf_any (b o c : Nat) (l : List Pt) (w : World) (hr : Row w b o l) (h3 : 0 < l.length) (h12 : l.length ≤ 1000000) :
    Calls Try.prog 102 #[.slice (some ⟨b, o, none⟩) l.length c, .agg #[.int .i64 (px l (fst l l.length)), .int .i64 (pz l (fst l l.length))]] w fun e w' => e = .returned (.int .i64 (fst l l.length : Nat)) ∧ Below w.heap.size w w' :=
  (index_any b o c l _ _ w hr h3 h12).mono fun e w' ⟨⟨r, he, hp⟩, hb⟩ => ⟨by rw [he, index_fst h3 hp], hb⟩
theorem minf_any (b o c : Nat) (l : List Pt) (w : World) (hr : Row w b o l) (h3 : 0 < l.length) (h12 : l.length ≤ 1000000) :
    Calls Try.prog 100 #[.slice (some ⟨b, o, none⟩) l.length c, .func (.func 101) #[] #[]] w fun e w' => e = .returned (.agg #[.int .i64 (px l (fst l l.length)), .int .i64 (pz l (fst l l.length))]) ∧ Below w.heap.size w w' :=
  (minFunc_any b o c l w hr h3 h12).mono fun e w' ⟨he, hb⟩ => ⟨by
    have e1 : l.length - 1 + 1 = l.length := by omega
    have := mnL_fst l (l.length - 1)
    rw [e1] at this
    rw [he, this], hb⟩
theorem two_new2 {w : World} {q : Obj} {x z : Value} {T : TypeId} : ∀ j u, ([x, z] : List Value)[j]? = some u → ((w.alloc q).alloc (.cells #[x, z] T)).cell? ((⟨w.heap.size + 1, 0, none⟩ : Addr).add j) = some u := fun j u h => by
  have := two_new (w := w.alloc q) (T := T) j u h
  rw [World.size_alloc] at this
  exact this
set_option maxHeartbeats 8000000 in
theorem put_any (b o c : Nat) (l : List Pt) (w : World) (hr : Row w b o l) (h3 : 0 < l.length) (h12 : l.length ≤ 1000) (hs : ∀ i, i < l.length → Sm (px l i) ∧ Sm (pz l i)) :
    Calls Try.prog 69 #[.slice (some ⟨b, o, none⟩) l.length c] w fun e w' => (∃ v, e = .returned v ∧ Own w' w.heap.size v (stl l)) ∧ Below w.heap.size w w' := by
  obtain ⟨i0, hi, hz0, hz1, hz2⟩ := info_parts Try.info32
  have HR := Lib.hid hr
  have HM := Lib.hid (fun W (k : Below w.heap.size w W) => minf_any b o c l W (hr.keep k) h3 (by omega))
  have HI := Lib.hid (fun W (k : Below w.heap.size w W) => indexf_any b o c l W (hr.keep k) h3 (by omega))
  have HF := Lib.hid ((fst_least l l.length).2.2 h3)
  have HLM := Lib.hid (lfR_mnx l (fst l l.length) l.length ((fst_least l l.length).2.2 h3))
  have HMZ : Hid (mnz l l.length = pz l (fst l l.length)) := by
    have e1 : l.length - 1 + 1 = l.length := by omega
    have := mnz_fst l (l.length - 1)
    rw [e1] at this
    exact this
  have HSM : Hid (∀ i, i < l.length → (-20000 ≤ px l i ∧ px l i ≤ 20000) ∧ (-20000 ≤ pz l i ∧ pz l i ≤ 20000)) := hs
  have HMX : Hid (-20000 ≤ mnx l l.length ∧ mnx l l.length ≤ 20000) := by
    obtain ⟨_, _, h⟩ := mnx_le l l.length
    rcases h with h | ⟨j, hj, h⟩
    · have := HSM.out 0 h3; show _ ∧ _; omega
    · have := HSM.out j hj; show _ ∧ _; omega
  have HST : Hid (∀ i, stp l i = (px l ((fst l l.length + i) % l.length) - mnx l l.length, pz l ((fst l l.length + i) % l.length) - mnz l l.length)) := fun i => rfl
  have HSL : Hid (stl l = stk l l.length) := rfl
  have HZB := HSM.out _ HF.out
  obtain ⟨n, hn⟩ : ∃ n, n = l.length := ⟨_, rfl⟩
  have HN := Lib.hid hn
  have hbw := hr.lt h3
  rw [← hn] at h3 h12 HM HI HF HLM HMZ HMX HST HSL HZB ⊢
  have HZB := Lib.hid HZB
  generalize fst l n = st at *
  generalize hsx : px l st = sx at *
  generalize hsz : pz l st = sz at *
  have HSX := Lib.hid (And.intro hsx hsz)
  clear hr hs hn hsx hsz
  go_enter Try.func69, Try.ntmps69
  go_wp2_with fail
  refine (HM.out _ (Below.refl _ _)).mono ?_
  rintro e w1 ⟨rfl, hb1⟩
  go_wp2_with fail
  have s3 : B2 w1.heap.size sx sz (w1.alloc (.cells #[.int .i64 sx, .int .i64 sz] 32)) := ⟨by simp [go_sem], by simp [go_sem], by simp [go_sem], by simp [go_sem]⟩
  have k1 := Below.thru hb1 hb1.size (bl1 w1 (.cells #[.int .i64 sx, .int .i64 sz] 32))
  have hT3w : w.heap.size ≤ w1.heap.size := hb1.size
  generalize w1.alloc (.cells #[.int .i64 sx, .int .i64 sz] 32) = w2 at *
  generalize w1.heap.size = T3 at *
  have HIX : Hid (∀ d os, Calls Try.prog 102 #[.slice (some ⟨b, o, none⟩) n c, .agg #[.int .i64 sx, .int .i64 sz]] (Sort.grow (redrawn w2 d) os) fun e w'' => e = .returned (.int .i64 (st : Nat)) ∧ ∃ p : Regrown, w'' = Sort.grow (redrawn w2 p.d) p.os) := fun d os => Calls.regrown_of (HI.out _ (Below.thru k1 k1.size (below_regrown w2 d os)))
  have c1 := cell_regrown s3.1
  have c2 := cell_regrown s3.2.1
  refine wp_region_quiet_below (by kernel_rfl) (by kernel_rfl) ?_
  repeat (any_goals (first | go_big_quiet_step (exact HIX.out _ _) | quiet_step (exact HIX.out _ _)))
  refine wpQuiet_nil ?_
  intro _ hw'
  obtain ⟨⟨dq, osq⟩, hw''⟩ := hw'
  subst hw''
  have K2 := Lib.hid (Below.thru k1 k1.size (below_regrown w2 dq osq))
  have S3 := Lib.hid (s3.keep (below_regrown w2 dq osq))
  clear c1 c2 HIX s3 k1 hb1
  generalize Sort.grow (redrawn w2 dq) osq = w3 at *
  go_wp2
  go_loopw [20, 7, 5] (fun i _ lf wr => ∃ k : Nat, k ≤ n ∧ i = .int .i64 k ∧ lf = .int .i64 (lfR l sx k) ∧ Hid (B2 T3 sx sz wr ∧ Below w.heap.size w wr)) (fun i _ _ _ => n - (intOf i).toNat)
  case atStart => exact ⟨0, Nat.zero_le _, rfl, rfl, S3.out, K2.out⟩
  case round =>
    obtain ⟨k, hk, rfl, rfl, HS⟩ := hrel
    by_cases hlt : k < n
    · have hrow := HR.out.keep HS.out.2
      obtain ⟨ckx, ckz⟩ := hrow k (by rw [← HN.out]; exact hlt)
      have hb2 := Below.thru HS.out.2 HS.out.2.size (bl1 wr (.cells #[.int .i64 (px l k), .int .i64 (pz l k)] 32))
      have m2 := HS.out.1.keep (bl1 wr (.cells #[.int .i64 (px l k), .int .i64 (pz l k)] 32))
      have H2 := Lib.hid (And.intro m2 hb2)
      have HLF : Hid (lfR l sx (k + 1) = if px l k < lfR l sx k then px l k else lfR l sx k) := rfl
      clear hrow hb2 m2
      generalize px l k = fx at *
      generalize pz l k = fz at *
      generalize lfR l sx k = lk at *
      go_wp2
      go_roundw
      case rel => exact ⟨k + 1, by omega, by go_num, by rw [HLF.out], H2.out⟩
      case measure => simp [intOf]; omega
    · obtain rfl : k = n := by omega
      obtain ⟨sB, hB⟩ := HS.out
      have hT3 := cell_lt sB.1
      have HSB := Lib.hid sB
      have HBB := Lib.hid hB
      have hwl := hB.size
      rw [HLM.out]
      clear HLM HS sB hB
      generalize mnx l k = mx at *
      generalize mnz l k = mz at *
      obtain rfl : mz = sz := HMZ.out
      go_wp2_with (at_make; refine wpList_make_own _ rfl _ _ 85 rfl (T3 + 1) 32 i0 (.agg #[.int .i64 0, .int .i64 0]) 2 Try.underlying85' hi hz0 hz1 _ _ _ k rfl rfl rfl (by rw [hz2]; omega) (by unfold maxLen; omega) (by omega) ?_; intro w4 hown hgrow)
      have O4 : Hid (Own w4 (T3 + 1) (.slice (some ⟨wr.heap.size, 0, none⟩) 0 k) (stk l 0)) := hown
      have hB4 : Below (T3 + 1) wr w4 := (Below.refl _ _).grown hgrow (by omega) (fun r e => by cases e)
      have S4 : Hid (B2 T3 sx mz w4 ∧ Below w.heap.size w w4) := ⟨HSB.out.under hB4 (by omega), HBB.out.trans (hB4.mono (by omega))⟩
      clear hown hgrow hB4 HSB HBB
      go_wp2
      go_loopw [34, 9, 10, 8] (fun i _ _ v wr => ∃ k2 : Nat, k2 ≤ k ∧ i = .int .i64 k2 ∧ Hid (Own wr (T3 + 1) v (stk l k2)) ∧ Hid (B2 T3 sx mz wr ∧ Below w.heap.size w wr)) (fun i _ _ _ _ => k - (intOf i).toNat)
      case atStart => exact ⟨0, Nat.zero_le _, rfl, O4.out, S4.out⟩
      case round =>
        obtain ⟨k2, hk2, rfl, HO, HS⟩ := hrel
        by_cases hlt2 : k2 < k
        · have hjj : (st + k2) % k < k := Nat.mod_lt _ h3
          have hr : ((st : Int) + (k2 : Int)) % (k : Int) = (((st + k2) % k : Nat) : Int) := by rw [Int.natCast_emod]; rfl
          have h0 : ¬ (k : Int) = 0 := by omega
          have HS2 : Hid (stk l (k2 + 1) = stk l k2 ++ [(px l ((st + k2) % k) - mx, pz l ((st + k2) % k) - mz)]) := by
            show _ = _
            rw [stk_succ, HST.out]
          have hrow := HR.out.keep HS.out.2
          obtain ⟨ckx, ckz⟩ := hrow ((st + k2) % k) (by rw [← HN.out]; exact hjj)
          have hbb := HSM.out ((st + k2) % k) (by rw [← HN.out]; exact hjj)
          have hmx := HMX.out
          have hzb := HZB.out
          have hst := HF.out
          generalize (st + k2) % k = jj at *
          generalize px l jj = fx at *
          generalize pz l jj = fz at *
          have v1 := IntWalk.i64_in (fx - mx) (by omega)
          have v2 := IntWalk.i64_in (fz - mz) (by omega)
          have hown : wr.ownsRow (T3 + 1) 32 2 u8 k2 (cls (stk l k2)) := by
            have := HO.out
            unfold Own at this
            rw [stk_length] at this
            exact this
          obtain ⟨d0, d1, _, _⟩ := id HS.out.1
          have hT := cell_lt d0
          have hwl2 := HS.out.2.size
          have hbl := cell_lt ckx
          clear hrow hmx hzb
          go_wp2_with (at_builtin; refine wpList_append_own _ rfl (.tmp 46) (.tmp 57) 85 rfl (T3 + 1) 32 i0 (.agg #[.int .i64 0, .int .i64 0]) 2 16 Try.underlying85' hi hz0 hz1 hz2 rfl (by decide) _ _ _ rfl ((hown.alloc _).alloc _) ⟨wr.heap.size + 1, 0, none⟩ 1 1 [.int .i64 (fx - mx), .int .i64 (fz - mz)] rfl rfl two_new2 (by simp [Value.oneCell']) (by unfold maxLen; omega) (by omega) (by simp; omega) ?_; intro v' w9 hown' hgrow _)
          have hBg : Below (T3 + 1) wr w9 := (((Below.refl _ _).alloc (by omega) _).alloc (by simp; omega) _).grown hgrow (by simp; omega) (fun r e => (hown.lt r e).1)
          go_wp2
          go_roundw
          case rel =>
            refine ⟨k2 + 1, by omega, by go_num, ?_, HS.out.1.under hBg (by omega), HS.out.2.trans (hBg.mono (by omega))⟩
            rw [HS2.out]
            show World.ownsRow _ _ _ _ _ _ _
            rw [List.length_append, stk_length, cls_snoc]
            exact hown'
          case measure => simp [intOf]; omega
        · obtain rfl : k2 = k := by omega
          have HFI : Hid (Own wr w.heap.size u8 (stl l)) := Own.base (by rw [HSL.out]; exact HO.out) (by omega)
          have hB := HS.out.2
          go_wp2
          go_ret
          exact ⟨⟨_, rfl, HFI.out⟩, hB⟩
end Go.Proofs.Ytljmhejljpfaiaa
