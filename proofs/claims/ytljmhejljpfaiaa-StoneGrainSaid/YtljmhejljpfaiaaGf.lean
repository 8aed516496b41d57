import Derived.Test.YtljmhejljpfaiaaGd
import Derived.Test.YtljmhejljpfaiaaDb
namespace Go.Proofs.Ytljmhejljpfaiaa
set_option maxRecDepth 100000
open Go.RowKit Go.Shelf

/-! the reference's Left -/
theorem lfL_len (l : List Pt) (p q : Pt) (f : Nat) : ∀ k, (lfL l p q f k).length ≤ k
  | 0 => Nat.le_refl _
  | k + 1 => by
    have := lfL_len l p q f k
    unfold lfL
    rw [List.length_append]
    split
    · simp; omega
    · simp; omega
set_option maxHeartbeats 8000000 in
theorem left_any (b o c : Nat) (l : List Pt) (x1 z1 x2 z2 : Int) (w : World) (hr : Row w b o l) (h3 : 0 < l.length) (h12 : l.length ≤ 1000) (hx : Bx l) (hp : Sm x1 ∧ Sm z1) (hq : Sm x2 ∧ Sm z2) :
    Calls Try.prog 46 #[.slice (some ⟨b, o, none⟩) l.length c, .agg #[.int .i64 x1, .int .i64 z1], .agg #[.int .i64 x2, .int .i64 z2]] w fun e w' =>
      (∃ v, e = .returned v ∧ OwnR w' w.heap.size v (leftR l (x1, z1) (x2, z2))) ∧ Below w.heap.size w w' := by
  obtain ⟨i0, hi, hz0, hz1, hz2⟩ := info_parts Try.info24
  have HR := Lib.hid hr
  have HSD := Lib.hid (fun k (hk : k < l.length) W => side_any x1 z1 x2 z2 (px l k) (pz l k) W hp.1 hp.2 hq.1 hq.2 (hx.sm k hk).1 (hx.sm k hk).2)
  have HLI : Hid (∀ k, lfI l (x1, z1) (x2, z2) (k + 1) = if 0 < trn x1 z1 x2 z2 (px l k) (pz l k) ∧ trn x1 z1 x2 z2 (px l ((k + l.length - 1) % l.length)) (pz l ((k + l.length - 1) % l.length)) ≤ 0 then k else lfI l (x1, z1) (x2, z2) k) := fun k => rfl
  have HLT := Lib.hid (lfI_lt l (x1, z1) (x2, z2) h3)
  have HL : Hid (leftR l (x1, z1) (x2, z2) = [(x1, z1), (x2, z2)] ++ lfL l (x1, z1) (x2, z2) (lfI l (x1, z1) (x2, z2) l.length) l.length) := rfl
  have HLS : Hid (∀ f k, lfL l (x1, z1) (x2, z2) f (k + 1) = lfL l (x1, z1) (x2, z2) f k ++ (if 0 < trn x1 z1 x2 z2 (px l ((f + k) % l.length)) (pz l ((f + k) % l.length)) then [(px l ((f + k) % l.length), pz l ((f + k) % l.length))] else [])) := fun f k => rfl
  have HLL := Lib.hid (lfL_len l (x1, z1) (x2, z2))
  have HL0 : Hid (∀ f, lfL l (x1, z1) (x2, z2) f 0 = []) := fun _ => rfl
  have HI0 : Hid (lfI l (x1, z1) (x2, z2) 0 = 0) := rfl
  obtain ⟨n, hn⟩ : ∃ n, n = l.length := ⟨_, rfl⟩
  rw [← hn] at h3 h12 HSD HLI HLT HL HLS ⊢
  have HN := Lib.hid hn
  have hbw := hr.lt (by omega)
  clear hr hx hp hq hn
  generalize lfL l (x1, z1) (x2, z2) = LL at *
  generalize lfI l (x1, z1) (x2, z2) = LI at *
  have S0 : Hid (B2 w.heap.size x1 z1 (((w.alloc (.cells #[.int .i64 x1, .int .i64 z1] 24)).alloc (.cells #[.int .i64 x2, .int .i64 z2] 24)).alloc (.cells #[.int .i64 x1, .int .i64 z1, .int .i64 x2, .int .i64 z2] 24)) ∧ B2 (w.heap.size + 1) x2 z2 (((w.alloc (.cells #[.int .i64 x1, .int .i64 z1] 24)).alloc (.cells #[.int .i64 x2, .int .i64 z2] 24)).alloc (.cells #[.int .i64 x1, .int .i64 z1, .int .i64 x2, .int .i64 z2] 24)) ∧
    OwnR (((w.alloc (.cells #[.int .i64 x1, .int .i64 z1] 24)).alloc (.cells #[.int .i64 x2, .int .i64 z2] 24)).alloc (.cells #[.int .i64 x1, .int .i64 z1, .int .i64 x2, .int .i64 z2] 24)) (w.heap.size + 2) (.slice (some ⟨w.heap.size + 1 + 1, 0, none⟩) 2 2) [(x1, z1), (x2, z2)] ∧
    Below w.heap.size w (((w.alloc (.cells #[.int .i64 x1, .int .i64 z1] 24)).alloc (.cells #[.int .i64 x2, .int .i64 z2] 24)).alloc (.cells #[.int .i64 x1, .int .i64 z1, .int .i64 x2, .int .i64 z2] 24))) := by
    refine ⟨⟨by simp [go_sem], by simp [go_sem], by simp [go_sem], by simp [go_sem]⟩, ⟨by simp [go_sem], by simp [go_sem], by simp [go_sem], by simp [go_sem]⟩, ?_, bl3 w _ _ _⟩
    refine ⟨rfl, .inr ⟨w.heap.size + 1 + 1, 2, #[.int .i64 x1, .int .i64 z1, .int .i64 x2, .int .i64 z2], rfl, by omega, ?_, Nat.le_refl _, by unfold maxLen; omega, rfl, rfl⟩⟩
    have := World.alloc_heap_new ((w.alloc (.cells #[.int .i64 x1, .int .i64 z1] 24)).alloc (.cells #[.int .i64 x2, .int .i64 z2] 24)) (.cells #[.int .i64 x1, .int .i64 z1, .int .i64 x2, .int .i64 z2] 24)
    simpa using this
  have hsz : (((w.alloc (.cells #[.int .i64 x1, .int .i64 z1] 24)).alloc (.cells #[.int .i64 x2, .int .i64 z2] 24)).alloc (.cells #[.int .i64 x1, .int .i64 z1, .int .i64 x2, .int .i64 z2] 24)).heap.size = w.heap.size + 3 := by simp
  go_enter Try.func46, Try.ntmps46
  go_wp2
  generalize ((w.alloc (.cells #[.int .i64 x1, .int .i64 z1] 24)).alloc (.cells #[.int .i64 x2, .int .i64 z2] 24)).alloc (.cells #[.int .i64 x1, .int .i64 z1, .int .i64 x2, .int .i64 z2] 24) = w0 at *
  have HK0 : Hid (∀ W, Below (w.heap.size + 2) w0 W → B2 w.heap.size x1 z1 W ∧ B2 (w.heap.size + 1) x2 z2 W ∧ Below w.heap.size w W) := fun W kk => ⟨S0.out.1.under kk (by omega), S0.out.2.1.under kk (by omega), S0.out.2.2.2.trans (kk.mono (by omega))⟩
  have HOW := Lib.hid S0.out.2.2.1
  go_loopw [9, 8] (fun i f wr => ∃ k : Nat, k ≤ n ∧ i = .int .i64 k ∧ f = .int .i64 (LI k : Nat) ∧ Below w0.heap.size w0 wr) (fun i _ _ => n - (intOf i).toNat)
  case atStart => exact ⟨0, Nat.zero_le _, rfl, by rw [HI0.out]; rfl, Below.refl _ _⟩
  case round =>
    obtain ⟨k, hk, rfl, rfl, hB⟩ := hrel
    by_cases hkn : k < n
    · have hjn : (k + n - 1) % n < n := Nat.mod_lt _ h3
      have hr' : ((k : Int) + (n : Int) - 1) % (n : Int) = (((k + n - 1) % n : Nat) : Int) := by rw [Int.natCast_emod]; congr 1; omega
      have h0 : ¬ (n : Int) = 0 := by omega
      have HL1 := Lib.hid (HLI.out k)
      have q9 := HK0.out _ (hB.mono (by omega))
      have hrow := HR.out.keep q9.2.2
      obtain ⟨jj, hjj⟩ : ∃ jj, jj = (k + n - 1) % n := ⟨_, rfl⟩
      rw [← hjj] at hjn hr' HL1
      clear hjj
      have HT := Lib.hid (quiet_below (fun w => HSD.out k hkn w))
      have HU := Lib.hid (quiet_below (fun w => HSD.out jj hjn w))
      obtain ⟨ckx, ckz⟩ := hrow k (by rw [← HN.out]; exact hkn)
      obtain ⟨cjx, cjz⟩ := hrow jj (by rw [← HN.out]; exact hjn)
      have kkx := cell_regrown ckx
      have kkz := cell_regrown ckz
      have kjx := cell_regrown cjx
      have kjz := cell_regrown cjz
      have kx := cell_regrown q9.1.1
      have kz := cell_regrown q9.1.2.1
      have jx := cell_regrown q9.2.1.1
      have jz := cell_regrown q9.2.1.2.1
      clear hrow ckx ckz cjx cjz q9
      generalize trn x1 z1 x2 z2 (px l k) (pz l k) = t1 at *
      generalize trn x1 z1 x2 z2 (px l jj) (pz l jj) = t2 at *
      by_cases g1 : 0 < t1
      · have hd : decide (0 < t1) = true := by simpa using g1
        go_wp2_with fail
        refine wp_region_quiet_below (by kernel_rfl) (by kernel_rfl) ?_
        repeat (any_goals (first | go_big_quiet_step ((go_at_call 87; first | (with_reducible exact HT.out wr _ _) | (with_reducible exact HU.out wr _ _) | exact HT.out wr _ _ | exact HU.out wr _ _)) | quiet_step ((go_at_call 87; first | (with_reducible exact HT.out wr _ _) | (with_reducible exact HU.out wr _ _) | exact HT.out wr _ _ | exact HU.out wr _ _))))
        refine wpQuiet_nil ?_
        intro _ hw'
        obtain ⟨⟨dq1, osq1⟩, hw''⟩ := hw'
        subst hw''
        have hBq := Below.thru hB hB.size (below_regrown wr dq1 osq1)
        clear kkx kkz kx kz jx jz kjx kjz hd
        generalize Sort.grow (redrawn wr dq1) osq1 = w2 at *
        by_cases g2 : t2 ≤ 0
        · have HL2 : Hid (LI (k + 1) = k) := by show _ = _; rw [HL1.out, if_pos ⟨g1, g2⟩]
          go_wp2
          go_roundw
          case rel => exact ⟨k + 1, by omega, by go_num, by rw [HL2.out], hBq⟩
          case measure => simp [intOf]; omega
        · have HL2 : Hid (LI (k + 1) = LI k) := by show _ = _; rw [HL1.out, if_neg (fun h => g2 h.2)]
          go_wp2
          go_roundw
          case rel => exact ⟨k + 1, by omega, by go_num, by rw [HL2.out], hBq⟩
          case measure => simp [intOf]; omega
      · have HL2 : Hid (LI (k + 1) = LI k) := by show _ = _; rw [HL1.out, if_neg (fun h => g1 h.1)]
        have hd : decide (0 < t1) = false := by simpa using g1
        go_wp2_with fail
        refine wp_region_quiet_below (by kernel_rfl) (by kernel_rfl) ?_
        repeat (any_goals (first | go_big_quiet_step ((go_at_call 87; exact HT.out wr _ _)) | quiet_step ((go_at_call 87; exact HT.out wr _ _))))
        refine wpQuiet_nil ?_
        intro _ hw'
        obtain ⟨⟨dq1, osq1⟩, hw''⟩ := hw'
        subst hw''
        have hBq := Below.thru hB hB.size (below_regrown wr dq1 osq1)
        clear kkx kkz kx kz jx jz kjx kjz hd
        generalize Sort.grow (redrawn wr dq1) osq1 = w2 at *
        go_wp2
        go_roundw
        case rel => exact ⟨k + 1, by omega, by go_num, by rw [HL2.out], hBq⟩
        case measure => simp [intOf]; omega
    · obtain rfl : k = n := by omega
      have hfn := HLT.out k (Nat.le_refl _)
      have HFN := Lib.hid hfn
      have HO1 := Lib.hid (HOW.out.keep hB)
      have HB1 : Hid (Below (w.heap.size + 2) w0 wr) := hB.mono (by omega)
      obtain ⟨f, hf⟩ : ∃ f, f = LI k := ⟨_, rfl⟩
      rw [← hf] at hfn HFN HL ⊢
      clear hf
      go_wp2
      obtain ⟨wo, hwo⟩ : ∃ wo : World, wo = wr := ⟨_, rfl⟩
      rw [← hwo] at HO1 HB1 ⊢
      clear hB hwo
      go_loopw [10, 11, 7] (fun i _ v wr => ∃ j : Nat, j ≤ k ∧ i = .int .i64 j ∧ Hid (OwnR wr (w.heap.size + 2) v ([(x1, z1), (x2, z2)] ++ LL f j)) ∧ Hid (Below (w.heap.size + 2) w0 wr)) (fun i _ _ _ => k - (intOf i).toNat)
      case atStart => exact ⟨0, Nat.zero_le _, rfl, by rw [HL0.out]; exact HO1.out, HB1.out⟩
      case round =>
        obtain ⟨j, hj, rfl, HO, HB⟩ := hrel
        have hwr : w.heap.size + 3 ≤ wr.heap.size := by have := HB.out.size; omega
        by_cases hjk : j < k
        · have hm : (f + j) % k < k := Nat.mod_lt _ h3
          have hr' : ((f : Int) + (j : Int)) % (k : Int) = (((f + j) % k : Nat) : Int) := by rw [Int.natCast_emod]; rfl
          have h0 : ¬ (k : Int) = 0 := by omega
          have HL1 := Lib.hid (HLS.out f j)
          have q9 := HK0.out _ HB.out
          have hrow := HR.out.keep q9.2.2
          obtain ⟨m, hmm⟩ : ∃ m, m = (f + j) % k := ⟨_, rfl⟩
          rw [← hmm] at hm hr' HL1
          clear hmm
          have HT := Lib.hid (HSD.out m hm)
          obtain ⟨ckx, ckz⟩ := hrow m (by rw [← HN.out]; exact hm)
          generalize trn x1 z1 x2 z2 (px l m) (pz l m) = t1 at *
          generalize px l m = fx at *
          generalize pz l m = fz at *
          have hlen := HLL.out f j
          have hown : wr.ownsRow (w.heap.size + 2) 24 2 u7 (2 + (LL f j).length) (cls ([(x1, z1), (x2, z2)] ++ LL f j)) := by
            have := HO.out
            unfold OwnR at this
            rw [List.length_append] at this
            exact this
          have HW := Lib.hid hown
          have S5 : Hid (B2 w.heap.size x1 z1 (wr.alloc (.cells #[.int .i64 fx, .int .i64 fz] 24)) ∧ B2 (w.heap.size + 1) x2 z2 (wr.alloc (.cells #[.int .i64 fx, .int .i64 fz] 24)) ∧ B2 wr.heap.size fx fz (wr.alloc (.cells #[.int .i64 fx, .int .i64 fz] 24)) ∧ Below wr.heap.size wr (wr.alloc (.cells #[.int .i64 fx, .int .i64 fz] 24))) :=
            ⟨q9.1.keep (bl1 _ _), q9.2.1.keep (bl1 _ _), ⟨by simp [go_sem], by simp [go_sem], by simp [go_sem], by simp [go_sem]⟩, bl1 _ _⟩
          have hbl := cell_lt ckx
          obtain ⟨p0, p1, _, _⟩ := S5.out.1
          obtain ⟨r0, r1, _, _⟩ := S5.out.2.1
          clear hrow q9 hown hlen
          go_wp2_with fail
          generalize wr.alloc (.cells #[.int .i64 fx, .int .i64 fz] 24) = w5 at *
          clear p0 p1 r0 r1 ckx ckz
          refine (HT.out _).mono ?_
          rintro e w6 ⟨rfl, hb6⟩
          have hb56 := Below.thru S5.out.2.2.2 S5.out.2.2.2.size hb6
          have hB6 : Below (w.heap.size + 2) wr w6 := hb56.mono (by omega)
          obtain ⟨c0, c1, _, _⟩ := S5.out.2.2.1.keep hb6
          have hown6 := own_of HW.out (fun g cap hv ⟨cur, hg⟩ => hb56.block g (Array.getElem?_eq_some_iff.1 hg).1)
          have HOR : Hid (OwnR w6 (w.heap.size + 2) u7 ([(x1, z1), (x2, z2)] ++ LL f j)) := HO.out.keep hb56
          have hs6 := hb56.size
          have HB6 := Lib.hid (HB.out.trans hB6)
          have hlen := HLL.out f j
          clear hb6 hb56 hB6
          by_cases g1 : 0 < t1
          · have HL2 : Hid (LL f (j + 1) = LL f j ++ [(fx, fz)]) := by show _ = _; rw [HL1.out, if_pos g1]
            go_wp2_with (at_builtin; refine wpList_append_own _ rfl (.tmp 67) (.tmp 69) 22 rfl (w.heap.size + 2) 24 i0 (.agg #[.int .i64 0, .int .i64 0]) 2 16 Try.underlying22' hi hz0 hz1 hz2 rfl (by decide) _ _ _ rfl (hown6.alloc _) ⟨w6.heap.size, 0, none⟩ 1 1 [.int .i64 fx, .int .i64 fz] rfl rfl two_new (by simp [Value.oneCell']) (by unfold maxLen; omega) (by omega) (by simp; omega) ?_; intro v' w9 hown' hgrow _)
            have hBg : Below (w.heap.size + 2) w6 w9 := ((Below.refl _ _).alloc (by omega) _).grown hgrow (by simp; omega) (fun r e => (hown6.lt r e).1)
            go_wp2
            go_roundw
            case rel =>
              refine ⟨j + 1, by omega, by go_num, ?_, HB6.out.trans hBg⟩
              rw [HL2.out, ← List.append_assoc]
              show World.ownsRow _ _ _ _ _ _ _
              rw [List.length_append, List.length_append, cls_snoc]
              exact hown'
            case measure => simp [intOf]; omega
          · have HL2 : Hid (LL f (j + 1) = LL f j) := by show _ = _; rw [HL1.out, if_neg g1, List.append_nil]
            go_wp2
            go_roundw
            case rel => exact ⟨j + 1, by omega, by go_num, by rw [HL2.out]; exact HOR.out, HB6.out⟩
            case measure => simp [intOf]; omega
        · obtain rfl : j = k := by omega
          have HFI : Hid (OwnR wr w.heap.size u7 (leftR l (x1, z1) (x2, z2))) := OwnR.base (by rw [HL.out]; exact HO.out) (by omega)
          have HKK := Lib.hid (HK0.out _ HB.out).2.2
          go_wp2
          go_ret
          exact ⟨⟨_, rfl, HFI.out⟩, HKK.out⟩
end Go.Proofs.Ytljmhejljpfaiaa
namespace Go.Proofs.Ytljmhejljpfaiaa
set_option maxRecDepth 100000
open Go.RowKit Go.Shelf

/-! the reference's Piece -/
set_option maxHeartbeats 8000000 in
theorem rpiece_any (nm lt : ByteArray) (v0 : Value) (dp dn gx gz : Int) (b o c : Nat) (l : List Pt) (w : World) (hr : Row w b o l) (h3 : 0 < l.length) (h12 : l.length ≤ 1000) (hs : ∀ i, i < l.length → Sm (px l i) ∧ Sm (pz l i)) (hnm : nm.size + lt.size ≤ maxLen) :
    Calls Try.prog 80 #[.agg #[.string nm, v0, .int .i64 dp, .int .i64 dn, .int .i64 gx, .int .i64 gz], .string lt, .slice (some ⟨b, o, none⟩) l.length c] w fun e w' =>
      (∃ v, e = .returned (.agg (c6 (nm ++ lt) v dp dn gx gz)) ∧ OwnR w' w.heap.size v (stl l)) ∧ Below w.heap.size w w' := by
  have HP := Lib.hid (fun W (k : Below w.heap.size w W) => settle_any b o c l W (hr.keep k) h3 h12 hs)
  unfold maxLen at hnm
  clear hr hs
  generalize stl l = sl at *
  generalize l.length = n at *
  have k0 := bl2 w (.cells (c6 nm v0 dp dn gx gz) 26) (.cells (c6 ⟨#[]⟩ (.slice none 0 0) 0 0 0 0) 26)
  have b1 : Blk w.heap.size (c6 nm v0 dp dn gx gz) 26 ((w.alloc (.cells (c6 nm v0 dp dn gx gz) 26)).alloc (.cells (c6 ⟨#[]⟩ (.slice none 0 0) 0 0 0 0) 26)) := (Blk.new w _ 26).alloc _
  have b2 : Blk (w.heap.size + 1) (c6 ⟨#[]⟩ (.slice none 0 0) 0 0 0 0) 26 ((w.alloc (.cells (c6 nm v0 dp dn gx gz) 26)).alloc (.cells (c6 ⟨#[]⟩ (.slice none 0 0) 0 0 0 0) 26)) := by
    have := Blk.new (w.alloc (.cells (c6 nm v0 dp dn gx gz) 26)) (c6 ⟨#[]⟩ (.slice none 0 0) 0 0 0 0) 26
    rw [World.size_alloc] at this
    exact this
  have hsz : ((w.alloc (.cells (c6 nm v0 dp dn gx gz) 26)).alloc (.cells (c6 ⟨#[]⟩ (.slice none 0 0) 0 0 0 0) 26)).heap.size = w.heap.size + 2 := by simp
  go_enter Try.func80, Try.ntmps80
  go_wp2
  generalize (w.alloc (.cells (c6 nm v0 dp dn gx gz) 26)).alloc (.cells (c6 ⟨#[]⟩ (.slice none 0 0) 0 0 0 0) 26) = w0 at *
  have HBS : Hid (∀ W, Below w0.heap.size w0 W → Blk w.heap.size (c6 nm v0 dp dn gx gz) 26 W ∧ Blk (w.heap.size + 1) (c6 ⟨#[]⟩ (.slice none 0 0) 0 0 0 0) 26 W ∧ Below w.heap.size w W) := fun W kk => ⟨b1.below kk, b2.below kk, Below.thru k0 k0.size kk⟩
  have q1 := HBS.out w0.drew ((Below.refl _ _).drew)
  have a0 := q1.1.cell (i := 0) rfl
  have KD := Lib.hid q1.2.2
  have HSZ := Lib.hid hsz
  clear b1 b2 k0 q1 hsz
  go_region_with ((go_at_call 71; refine (HP.out _ KD.out).mono ?_; rintro e w6 ⟨⟨v6, rfl, ho6⟩, hb6⟩; obtain ⟨vp, vn, vc, rfl⟩ := own_form ho6; have k6 := Below.thru ((Below.refl w0.heap.size w0).drew) (Nat.le_refl _) hb6; have q6 := HBS.out _ k6; have O6 := Lib.hid ho6; have K6 := Lib.hid q6.2.2; have x0 := q6.1.cell (i := 0) rfl; have x1 := q6.1.cell (i := 1) rfl; have x2 := q6.1.cell (i := 2) rfl; have x3 := q6.1.cell (i := 3) rfl; have x4 := q6.1.cell (i := 4) rfl; have x5 := q6.1.cell (i := 5) rfl; have y0 := q6.1.frozen 0; have y1 := q6.1.frozen 1; have z0 := q6.2.1.cell (i := 0) rfl; have z1 := q6.2.1.cell (i := 1) rfl; have z2 := q6.2.1.cell (i := 2) rfl; have z3 := q6.2.1.cell (i := 3) rfl; have z4 := q6.2.1.cell (i := 4) rfl; have z5 := q6.2.1.cell (i := 5) rfl; have f0 := q6.2.1.frozen 0; have f1 := q6.2.1.frozen 1; have f2 := q6.2.1.frozen 2; have f3 := q6.2.1.frozen 3; have f4 := q6.2.1.frozen 4; have f5 := q6.2.1.frozen 5; clear q6 k6 hb6 ho6 a0))
  all_goals
    go_wp2
    refine bodyPost_ret (v := .agg (c6 (nm ++ lt) (.slice vp vn vc) dp dn gx gz)) (by simp [results, Try.results80, go_sem, z0, z1, z2, z3, z4, z5]) rfl ⟨⟨.slice vp vn vc, rfl, ?_⟩, ?_⟩
    · have h := OwnR.base (b2 := w.heap.size + 2) O6.out (by rw [World.size_drew, HSZ.out]; omega)
      exact OwnR.base (((h.set1 (by omega) _).set1 (by omega) _).far6 (by omega) _ _ _ _ _ _) (by omega)
    · exact below6 ((K6.out.setCell (Nat.le_refl _) _).setCell (Nat.le_refl _) _) (by omega) _ _ _ _ _ _
end Go.Proofs.Ytljmhejljpfaiaa
