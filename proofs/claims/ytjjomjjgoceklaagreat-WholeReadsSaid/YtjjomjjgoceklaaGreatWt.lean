import Derived.Test.YtjjomjjgoceklaaGreatWr
namespace Go.Proofs.YtjjomjjgoceklaaGreat
set_option maxRecDepth 100000
open Go.RowKit

/-! Parse of the reference, of a text with a slash: the ratio -/
set_option maxHeartbeats 2000000 in
theorem parser_ok (s : ByteArray) (i : Nat) (w : World) (hs : s.size ≤ 1000) (hlt : i < s.size) (hn : NoSl s i) (hi : byteAt s i = 47) (hL : IntP (s.extract 0 i)) (hR : NatP (s.extract (i + 1) s.size)) (h0 : dec (s.extract (i + 1) s.size) (s.extract (i + 1) s.size).size ≠ 0) : Calls Tryz.prog 19 #[.string s] w (PPa 0 (Rat.divInt (pzi (s.extract 0 i)) (dec (s.extract (i + 1) s.size) (s.extract (i + 1) s.size).size : Int)) w) := by
  have HN := Lib.hid hn; have HI := Lib.hid hi
  have hl1 : (s.extract 0 i).size ≤ 1000 := by rw [ByteArray.size_extract]; omega
  have hr1 : (s.extract (i + 1) s.size).size ≤ 1000 := by rw [ByteArray.size_extract]; omega
  have HL := Lib.hid (fun W => isIntr_any (s.extract 0 i) W (by omega) true (by simp [hL]))
  have HR := Lib.hid (fun W => digitsr_any (s.extract (i + 1) s.size) W (by omega) true (by simp [hR]))
  have HZ := Lib.hid (fun W => zparseN_any (s.extract (i + 1) s.size) W hr1 hR)
  have HY := Lib.hid (fun W => zparse_any (s.extract 0 i) W hl1 hL)
  have SL := Lib.hid (pzi_tn hl1 hL).sr
  have SR : Hid (Sr (dec (s.extract (i + 1) s.size) (s.extract (i + 1) s.size).size : Int)) := Tn.sr (by rw [Int.natAbs_natCast]; exact ⟨_, hr1, dec_lt _ _ hR.dig⟩)
  have h0' : (dec (s.extract (i + 1) s.size) (s.extract (i + 1) s.size).size : Int) ≠ 0 := by omega
  generalize pzi (s.extract 0 i) = y at *
  generalize (dec (s.extract (i + 1) s.size) (s.extract (i + 1) s.size).size : Int) = z at *
  have H0 := Lib.hid h0'
  clear h0 h0' hL hR
  clear hn hi hl1 hr1
  go_enter Tryz.func19, Tryz.ntmps19
  go_wp2
  go_loop [4] (fun t => ∃ k : Nat, k ≤ i ∧ t = .int .i64 k) (fun t => i - (intOf t).toNat)
  case atStart => exact ⟨0, Nat.zero_le _, rfl⟩
  case round =>
    obtain ⟨k, hk, rfl⟩ := hrel
    by_cases hki : k < i
    · have hks : k < s.size := by omega
      have hb := byteAt_get hks
      have hx := HN.out k hki
      have g1 : (((s[k]).toNat : Int) == 47) = false := by rw [← hb, beq_eq_false_iff_ne]; omega
      clear hb hx
      go_wp2
      go_round
      case rel => exact ⟨k + 1, by omega, by go_num⟩
      case measure => simp [intOf]; omega
    · obtain rfl : k = i := by omega
      have hb := byteAt_get hlt
      have g1 : (((s[k]).toNat : Int) == 47) = true := by rw [← hb, HI.out]; rfl
      clear hb
      have t1 : R4 w.heap.size (w.alloc (.cells #[.int .i64 0, .slice none 0 0, .int .i64 0, .slice none 0 0] 44)) := r4_new _ rfl
      go_wp2_with fail
      refine (HL.out _).mono ?_
      rintro e w1 ⟨hb1, rfl⟩
      have t2 := t1.keep (hb1.mono (by simp))
      have k1 := Below.thru (bl1 w _) (by simp) hb1
      have z1 : w.heap.size < w1.heap.size := Nat.lt_of_lt_of_le (by simp) hb1.size
      clear hb1 t1
      go_wp2_with fail
      refine (HR.out _).mono ?_
      rintro e w2 ⟨hb2, rfl⟩
      have t3 := t2.keep hb2
      have k2 := Below.thru k1 k1.size hb2
      have z2 : w.heap.size < w2.heap.size := Nat.lt_of_lt_of_le z1 hb2.size
      clear hb2 t2 k1 z1
      go_wp2_with fail
      refine (HZ.out _).mono ?_
      rintro e w3 ⟨hb3, v3, rfl, h3⟩
      have t4 := t3.keep hb3
      have k3 := Below.thru k2 k2.size hb3
      have z3 : w.heap.size < w3.heap.size := Nat.lt_of_lt_of_le z2 hb3.size
      obtain ⟨p3, l3, c3, rfl⟩ := h3.agg
      clear hb3 t3 k2 z2
      have g5 : (z.sign == 0) = false := by
        rw [beq_eq_false_iff_ne]
        intro h
        exact H0.out (Int.sign_eq_zero_iff_zero.1 h)
      have H3 := Lib.hid h3
      generalize z.sign = sg at *
      clear h3
      go_upto_region 10 with fail
      have q0 : (w3.alloc (.cells #[.int .i64 sg, .slice p3 l3 c3] 41)).drew.cell? ⟨w3.heap.size, 0, none⟩ = some (.int .i64 sg) ∧ (w3.alloc (.cells #[.int .i64 sg, .slice p3 l3 c3] 41)).drew.cell? ⟨w3.heap.size, 1, none⟩ = some (.slice p3 l3 c3) := ⟨by simp [go_sem], by simp [go_sem]⟩
      have t5 : R4 w.heap.size (w3.alloc (.cells #[.int .i64 sg, .slice p3 l3 c3] 41)).drew := t4.keep (bl1 _ _).drew
      have k5 : Below w.heap.size w (w3.alloc (.cells #[.int .i64 sg, .slice p3 l3 c3] 41)).drew := (Below.thru k3 k3.size (bl1 w3 (.cells #[.int .i64 sg, .slice p3 l3 c3] 41))).drew
      have h5 : RZ (w3.alloc (.cells #[.int .i64 sg, .slice p3 l3 c3] 41)).drew (.agg #[.int .i64 sg, .slice p3 l3 c3]) z := H3.out.keep (B := w3.heap.size) (bl1 _ _).drew (Nat.le_refl _)
      have z5 : w3.heap.size < (w3.alloc (.cells #[.int .i64 sg, .slice p3 l3 c3] 41)).drew.heap.size := by simp
      clear t4 k3
      generalize w3.alloc (.cells #[.int .i64 sg, .slice p3 l3 c3] 41) = w4 at *
      have i1 : (0 : Int) ≤ (k : Int) := by omega
      have i2 : (k : Int) ≤ (s.size : Int) := by omega
      have i3 : (0 : Int) ≤ (s.size : Int) := by omega
      go_region_held3 (fun w' => w'.cell? ⟨w3.heap.size, 0, none⟩ = some (.int .i64 sg) ∧ w'.cell? ⟨w3.heap.size, 1, none⟩ = some (.slice p3 l3 c3))
        (first | (with_reducible exact q8) | (with_reducible exact q7) | (with_reducible exact q6) | (with_reducible exact q0))
        (first
          | (go_at_call 18; (with_reducible refine (HY.out w4.drew).mono ?_); rintro e w6 ⟨hb6, v6, rfl, h6⟩
             have q6 : w6.cell? ⟨w3.heap.size, 0, none⟩ = some (.int .i64 sg) ∧ w6.cell? ⟨w3.heap.size, 1, none⟩ = some (.slice p3 l3 c3) := ⟨(hb6.cell (p := ⟨_, _, none⟩) z5).trans q0.1, (hb6.cell (p := ⟨_, _, none⟩) z5).trans q0.2⟩
             have t6 := t5.keep hb6; have k6 := Below.thru k5 k5.size hb6; have h56 := h5.keep hb6 (Nat.le_refl _); have z6 : w3.heap.size < w6.heap.size := Nat.lt_of_lt_of_le z5 hb6.size)
          | (go_at_call 29; (with_reducible refine (rofz_any _ _ y z w6 h6 h56 SL.out SR.out H0.out).mono ?_); rintro e w7 ⟨hb7, v7, rfl, h7⟩
             have q7 : w7.cell? ⟨w3.heap.size, 0, none⟩ = some (.int .i64 sg) ∧ w7.cell? ⟨w3.heap.size, 1, none⟩ = some (.slice p3 l3 c3) := ⟨(hb7.cell (p := ⟨_, _, none⟩) z6).trans q6.1, (hb7.cell (p := ⟨_, _, none⟩) z6).trans q6.2⟩
             have t7 := t6.keep hb7; have k7 := Below.thru k6 k6.size hb7; obtain ⟨s1, p1, l1, c1, s2, p2, l2, c2, rfl⟩ := h7.agg; obtain ⟨_, _, _, _, _, _, _, _, m1, m2, m3, m4, m5, m6, m7, m8⟩ := t7.cells
             have q8 : (st4r w7 w.heap.size (.int .i64 s1) (.slice p1 l1 c1) (.int .i64 s2) (.slice p2 l2 c2)).cell? ⟨w3.heap.size, 0, none⟩ = some (.int .i64 sg) ∧ (st4r w7 w.heap.size (.int .i64 s1) (.slice p1 l1 c1) (.int .i64 s2) (.slice p2 l2 c2)).cell? ⟨w3.heap.size, 1, none⟩ = some (.slice p3 l3 c3) := ⟨(grown4r w7 w.heap.size (.int .i64 s1) (.slice p1 l1 c1) (.int .i64 s2) (.slice p2 l2 c2)).cell (a := ⟨w3.heap.size, 0, none⟩) q7.1 (by simp; omega), (grown4r w7 w.heap.size (.int .i64 s1) (.slice p1 l1 c1) (.int .i64 s2) (.slice p2 l2 c2)).cell (a := ⟨w3.heap.size, 1, none⟩) q7.2 (by simp; omega)⟩))
      obtain ⟨n1, n2, n3, n4⟩ := four_cells m1 m2 m3 m4 (.int .i64 s1) (.slice p1 l1 c1) (.int .i64 s2) (.slice p2 l2 c2)
      have HF : Hid (RA (st4r w7 w.heap.size (.int .i64 s1) (.slice p1 l1 c1) (.int .i64 s2) (.slice p2 l2 c2)) (.agg #[.int .i64 s1, .slice p1 l1 c1, .int .i64 s2, .slice p2 l2 c2]) (Rat.divInt y z)) :=
        .of (h7.store t7.noI (grown4r w7 w.heap.size (.int .i64 s1) (.slice p1 l1 c1) (.int .i64 s2) (.slice p2 l2 c2)))
      have KF := Lib.hid (below4r k7 (Nat.le_refl w.heap.size) (.int .i64 s1) (.slice p1 l1 c1) (.int .i64 s2) (.slice p2 l2 c2))
      unfold st4r at n1 n2 n3 n4
      clear q0 q6 q7 q8
      go_wp2
      exact bodyPost_ret (v := .tuple #[.agg #[.int .i64 s1, .slice p1 l1 c1, .int .i64 s2, .slice p2 l2 c2], .int .i64 0]) (by simp [results, Tryz.results19, go_sem, n1, n2, n3, n4]) rfl ⟨KF.out, _, rfl, ⟨_, _, _, _, _, _, _, _, rfl⟩, fun _ => HF.out⟩
end Go.Proofs.YtjjomjjgoceklaaGreat
