import Derived.Test.YtjjomjjgoceklaaGreatWr
namespace Go.Proofs.YtjjomjjgoceklaaGreat
set_option maxRecDepth 100000
open Go.RowKit

/-! Parse of the reference, of a text with a slash -/
set_option maxHeartbeats 2000000 in
theorem parser_left (s : ByteArray) (i : Nat) (w : World) (hs : s.size ≤ 1000) (hlt : i < s.size) (hn : NoSl s i) (hi : byteAt s i = 47) (hL : ¬ IntP (s.extract 0 i)) : Calls Tryz.prog 19 #[.string s] w (PPa 1 0 w) := by
  have HN := Lib.hid hn; have HI := Lib.hid hi
  have hl1 : (s.extract 0 i).size ≤ 1000 := by rw [ByteArray.size_extract]; omega
  have hr1 : (s.extract (i + 1) s.size).size ≤ 1000 := by rw [ByteArray.size_extract]; omega
  have HL := Lib.hid (fun W => isIntr_any (s.extract 0 i) W (by omega) false (by simp [hL]))
  clear hn hi hl1 hr1
  go_enter Tryz.func19, Tryz.ntmps19
  go_wp2
  go_loop [4] (fun t => ∃ k : Nat, k ≤ i ∧ t = .int .i64 k) (fun t => i - (intOf t).toNat)
  case atStart => exact ⟨0, Nat.zero_le _, rfl⟩
  case round =>
    obtain ⟨k, hk, rfl⟩ := hrel
    by_cases hki : k < i
    · have hks : k < s.size := by omega
      have hb := byteAt_get hks
      have hx := HN.out k hki
      have g1 : (((s[k]).toNat : Int) == 47) = false := by rw [← hb, beq_eq_false_iff_ne]; omega
      clear hb hx
      go_wp2
      go_round
      case rel => exact ⟨k + 1, by omega, by go_num⟩
      case measure => simp [intOf]; omega
    · obtain rfl : k = i := by omega
      have hb := byteAt_get hlt
      have g1 : (((s[k]).toNat : Int) == 47) = true := by rw [← hb, HI.out]; rfl
      clear hb
      have t1 : R4 w.heap.size (w.alloc (.cells #[.int .i64 0, .slice none 0 0, .int .i64 0, .slice none 0 0] 44)) := r4_new _ rfl
      go_wp2_with fail
      refine (HL.out _).mono ?_
      rintro e w1 ⟨hb1, rfl⟩
      have t2 := t1.keep (hb1.mono (by simp))
      have k1 := Below.thru (bl1 w _) (by simp) hb1
      have z1 : w.heap.size < w1.heap.size := Nat.lt_of_lt_of_le (by simp) hb1.size
      clear hb1 t1
      obtain ⟨_, _, _, _, _, _, _, _, m1, m2, m3, m4, m5, m6, m7, m8⟩ := t2.cells
      obtain ⟨n1, n2, n3, n4⟩ := four_cells m1 m2 m3 m4 (.int .i64 0) (.slice none 0 0) (.int .i64 0) (.slice none 0 0)
      have KF := Lib.hid (below4r k1 (Nat.le_refl w.heap.size) (.int .i64 0) (.slice none 0 0) (.int .i64 0) (.slice none 0 0))
      unfold st4r at n1 n2 n3 n4
      go_wp2
      exact bodyPost_ret (v := .tuple #[.agg #[.int .i64 0, .slice none 0 0, .int .i64 0, .slice none 0 0], .int .i64 1]) (by simp [results, Tryz.results19, go_sem, n1, n2, n3, n4]) rfl ⟨KF.out, _, rfl, ⟨_, _, _, _, _, _, _, _, rfl⟩, fun h => by cases h⟩
set_option maxHeartbeats 2000000 in
theorem parser_right (s : ByteArray) (i : Nat) (w : World) (hs : s.size ≤ 1000) (hlt : i < s.size) (hn : NoSl s i) (hi : byteAt s i = 47) (hL : IntP (s.extract 0 i)) (hR : ¬ NatP (s.extract (i + 1) s.size)) : Calls Tryz.prog 19 #[.string s] w (PPa 1 0 w) := by
  have HN := Lib.hid hn; have HI := Lib.hid hi
  have hl1 : (s.extract 0 i).size ≤ 1000 := by rw [ByteArray.size_extract]; omega
  have hr1 : (s.extract (i + 1) s.size).size ≤ 1000 := by rw [ByteArray.size_extract]; omega
  have HL := Lib.hid (fun W => isIntr_any (s.extract 0 i) W (by omega) true (by simp [hL]))
  have HR := Lib.hid (fun W => digitsr_any (s.extract (i + 1) s.size) W (by omega) false (by simp [hR]))
  clear hn hi hl1 hr1
  go_enter Tryz.func19, Tryz.ntmps19
  go_wp2
  go_loop [4] (fun t => ∃ k : Nat, k ≤ i ∧ t = .int .i64 k) (fun t => i - (intOf t).toNat)
  case atStart => exact ⟨0, Nat.zero_le _, rfl⟩
  case round =>
    obtain ⟨k, hk, rfl⟩ := hrel
    by_cases hki : k < i
    · have hks : k < s.size := by omega
      have hb := byteAt_get hks
      have hx := HN.out k hki
      have g1 : (((s[k]).toNat : Int) == 47) = false := by rw [← hb, beq_eq_false_iff_ne]; omega
      clear hb hx
      go_wp2
      go_round
      case rel => exact ⟨k + 1, by omega, by go_num⟩
      case measure => simp [intOf]; omega
    · obtain rfl : k = i := by omega
      have hb := byteAt_get hlt
      have g1 : (((s[k]).toNat : Int) == 47) = true := by rw [← hb, HI.out]; rfl
      clear hb
      have t1 : R4 w.heap.size (w.alloc (.cells #[.int .i64 0, .slice none 0 0, .int .i64 0, .slice none 0 0] 44)) := r4_new _ rfl
      go_wp2_with fail
      refine (HL.out _).mono ?_
      rintro e w1 ⟨hb1, rfl⟩
      have t2 := t1.keep (hb1.mono (by simp))
      have k1 := Below.thru (bl1 w _) (by simp) hb1
      have z1 : w.heap.size < w1.heap.size := Nat.lt_of_lt_of_le (by simp) hb1.size
      clear hb1 t1
      go_wp2_with fail
      refine (HR.out _).mono ?_
      rintro e w2 ⟨hb2, rfl⟩
      have t3 := t2.keep hb2
      have k2 := Below.thru k1 k1.size hb2
      have z2 : w.heap.size < w2.heap.size := Nat.lt_of_lt_of_le z1 hb2.size
      clear hb2 t2 k1 z1
      obtain ⟨_, _, _, _, _, _, _, _, m1, m2, m3, m4, m5, m6, m7, m8⟩ := t3.cells
      obtain ⟨n1, n2, n3, n4⟩ := four_cells m1 m2 m3 m4 (.int .i64 0) (.slice none 0 0) (.int .i64 0) (.slice none 0 0)
      have KF := Lib.hid (below4r k2 (Nat.le_refl w.heap.size) (.int .i64 0) (.slice none 0 0) (.int .i64 0) (.slice none 0 0))
      unfold st4r at n1 n2 n3 n4
      go_wp2
      exact bodyPost_ret (v := .tuple #[.agg #[.int .i64 0, .slice none 0 0, .int .i64 0, .slice none 0 0], .int .i64 1]) (by simp [results, Tryz.results19, go_sem, n1, n2, n3, n4]) rfl ⟨KF.out, _, rfl, ⟨_, _, _, _, _, _, _, _, rfl⟩, fun h => by cases h⟩
set_option maxHeartbeats 2000000 in
theorem parser_zero (s : ByteArray) (i : Nat) (w : World) (hs : s.size ≤ 1000) (hlt : i < s.size) (hn : NoSl s i) (hi : byteAt s i = 47) (hL : IntP (s.extract 0 i)) (hR : NatP (s.extract (i + 1) s.size)) (h0 : dec (s.extract (i + 1) s.size) (s.extract (i + 1) s.size).size = 0) : Calls Tryz.prog 19 #[.string s] w (PPa 2 0 w) := by
  have HN := Lib.hid hn; have HI := Lib.hid hi
  have hl1 : (s.extract 0 i).size ≤ 1000 := by rw [ByteArray.size_extract]; omega
  have hr1 : (s.extract (i + 1) s.size).size ≤ 1000 := by rw [ByteArray.size_extract]; omega
  have HL := Lib.hid (fun W => isIntr_any (s.extract 0 i) W (by omega) true (by simp [hL]))
  have HR := Lib.hid (fun W => digitsr_any (s.extract (i + 1) s.size) W (by omega) true (by simp [hR]))
  have HZ : Hid (∀ W, Calls Tryz.prog 18 #[.string (s.extract (i + 1) s.size)] W (PRZ 0 W)) := fun W => by
    have h := zparseN_any (s.extract (i + 1) s.size) W hr1 hR
    rw [h0] at h
    exact h
  clear h0
  clear hn hi hl1 hr1
  go_enter Tryz.func19, Tryz.ntmps19
  go_wp2
  go_loop [4] (fun t => ∃ k : Nat, k ≤ i ∧ t = .int .i64 k) (fun t => i - (intOf t).toNat)
  case atStart => exact ⟨0, Nat.zero_le _, rfl⟩
  case round =>
    obtain ⟨k, hk, rfl⟩ := hrel
    by_cases hki : k < i
    · have hks : k < s.size := by omega
      have hb := byteAt_get hks
      have hx := HN.out k hki
      have g1 : (((s[k]).toNat : Int) == 47) = false := by rw [← hb, beq_eq_false_iff_ne]; omega
      clear hb hx
      go_wp2
      go_round
      case rel => exact ⟨k + 1, by omega, by go_num⟩
      case measure => simp [intOf]; omega
    · obtain rfl : k = i := by omega
      have hb := byteAt_get hlt
      have g1 : (((s[k]).toNat : Int) == 47) = true := by rw [← hb, HI.out]; rfl
      clear hb
      have t1 : R4 w.heap.size (w.alloc (.cells #[.int .i64 0, .slice none 0 0, .int .i64 0, .slice none 0 0] 44)) := r4_new _ rfl
      go_wp2_with fail
      refine (HL.out _).mono ?_
      rintro e w1 ⟨hb1, rfl⟩
      have t2 := t1.keep (hb1.mono (by simp))
      have k1 := Below.thru (bl1 w _) (by simp) hb1
      have z1 : w.heap.size < w1.heap.size := Nat.lt_of_lt_of_le (by simp) hb1.size
      clear hb1 t1
      go_wp2_with fail
      refine (HR.out _).mono ?_
      rintro e w2 ⟨hb2, rfl⟩
      have t3 := t2.keep hb2
      have k2 := Below.thru k1 k1.size hb2
      have z2 : w.heap.size < w2.heap.size := Nat.lt_of_lt_of_le z1 hb2.size
      clear hb2 t2 k1 z1
      go_wp2_with fail
      refine (HZ.out _).mono ?_
      rintro e w3 ⟨hb3, v3, rfl, h3⟩
      have t4 := t3.keep hb3
      have k3 := Below.thru k2 k2.size hb3
      have z3 : w.heap.size < w3.heap.size := Nat.lt_of_lt_of_le z2 hb3.size
      obtain ⟨p3, l3, c3, rfl⟩ := h3.agg
      clear hb3 t3 k2 z2
      rw [show (0 : Int).sign = 0 from rfl] at h3 ⊢
      have t5 : R4 w.heap.size (w3.alloc (.cells #[.int .i64 0, .slice p3 l3 c3] 41)) := t4.keep (bl1 _ _)
      have k5 := Below.thru k3 k3.size (bl1 w3 (.cells #[.int .i64 0, .slice p3 l3 c3] 41))
      clear h3 t4 k3
      go_upto_region 9 with fail
      generalize w3.alloc (.cells #[.int .i64 0, .slice p3 l3 c3] 41) = w4 at *
      obtain ⟨_, _, _, _, _, _, _, _, m1, m2, m3, m4, m5, m6, m7, m8⟩ := t5.cells
      obtain ⟨n1, n2, n3, n4⟩ := four_cells m1 m2 m3 m4 (.int .i64 0) (.slice none 0 0) (.int .i64 0) (.slice none 0 0)
      have KF := Lib.hid (below4r k5 (Nat.le_refl w.heap.size) (.int .i64 0) (.slice none 0 0) (.int .i64 0) (.slice none 0 0))
      unfold st4r at n1 n2 n3 n4
      go_wp2
      exact bodyPost_ret (v := .tuple #[.agg #[.int .i64 0, .slice none 0 0, .int .i64 0, .slice none 0 0], .int .i64 2]) (by simp [results, Tryz.results19, go_sem, n1, n2, n3, n4]) rfl ⟨KF.out, _, rfl, ⟨_, _, _, _, _, _, _, _, rfl⟩, fun h => by cases h⟩
end Go.Proofs.YtjjomjjgoceklaaGreat
