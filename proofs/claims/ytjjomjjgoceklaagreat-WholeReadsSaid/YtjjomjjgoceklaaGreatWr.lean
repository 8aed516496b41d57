import Derived.Test.YtjjomjjgoceklaaGreatWq
namespace Go.Proofs.YtjjomjjgoceklaaGreat
set_option maxRecDepth 100000
open Go.RowKit

/-! Parse of the reference -/
/-- what Parse of the reference comes to -/
def PPa (bad : Int) (q : Rat) (w : World) (e : Ending) (w' : World) : Prop := Below w.heap.size w w' ∧ ∃ v, e = .returned (.tuple #[v, .int .i64 bad]) ∧ (∃ s1 p1 l1 c1 s2 p2 l2 c2, v = .agg #[.int .i64 s1, .slice p1 l1 c1, .int .i64 s2, .slice p2 l2 c2]) ∧ (bad = 0 → RA w' v q)
/-- s has no slash before i -/
def NoSl (s : ByteArray) (i : Nat) : Prop := ∀ j, j < i → byteAt s j ≠ 47
theorem NoSl.succ {s : ByteArray} {k : Nat} (h : NoSl s k) (hk : byteAt s k ≠ 47) : NoSl s (k + 1) := fun j hj => by
  rcases Nat.lt_or_ge j k with q | q
  · exact h j q
  · obtain rfl : j = k := by omega
    exact hk
set_option maxHeartbeats 2000000 in
theorem parser_none (s : ByteArray) (w : World) (hs : s.size ≤ 1000) (hn : NoSl s s.size) (hi : ¬ IntP s) : Calls Tryz.prog 19 #[.string s] w (PPa 1 0 w) := by
  have HN := Lib.hid hn
  have HI := Lib.hid (fun W => isIntr_any s W (by omega) false (by simp [hi]))
  clear hn hi
  go_enter Tryz.func19, Tryz.ntmps19
  go_wp2
  go_loop [4] (fun i => ∃ k : Nat, k ≤ s.size ∧ i = .int .i64 k) (fun i => s.size - (intOf i).toNat)
  case atStart => exact ⟨0, Nat.zero_le _, rfl⟩
  case round =>
    obtain ⟨k, hk, rfl⟩ := hrel
    by_cases hlt : k < s.size
    · have hb := byteAt_get hlt
      have hx := HN.out k hlt
      have g1 : (((s[k]).toNat : Int) == 47) = false := by rw [← hb, beq_eq_false_iff_ne]; omega
      clear hb hx
      go_wp2
      go_round
      case rel => exact ⟨k + 1, by omega, by go_num⟩
      case measure => simp [intOf]; omega
    · obtain rfl : k = s.size := by omega
      have t1 : R4 w.heap.size (w.alloc (.cells #[.int .i64 0, .slice none 0 0, .int .i64 0, .slice none 0 0] 44)) := r4_new _ rfl
      go_wp2_with fail
      refine (HI.out _).mono ?_
      rintro e w1 ⟨hb1, rfl⟩
      have t2 := t1.keep (hb1.mono (by simp))
      have k1 := Below.thru (bl1 w _) (by simp) hb1
      obtain ⟨_, _, _, _, _, _, _, _, m1, m2, m3, m4, m5, m6, m7, m8⟩ := t2.cells
      obtain ⟨n1, n2, n3, n4⟩ := four_cells m1 m2 m3 m4 (.int .i64 0) (.slice none 0 0) (.int .i64 0) (.slice none 0 0)
      have KF := Lib.hid (below4r k1 (Nat.le_refl w.heap.size) (.int .i64 0) (.slice none 0 0) (.int .i64 0) (.slice none 0 0))
      clear hb1 t1 t2 k1
      unfold st4r at n1 n2 n3 n4
      go_wp2
      exact bodyPost_ret (v := .tuple #[.agg #[.int .i64 0, .slice none 0 0, .int .i64 0, .slice none 0 0], .int .i64 1]) (by simp [results, Tryz.results19, go_sem, n1, n2, n3, n4]) rfl ⟨KF.out, _, rfl, ⟨_, _, _, _, _, _, _, _, rfl⟩, fun h => by cases h⟩
set_option maxHeartbeats 2000000 in
theorem parser_whole (s : ByteArray) (w : World) (hs : s.size ≤ 1000) (hn : NoSl s s.size) (hi : IntP s) : Calls Tryz.prog 19 #[.string s] w (PPa 0 (pzi s : Rat) w) := by
  have HN := Lib.hid hn
  have HI := Lib.hid (fun W => isIntr_any s W (by omega) true (by simp [hi]))
  have HZ := Lib.hid (fun W => zparse_any s W hs hi)
  generalize pzi s = z at *
  clear hn hi
  go_enter Tryz.func19, Tryz.ntmps19
  go_wp2
  go_loop [4] (fun i => ∃ k : Nat, k ≤ s.size ∧ i = .int .i64 k) (fun i => s.size - (intOf i).toNat)
  case atStart => exact ⟨0, Nat.zero_le _, rfl⟩
  case round =>
    obtain ⟨k, hk, rfl⟩ := hrel
    by_cases hlt : k < s.size
    · have hb := byteAt_get hlt
      have hx := HN.out k hlt
      have g1 : (((s[k]).toNat : Int) == 47) = false := by rw [← hb, beq_eq_false_iff_ne]; omega
      clear hb hx
      go_wp2
      go_round
      case rel => exact ⟨k + 1, by omega, by go_num⟩
      case measure => simp [intOf]; omega
    · obtain rfl : k = s.size := by omega
      have t1 : R4 w.heap.size (w.alloc (.cells #[.int .i64 0, .slice none 0 0, .int .i64 0, .slice none 0 0] 44)) := r4_new _ rfl
      go_wp2_with fail
      refine (HI.out _).mono ?_
      rintro e w1 ⟨hb1, rfl⟩
      have t2 := t1.keep (hb1.mono (by simp))
      have k1 := Below.thru (bl1 w _) (by simp) hb1
      clear hb1 t1
      go_wp2_with fail
      refine (HZ.out _).mono ?_
      rintro e w2 ⟨hb2, v2, rfl, h2⟩
      have t3 := t2.keep hb2
      have k2 := Below.thru k1 k1.size hb2
      clear hb2 t2 k1
      go_wp2_with fail
      refine (rwhole_any _ z _ h2).mono ?_
      rintro e w3 ⟨hb3, v3, rfl, h3⟩
      have t4 := t3.keep hb3
      have k3 := Below.thru k2 k2.size hb3
      obtain ⟨s1, p1, l1, c1, s2, p2, l2, c2, rfl⟩ := h3.agg
      obtain ⟨_, _, _, _, _, _, _, _, m1, m2, m3, m4, m5, m6, m7, m8⟩ := t4.cells
      obtain ⟨n1, n2, n3, n4⟩ := four_cells m1 m2 m3 m4 (.int .i64 s1) (.slice p1 l1 c1) (.int .i64 s2) (.slice p2 l2 c2)
      have HF : Hid (RA (st4r w3 w.heap.size (.int .i64 s1) (.slice p1 l1 c1) (.int .i64 s2) (.slice p2 l2 c2)) (.agg #[.int .i64 s1, .slice p1 l1 c1, .int .i64 s2, .slice p2 l2 c2]) (z : Rat)) := by
        obtain ⟨d, h4, h5⟩ := h3
        exact ⟨d, h4.store t4.noI (grown4r w3 w.heap.size (.int .i64 s1) (.slice p1 l1 c1) (.int .i64 s2) (.slice p2 l2 c2)), h5⟩
      have KF := Lib.hid (below4r k3 (Nat.le_refl w.heap.size) (.int .i64 s1) (.slice p1 l1 c1) (.int .i64 s2) (.slice p2 l2 c2))
      clear hb3 t3 t4 k2 k3 h2 h3
      unfold st4r at n1 n2 n3 n4
      go_wp2
      exact bodyPost_ret (v := .tuple #[.agg #[.int .i64 s1, .slice p1 l1 c1, .int .i64 s2, .slice p2 l2 c2], .int .i64 0]) (by simp [results, Tryz.results19, go_sem, n1, n2, n3, n4]) rfl ⟨KF.out, _, rfl, ⟨_, _, _, _, _, _, _, _, rfl⟩, fun _ => HF.out⟩
end Go.Proofs.YtjjomjjgoceklaaGreat
