import Derived.Test.YtjjomjjgoceklaaGreatKba
import Derived.Test.YtjjomjjgoceklaaGreatKbf
import Derived.Test.YtjjomjjgoceklaaGreatKcb
namespace Go.Proofs.YtjjomjjgoceklaaGreat
set_option maxRecDepth 100000
open Go.RowKit

/-! readZ of the other texts -/
set_option maxRecDepth 100000 in
theorem readZ_bad (s : ByteArray) (w : World) (hs : s.size ≤ 1000) (h0 : 0 < s.size) (h1 : byteAt s 0 ≠ 45) (hn : ¬ NatP s) : Calls Tryz.prog 84 #[.string s] w (PZe 0 4 w) := by
  have g1 : (((s[0]).toNat : Int) == 45) = false := by rw [← byteAt_get h0, beq_eq_false_iff_ne]; omega
  have HN := Lib.hid hn
  clear h1 hn
  go_enter Tryz.func84, Tryz.ntmps84
  go_wp2_with fail
  refine (nat_no s _ (by omega) HN.out).mono ?_
  rintro e w1 ⟨hb1, rfl⟩
  have t1 : Rz w.heap.size w1 := Rz.keep (rz_new _ rfl) hb1 (by simp)
  have k1 := Below.thru (bl1 w _) (by simp) hb1
  clear hb1
  obtain ⟨_, _, _, m1, m2, m3, m4, m5, m6⟩ := t1.cells
  obtain ⟨g1, g2, g3⟩ := three_cells m1 m2 m3 (.bool false) (.int .u64 0) (.pointer none)
  go_wp2
  exact bodyPost_ret (v := .tuple #[.agg #[.bool false, .int .u64 0, .pointer none], .int .i64 4]) (by simp [results, Tryz.results84, go_sem, g1, g2, g3]) rfl ⟨below3 k1 (Nat.le_refl _) _ _ _, _, rfl, Zr.zero _⟩
set_option maxRecDepth 100000 in
theorem readZ_empty (s : ByteArray) (w : World) (h0 : s.size = 0) : Calls Tryz.prog 84 #[.string s] w (PZe 0 4 w) := by
  have hn : ¬ NatP s := by
    rintro ⟨_, h | h⟩
    · have := toList_nil.2 h0; rw [h] at this; cases this
    · omega
  have HN := Lib.hid hn
  have h1 : ¬ (0 : Int) < (s.size : Int) := by omega
  clear hn
  go_enter Tryz.func84, Tryz.ntmps84
  go_wp2_with fail
  refine (nat_no s _ (by omega) HN.out).mono ?_
  rintro e w1 ⟨hb1, rfl⟩
  have t1 : Rz w.heap.size w1 := Rz.keep (rz_new _ rfl) hb1 (by simp)
  have k1 := Below.thru (bl1 w _) (by simp) hb1
  clear hb1
  obtain ⟨_, _, _, m1, m2, m3, m4, m5, m6⟩ := t1.cells
  obtain ⟨g1, g2, g3⟩ := three_cells m1 m2 m3 (.bool false) (.int .u64 0) (.pointer none)
  go_wp2
  exact bodyPost_ret (v := .tuple #[.agg #[.bool false, .int .u64 0, .pointer none], .int .i64 4]) (by simp [results, Tryz.results84, go_sem, g1, g2, g3]) rfl ⟨below3 k1 (Nat.le_refl _) _ _ _, _, rfl, Zr.zero _⟩
set_option maxRecDepth 100000 in
theorem readZ_minus_bad (s : ByteArray) (w : World) (hs : s.size ≤ 1000) (h0 : 0 < s.size) (h1 : byteAt s 0 = 45) (hn : ¬ NatP (s.extract 1 s.size)) : Calls Tryz.prog 84 #[.string s] w (PZe 0 4 w) := by
  have g1 : (((s[0]).toNat : Int) == 45) = true := by rw [← byteAt_get h0, beq_iff_eq]; omega
  have HN := Lib.hid hn
  have hsz : (s.extract 1 s.size).size ≤ 2000 := by rw [ByteArray.size_extract]; omega
  clear h1 hn
  go_enter Tryz.func84, Tryz.ntmps84
  go_wp2_with fail
  refine (nat_no (s.extract 1 s.size) _ hsz HN.out).mono ?_
  rintro e w1 ⟨hb1, rfl⟩
  have t1 : Rz w.heap.size w1 := Rz.keep (rz_new _ rfl) hb1 (by simp)
  have k1 := Below.thru (bl1 w _) (by simp) hb1
  clear hb1
  obtain ⟨_, _, _, m1, m2, m3, m4, m5, m6⟩ := t1.cells
  obtain ⟨g1, g2, g3⟩ := three_cells m1 m2 m3 (.bool false) (.int .u64 0) (.pointer none)
  go_wp2
  exact bodyPost_ret (v := .tuple #[.agg #[.bool false, .int .u64 0, .pointer none], .int .i64 4]) (by simp [results, Tryz.results84, go_sem, g1, g2, g3]) rfl ⟨below3 k1 (Nat.le_refl _) _ _ _, _, rfl, Zr.zero _⟩
set_option maxRecDepth 100000 in
theorem readZ_minus (s : ByteArray) (w : World) (hs : s.size ≤ 1000) (h0 : 0 < s.size) (h1 : byteAt s 0 = 45) (hn : NatP (s.extract 1 s.size)) : Calls Tryz.prog 84 #[.string s] w (PZe (-(dec (s.extract 1 s.size) (s.extract 1 s.size).size : Int)) 0 w) := by
  have g1 : (((s[0]).toNat : Int) == 45) = true := by rw [← byteAt_get h0, beq_iff_eq]; omega
  have HN := Lib.hid hn
  have hsz : (s.extract 1 s.size).size ≤ 1000 := by rw [ByteArray.size_extract]; omega
  clear h1 hn
  go_enter Tryz.func84, Tryz.ntmps84
  go_wp2_with fail
  refine (nat_yes (s.extract 1 s.size) _ (by omega) HN.out).mono ?_
  rintro e w1 ⟨hb1, rfl⟩
  have t1 : Rz w.heap.size w1 := Rz.keep (rz_new _ rfl) hb1 (by simp)
  have k1 := Below.thru (bl1 w _) (by simp) hb1
  have z1 : w.heap.size + 1 ≤ w1.heap.size := Nat.le_trans (by simp) hb1.size
  go_wp2_with fail
  refine (readDigits_any (s.extract 1 s.size) w1 hsz HN.out.dig).mono ?_
  rintro e w2 ⟨hb2, v2, rfl, h2⟩
  have t2 := t1.keep hb2 (by omega)
  have k2 := Below.thru k1 k1.size hb2
  have z2 : w.heap.size + 1 ≤ w2.heap.size := Nat.le_trans z1 hb2.size
  go_wp2_with fail
  refine (signed_any v2 _ true w2 h2).mono ?_
  rintro e w3 ⟨hb3, v3, rfl, h3⟩
  have t3 := t2.keep hb3 (by omega)
  have k3 := Below.thru k2 k2.size hb3
  obtain ⟨s4, x4, p4, n4, rfl, h4⟩ := h3
  have H4 := Lib.hid h4
  clear h4 hb1 hb2 hb3 t1 t2
  obtain ⟨_, _, _, m1, m2, m3, m4, m5, m6⟩ := t3.cells
  obtain ⟨g1, g2, g3⟩ := three_cells m1 m2 m3 (.bool s4) (.int .u64 x4) (.pointer p4)
  have Z4 : Zr w3 (.agg #[.bool s4, .int .u64 x4, .pointer p4]) _ := ⟨s4, x4, p4, n4, rfl, H4.out⟩
  go_wp2
  exact bodyPost_ret (v := .tuple #[.agg #[.bool s4, .int .u64 x4, .pointer p4], .int .i64 0]) (by simp [results, Tryz.results84, go_sem, g1, g2, g3]) rfl ⟨below3 k3 (Nat.le_refl _) _ _ _, _, rfl, (Z4.store t3.odd (grown3 _ _ _ _ _ _ _ _)).cast (by simp)⟩
end Go.Proofs.YtjjomjjgoceklaaGreat
namespace Go.Proofs.YtjjomjjgoceklaaGreat
set_option maxRecDepth 100000
open Go.RowKit

/-! strings.Cut at a byte that does not stand in the text; ParseZ; Parse's refusals and whole numbers -/
theorem slCut_none (s : ByteArray) (c : UInt8) (w : World) (hi : Lib.indexByte s.data.toList c = -1) :
    Calls Tryz.prog 120 #[.string s, .string ⟨#[c]⟩] w fun e w' => Below w.heap.size w w' ∧ e = .returned (.tuple #[.string s, .string ⟨#[]⟩, .bool false]) := by
  go_enter Tryz.func120, Tryz.ntmps120
  go_wp2_with fail
  refine (Tryz.stringslite_Index_one s c _).mono ?_
  rintro e w1 ⟨rfl, rfl⟩
  rw [hi]
  clear hi
  go_wp2
  refine bodyPost_ret (v := .tuple #[.string s, .string ⟨#[]⟩, .bool false]) (by simp [results, Tryz.results120, go_sem]) rfl ⟨Below.refl _ _, rfl⟩
theorem cut_none (s : ByteArray) (c : UInt8) (w : World) (hi : Lib.indexByte s.data.toList c = -1) :
    Calls Tryz.prog 85 #[.string s, .string ⟨#[c]⟩] w fun e w' => Below w.heap.size w w' ∧ e = .returned (.tuple #[.string s, .string ⟨#[]⟩, .bool false]) := by
  have HI := Lib.hid hi
  clear hi
  go_enter Tryz.func85, Tryz.ntmps85
  go_wp2_with fail
  refine (slCut_none s c _ HI.out).mono ?_
  rintro e w1 ⟨hb1, rfl⟩
  go_wp2
  exact bodyPost_ret (v := .tuple #[.string s, .string ⟨#[]⟩, .bool false]) (by simp [results, Tryz.results85, go_sem]) rfl ⟨hb1, rfl⟩
/-- ParseZ of a text that is not too long -/
theorem parseZ_any (s : ByteArray) (z er : Int) (w : World) (hs : s.size ≤ 1000) (h : ∀ W, Calls Tryz.prog 84 #[.string s] W (PZe z er W)) : Calls Tryz.prog 12 #[.string s] w (PZe z er w) := by
  have H := Lib.hid h
  have h1 : ¬ (1000 : Int) < (s.size : Int) := by omega
  clear h
  go_enter Tryz.func12, Tryz.ntmps12
  go_wp2_with fail
  refine (H.out _).mono ?_
  rintro e w1 ⟨hb1, v1, rfl, hv⟩
  have t1 : Rz w.heap.size w1 := Rz.keep (rz_new _ rfl) hb1 (by simp)
  have k1 := Below.thru (bl1 w _) (by simp) hb1
  clear hb1
  obtain ⟨s4, x4, p4, n4, rfl, h4⟩ := hv
  have Z4 := Lib.hid (show Zr w1 (.agg #[.bool s4, .int .u64 x4, .pointer p4]) z from ⟨s4, x4, p4, n4, rfl, h4⟩)
  clear h4
  obtain ⟨_, _, _, m1, m2, m3, m4, m5, m6⟩ := t1.cells
  obtain ⟨g1, g2, g3⟩ := three_cells m1 m2 m3 (.bool s4) (.int .u64 x4) (.pointer p4)
  go_wp2
  exact bodyPost_ret (v := .tuple #[.agg #[.bool s4, .int .u64 x4, .pointer p4], .int .i64 er]) (by simp [results, Tryz.results12, go_sem, g1, g2, g3]) rfl ⟨below3 k1 (Nat.le_refl _) _ _ _, _, rfl, Z4.out.store t1.odd (grown3 _ _ _ _ _ _ _ _)⟩
theorem parseZ_long (s : ByteArray) (w : World) (hs : 1000 < s.size) : Calls Tryz.prog 12 #[.string s] w (PZe 0 5 w) := by
  have h1 : (1000 : Int) < (s.size : Int) := by omega
  go_enter Tryz.func12, Tryz.ntmps12
  go_wp2
  exact bodyPost_ret (v := .tuple #[.agg #[.bool false, .int .u64 0, .pointer none], .int .i64 5]) (by simp [results, Tryz.results12, go_sem]) rfl ⟨bl1 _ _, _, rfl, Zr.zero _⟩
set_option maxRecDepth 100000 in
theorem parse_long (s : ByteArray) (w : World) (hs : 1000 < s.size) : Calls Tryz.prog 13 #[.string s] w (PRe 0 1 5 w) := by
  have h1 : (1000 : Int) < (s.size : Int) := by omega
  go_enter Tryz.func13, Tryz.ntmps13
  go_wp2
  exact bodyPost_ret (v := .tuple #[.agg #[.bool false, .int .u64 0, .pointer none, .int .u64 0, .pointer none], .int .i64 5]) (by simp [results, Tryz.results13, go_sem]) rfl ⟨bl1 _ _, _, rfl, Rr.zero _⟩
/-- Parse of a text whose number in front is refused -/
theorem parse_front (s t u : ByteArray) (b : Bool) (er : Int) (w : World) (hs : s.size ≤ 1000) (her : er ≠ 0)
    (hc : ∀ W, Calls Tryz.prog 85 #[.string s, .string ⟨#[47]⟩] W fun e w' => Below W.heap.size W w' ∧ e = .returned (.tuple #[.string t, .string u, .bool b]))
    (h : ∀ W, Calls Tryz.prog 84 #[.string t] W (PZe 0 er W)) : Calls Tryz.prog 13 #[.string s] w (PRe 0 1 er w) := by
  have H := Lib.hid h; have C := Lib.hid hc
  have h1 : ¬ (1000 : Int) < (s.size : Int) := by omega
  have h2 : (er != 0) = true := by simpa using her
  clear h hc her
  go_enter Tryz.func13, Tryz.ntmps13
  go_wp2_with fail
  refine (C.out _).mono ?_
  rintro e w1 ⟨hb1, rfl⟩
  have t1 : Rq w.heap.size w1 := Rq.keep (rq_new _ rfl) hb1 (by simp)
  have k1 := Below.thru (bl1 w _) (by simp) hb1
  have z1 : w.heap.size + 1 ≤ w1.heap.size := Nat.le_trans (by simp) hb1.size
  go_wp2_with fail
  refine (H.out w1).mono ?_
  rintro e w2 ⟨hb2, v2, rfl, hv⟩
  obtain ⟨s4, x4, p4, n4, rfl, h4⟩ := hv
  have t2 := (t1.keep hb2 (by omega)).alloc (.cells #[.bool s4, .int .u64 x4, .pointer p4] 28)
  have k2 := Below.thru (Below.thru k1 k1.size hb2) (Below.thru k1 k1.size hb2).size (bl1 w2 (.cells #[.bool s4, .int .u64 x4, .pointer p4] 28))
  have z2 : w.heap.size + 1 ≤ w2.heap.size := Nat.le_trans z1 hb2.size
  clear hb1 hb2 t1 k1 h4
  go_upto_region 5 with fail
  generalize w2.alloc (.cells #[.bool s4, .int .u64 x4, .pointer p4] 28) = w3 at *
  obtain ⟨_, _, _, _, _, m1, m2, m3, m4, m5, m6, m7, m8, m9, m10⟩ := t2.cells
  obtain ⟨n1, n2, n3, n4, n5⟩ := five_cells m1 m2 m3 m4 m5 (.bool false) (.int .u64 0) (.pointer none) (.int .u64 0) (.pointer none)
  unfold st5 at n1 n2 n3 n4 n5
  go_wp2
  exact bodyPost_ret (v := .tuple #[.agg #[.bool false, .int .u64 0, .pointer none, .int .u64 0, .pointer none], .int .i64 er]) (by simp [results, Tryz.results13, go_sem, n1, n2, n3, n4, n5]) rfl ⟨below5 k2 (Nat.le_refl _) _ _ _ _ _, _, rfl, Rr.zero _⟩
end Go.Proofs.YtjjomjjgoceklaaGreat
namespace Go.Proofs.YtjjomjjgoceklaaGreat
set_option maxRecDepth 100000
open Go.RowKit

/-! Parse of 'a/b', of a whole number, refused behind the slash; OfZ over zero -/
set_option maxRecDepth 100000 in
set_option maxHeartbeats 1600000 in
theorem parse_slash (s u1 u2 : ByteArray) (z n2 er2 : Int) (d d2 : Nat) (w : World) (hs : s.size ≤ 1000)
    (hc : ∀ W, Calls Tryz.prog 85 #[.string s, .string ⟨#[47]⟩] W fun e w' => Below W.heap.size W w' ∧ e = .returned (.tuple #[.string u1, .string u2, .bool true]))
    (hz : ∀ W, Calls Tryz.prog 84 #[.string u1] W (PZe z 0 W)) (hu : u2.size ≤ 1000) (hn : NatP u2) (hd : dec u2 u2.size = d)
    (ho : ∀ W v1 v2, Zr W v1 z → Zr W v2 (d : Int) → Calls Tryz.prog 28 #[v1, v2] W (PRe n2 d2 er2 W)) :
    Calls Tryz.prog 13 #[.string s] w (PRe n2 d2 er2 w) := by
  have HZ := Lib.hid hz
  have HC := Lib.hid hc
  have HB := Lib.hid (fun W => nat_yes u2 W (by omega) hn)
  have HD := Lib.hid (fun W => readDigits_any u2 W hu hn.dig)
  rw [hd] at HD
  have HO := Lib.hid ho
  clear hc hz hn hd ho
  go_enter Tryz.func13, Tryz.ntmps13
  go_wp2_with fail
  refine (HC.out _).mono ?_
  rintro e w1 ⟨hb1, rfl⟩
  have t1 : Rq w.heap.size w1 := Rq.keep (rq_new _ rfl) hb1 (by simp)
  have k1 := Below.thru (bl1 w _) (by simp) hb1
  have z1 : w.heap.size + 1 ≤ w1.heap.size := Nat.le_trans (by simp) hb1.size
  go_wp2_with fail
  refine (HZ.out w1).mono ?_
  rintro e w2 ⟨hb2, v2, rfl, h2⟩
  have h2' := h2
  obtain ⟨s2, x2, p2, rfl, _⟩ := h2'.dg
  have H2 := Lib.hid h2
  have t2 := t1.keep hb2 (by omega)
  have k2 := Below.thru k1 k1.size hb2
  have z2 : w.heap.size + 1 ≤ w2.heap.size := Nat.le_trans z1 hb2.size
  clear h2 hb1 t1 hb2 k1
  go_wp2_with fail
  refine (HB.out _).mono ?_
  rintro e w3 ⟨hb3, rfl⟩
  have k2' := Below.thru k2 k2.size (bl1 w2 (.cells #[.bool s2, .int .u64 x2, .pointer p2] 28))
  have k3 := Below.thru k2' k2'.size hb3
  have q3 : Cz w2.heap.size s2 x2 p2 w3 := Cz.keep (by refine ⟨?_, ?_, ?_⟩ <;> simp [go_sem]) hb3 (by simp)
  have t3 := (t2.alloc (.cells #[.bool s2, .int .u64 x2, .pointer p2] 28)).keep hb3 (by simp; omega)
  have z3 : w2.heap.size + 1 ≤ w3.heap.size := Nat.le_trans (by simp) hb3.size
  have H3 := Lib.hid ((H2.out.keep (bl1 w2 (.cells #[.bool s2, .int .u64 x2, .pointer p2] 28)) (Nat.le_refl _)).keep hb3 (Nat.le_refl _))
  clear hb3 k2' t2
  go_wp2
  have q0 : Cz w2.heap.size s2 x2 p2 w3.drew := q3
  have t0 : Rq w.heap.size w3.drew := t3
  have k0 : Below w.heap.size w w3.drew := k3.drew
  have z0 : w2.heap.size + 1 ≤ w3.drew.heap.size := z3
  have hz0 : Zr w3.drew (.agg #[.bool s2, .int .u64 x2, .pointer p2]) z := H3.out.keep (B := w3.heap.size) (Below.refl _ _).drew (Nat.le_refl _)
  go_region_held3 (fun w' => w'.cell? ⟨w2.heap.size, 0, none⟩ = some (.bool s2) ∧ w'.cell? ⟨w2.heap.size, 1, none⟩ = some (.int .u64 x2) ∧ w'.cell? ⟨w2.heap.size, 2, none⟩ = some (.pointer p2))
    (first | (with_reducible exact q7) | (with_reducible exact q6) | (with_reducible exact q5) | (with_reducible exact q4) | (with_reducible exact q0))
    (first
      | (go_at_call 88; (with_reducible refine (HD.out w3.drew).mono ?_); rintro e w4 ⟨hb4, v4, rfl, h4⟩
         have q4 := Cz.keep q0 hb4 (by omega); have t4 := Rq.keep t0 hb4 (by omega); have k4 := Below.thru k0 k0.size hb4; have z4 : w2.heap.size + 1 ≤ w4.heap.size := Nat.le_trans z0 hb4.size; have hz4 := hz0.keep hb4 (Nat.le_refl _))
      | (go_at_call 87; (with_reducible refine (signed_any v4 _ false w4 h4).mono ?_); rintro e w5 ⟨hb5, v5, rfl, h5⟩; have h5 : Zr w5 v5 (d : Int) := h5
         have q5 := Cz.keep q4 hb5 (by omega); have t5 := Rq.keep t4 hb5 (by omega); have k5 := Below.thru k4 k4.size hb5; have z5 : w2.heap.size + 1 ≤ w5.heap.size := Nat.le_trans z4 hb5.size; have hz5 := hz4.keep hb5 (Nat.le_refl _))
      | (go_at_call 28; (with_reducible refine (HO.out w5 _ v5 hz5 h5).mono ?_); rintro e w6 ⟨hb6, v6, rfl, h6⟩
         have q6 := Cz.keep q5 hb6 (by omega); have t6 := Rq.keep t5 hb6 (by omega); have k6 := Below.thru k5 k5.size hb6; obtain ⟨s7, x7, p7, y7, r7, rfl⟩ := h6.agg; obtain ⟨_, _, _, _, _, m1, m2, m3, m4, m5, m6, m7, m8, m9, m10⟩ := t6.cells
         have q7 := Cz.st q6 (T := w.heap.size) (by omega) (.bool s7) (.int .u64 x7) (.pointer p7) (.int .u64 y7) (.pointer r7)))
  obtain ⟨n1, n2, n3, n4, n5⟩ := five_cells m1 m2 m3 m4 m5 (.bool s7) (.int .u64 x7) (.pointer p7) (.int .u64 y7) (.pointer r7)
  unfold st5 at n1 n2 n3 n4 n5
  have H6 := Lib.hid h6
  clear h6 q0 q4 q5 q6 q7
  go_wp2
  exact bodyPost_ret (v := .tuple #[.agg #[.bool s7, .int .u64 x7, .pointer p7, .int .u64 y7, .pointer r7], .int .i64 er2]) (by simp [results, Tryz.results13, go_sem, n1, n2, n3, n4, n5]) rfl ⟨below5 k6 (Nat.le_refl _) _ _ _ _ _, _, rfl, H6.out.store t6.odd (grown5 _ _ _ _ _ _ _)⟩

theorem ofZ_zero (vn vd : Value) (n : Int) (w : World) (hn : Zr w vn n) (hd : Zr w vd 0) : Calls Tryz.prog 28 #[vn, vd] w (PRe 0 1 9 w) := by
  obtain ⟨s, xa, pa, m, rfl, _⟩ := hn
  obtain ⟨sd, xd, pd, rfl, hdd, h1, h2⟩ := hd.dg
  have HD := Lib.hid hdd
  clear hdd h1 h2
  go_enter Tryz.func28, Tryz.ntmps28
  go_wp2_with (go_at_call 89; refine (isZero_yes _ (HD.out.keep (bl3 _ _ _ _) (Nat.le_refl _)) rfl).mono ?_; rintro e w1 ⟨rfl, c1, t1, rfl⟩)
  exact bodyPost_ret (v := .tuple #[.agg #[.bool false, .int .u64 0, .pointer none, .int .u64 0, .pointer none], .int .i64 9]) (by simp [results, Tryz.results28, go_sem]) rfl ⟨by first | exact Below.thru (bl3 _ _ _ _) (by simp <;> omega) (bl2 _ _ _) | exact below5 (Below.thru (bl3 _ _ _ _) (by simp <;> omega) (bl2 _ _ _)) (by omega) _ _ _ _ _, _, rfl, Rr.zero _⟩
theorem parse_back (s t u : ByteArray) (z : Int) (w : World) (hs : s.size ≤ 1000) (hu : u.size ≤ 2000) (hn : ¬ NatP u)
    (hc : ∀ W, Calls Tryz.prog 85 #[.string s, .string ⟨#[47]⟩] W fun e w' => Below W.heap.size W w' ∧ e = .returned (.tuple #[.string t, .string u, .bool true]))
    (h : ∀ W, Calls Tryz.prog 84 #[.string t] W (PZe z 0 W)) : Calls Tryz.prog 13 #[.string s] w (PRe 0 1 4 w) := by
  have H := Lib.hid h; have C := Lib.hid hc; have N := Lib.hid (fun W => nat_no u W hu hn)
  have h1 : ¬ (1000 : Int) < (s.size : Int) := by omega
  clear h hc hn
  go_enter Tryz.func13, Tryz.ntmps13
  go_wp2_with fail
  refine (C.out _).mono ?_
  rintro e w1 ⟨hb1, rfl⟩
  have t1 : Rq w.heap.size w1 := Rq.keep (rq_new _ rfl) hb1 (by simp)
  have k1 := Below.thru (bl1 w _) (by simp) hb1
  have z1 : w.heap.size + 1 ≤ w1.heap.size := Nat.le_trans (by simp) hb1.size
  go_wp2_with fail
  refine (H.out w1).mono ?_
  rintro e w2 ⟨hb2, v2, rfl, hv⟩
  obtain ⟨s4, x4, p4, n4, rfl, h4⟩ := hv
  have t2 := (t1.keep hb2 (by omega)).alloc (.cells #[.bool s4, .int .u64 x4, .pointer p4] 28)
  have k2 := Below.thru (Below.thru k1 k1.size hb2) (Below.thru k1 k1.size hb2).size (bl1 w2 (.cells #[.bool s4, .int .u64 x4, .pointer p4] 28))
  have z2 : w.heap.size + 1 ≤ w2.heap.size := Nat.le_trans z1 hb2.size
  clear hb1 hb2 t1 k1 h4
  go_upto_region 5 with fail
  generalize hG : w2.alloc (.cells #[.bool s4, .int .u64 x4, .pointer p4] 28) = w3 at *
  have z3 : w.heap.size + 1 ≤ w3.heap.size := by rw [← hG]; simp; omega
  clear hG
  go_wp2_with fail
  refine (N.out _).mono ?_
  rintro e w5 ⟨hb5, rfl⟩
  have t5 := t2.keep hb5 (by omega)
  have k5 := Below.thru k2 k2.size hb5
  clear t2 k2 hb5
  obtain ⟨_, _, _, _, _, m1, m2, m3, m4, m5, m6, m7, m8, m9, m10⟩ := t5.cells
  obtain ⟨n1, n2, n3, n4, n5⟩ := five_cells m1 m2 m3 m4 m5 (.bool false) (.int .u64 0) (.pointer none) (.int .u64 0) (.pointer none)
  unfold st5 at n1 n2 n3 n4 n5
  go_wp2
  exact bodyPost_ret (v := .tuple #[.agg #[.bool false, .int .u64 0, .pointer none, .int .u64 0, .pointer none], .int .i64 4]) (by simp [results, Tryz.results13, go_sem, n1, n2, n3, n4, n5]) rfl ⟨below5 k5 (Nat.le_refl _) _ _ _ _ _, _, rfl, Rr.zero _⟩
end Go.Proofs.YtjjomjjgoceklaaGreat
namespace Go.Proofs.YtjjomjjgoceklaaGreat
set_option maxRecDepth 100000
open Go.RowKit

/-! Parse of a whole number, Of, Ratio, R.Div by zero, z -/
set_option maxRecDepth 100000 in
theorem parse_whole (s t u : ByteArray) (z : Int) (w : World) (hs : s.size ≤ 1000)
    (hc : ∀ W, Calls Tryz.prog 85 #[.string s, .string ⟨#[47]⟩] W fun e w' => Below W.heap.size W w' ∧ e = .returned (.tuple #[.string t, .string u, .bool false]))
    (h : ∀ W, Calls Tryz.prog 84 #[.string t] W (PZe z 0 W)) : Calls Tryz.prog 13 #[.string s] w (PRe z 1 0 w) := by
  have H := Lib.hid h; have C := Lib.hid hc
  have h1 : ¬ (1000 : Int) < (s.size : Int) := by omega
  clear h hc
  go_enter Tryz.func13, Tryz.ntmps13
  go_wp2_with fail
  refine (C.out _).mono ?_
  rintro e w1 ⟨hb1, rfl⟩
  have t1 : Rq w.heap.size w1 := Rq.keep (rq_new _ rfl) hb1 (by simp)
  have k1 := Below.thru (bl1 w _) (by simp) hb1
  have z1 : w.heap.size + 1 ≤ w1.heap.size := Nat.le_trans (by simp) hb1.size
  go_wp2_with fail
  refine (H.out w1).mono ?_
  rintro e w2 ⟨hb2, v2, rfl, hv⟩
  obtain ⟨s4, x4, p4, n4, rfl, h4⟩ := hv
  have Z4 := Lib.hid ((show Zr w2 (.agg #[.bool s4, .int .u64 x4, .pointer p4]) z from ⟨s4, x4, p4, n4, rfl, h4⟩).keep (bl1 w2 (.cells #[.bool s4, .int .u64 x4, .pointer p4] 28)) (Nat.le_refl _))
  have X4 := Lib.hid (b3_blk (Go.Deep.blk_alloc_new w2 (.cells #[.bool s4, .int .u64 x4, .pointer p4] 28)))
  have t2 := (t1.keep hb2 (by omega)).alloc (.cells #[.bool s4, .int .u64 x4, .pointer p4] 28)
  have k2 := Below.thru (Below.thru k1 k1.size hb2) (Below.thru k1 k1.size hb2).size (bl1 w2 (.cells #[.bool s4, .int .u64 x4, .pointer p4] 28))
  have z2 : w.heap.size + 1 ≤ w2.heap.size := Nat.le_trans z1 hb2.size
  clear hb1 hb2 t1 k1 h4
  go_upto_region 5 with fail
  generalize hG : w2.alloc (.cells #[.bool s4, .int .u64 x4, .pointer p4] 28) = w3 at *
  have z3 : w.heap.size + 1 ≤ w3.heap.size := by rw [← hG]; simp; omega
  clear hG
  obtain ⟨g1, g2, g3⟩ := X4.out
  go_wp2_with fail
  refine (whole_any _ z _ Z4.out).mono ?_
  rintro e w5 ⟨hb5, v5, rfl, h5⟩
  have t5 := t2.keep hb5 (by omega)
  have k5 := Below.thru k2 k2.size hb5
  obtain ⟨s7, x7, p7, y7, r7, rfl⟩ := h5.agg
  have H5 := Lib.hid h5
  clear t2 k2 hb5 h5 g1 g2 g3
  obtain ⟨_, _, _, _, _, m1, m2, m3, m4, m5, m6, m7, m8, m9, m10⟩ := t5.cells
  obtain ⟨n1, n2, n3, n4, n5⟩ := five_cells m1 m2 m3 m4 m5 (.bool s7) (.int .u64 x7) (.pointer p7) (.int .u64 y7) (.pointer r7)
  unfold st5 at n1 n2 n3 n4 n5
  go_wp2
  exact bodyPost_ret (v := .tuple #[.agg #[.bool s7, .int .u64 x7, .pointer p7, .int .u64 y7, .pointer r7], .int .i64 0]) (by simp [results, Tryz.results13, go_sem, n1, n2, n3, n4, n5]) rfl ⟨below5 k5 (Nat.le_refl _) _ _ _ _ _, _, rfl, H5.out.store t5.odd (grown5 _ _ _ _ _ _ _)⟩
end Go.Proofs.YtjjomjjgoceklaaGreat
