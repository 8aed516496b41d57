import Derived.Test.YtjjomjjgoceklaaX
import Derived.Test.YtjjomjjgoceklaaBg
import Derived.Test.YtjjomjjgoceklaaCn
import Derived.Test.YtjjomjjgoceklaaDe
import Derived.Test.YtjjomjjgoceklaaZh
namespace Go.Proofs.Ytjjomjjgoceklaa
open Go.RowKit

/-! readZ of the other texts -/
set_option maxRecDepth 100000 in
theorem readZ_bad (s : ByteArray) (w : World) (hs : s.size ≤ 1000) (h0 : 0 < s.size) (h1 : byteAt s 0 ≠ 45) (hn : ¬ NatP s) : Calls Try.prog 63 #[.string s] w (PZe 0 4 w) := by
  have g1 : (((s[0]).toNat : Int) == 45) = false := by rw [← byteAt_get h0, beq_eq_false_iff_ne]; omega
  have HN := Lib.hid hn
  clear h1 hn
  go_enter Try.func63, Try.ntmps63
  go_wp2_with fail
  refine (nat_no s _ (by omega) HN.out).mono ?_
  rintro e w1 ⟨hb1, rfl⟩
  have t1 : Rz w.heap.size w1 := Rz.keep (rz_new _ rfl) hb1 (by simp)
  have k1 := Below.thru (bl1 w _) (by simp) hb1
  clear hb1
  obtain ⟨_, _, _, m1, m2, m3, m4, m5, m6⟩ := t1.cells
  obtain ⟨g1, g2, g3⟩ := three_cells m1 m2 m3 (.bool false) (.int .u64 0) (.pointer none)
  go_wp2
  exact bodyPost_ret (v := .tuple #[.agg #[.bool false, .int .u64 0, .pointer none], .int .i64 4]) (by simp [results, Try.results63, go_sem, g1, g2, g3]) rfl ⟨below3 k1 (Nat.le_refl _) _ _ _, _, rfl, Zr.zero _⟩
set_option maxRecDepth 100000 in
theorem readZ_empty (s : ByteArray) (w : World) (h0 : s.size = 0) : Calls Try.prog 63 #[.string s] w (PZe 0 4 w) := by
  have hn : ¬ NatP s := by
    rintro ⟨_, h | h⟩
    · have := toList_nil.2 h0; rw [h] at this; cases this
    · omega
  have HN := Lib.hid hn
  have h1 : ¬ (0 : Int) < (s.size : Int) := by omega
  clear hn
  go_enter Try.func63, Try.ntmps63
  go_wp2_with fail
  refine (nat_no s _ (by omega) HN.out).mono ?_
  rintro e w1 ⟨hb1, rfl⟩
  have t1 : Rz w.heap.size w1 := Rz.keep (rz_new _ rfl) hb1 (by simp)
  have k1 := Below.thru (bl1 w _) (by simp) hb1
  clear hb1
  obtain ⟨_, _, _, m1, m2, m3, m4, m5, m6⟩ := t1.cells
  obtain ⟨g1, g2, g3⟩ := three_cells m1 m2 m3 (.bool false) (.int .u64 0) (.pointer none)
  go_wp2
  exact bodyPost_ret (v := .tuple #[.agg #[.bool false, .int .u64 0, .pointer none], .int .i64 4]) (by simp [results, Try.results63, go_sem, g1, g2, g3]) rfl ⟨below3 k1 (Nat.le_refl _) _ _ _, _, rfl, Zr.zero _⟩
set_option maxRecDepth 100000 in
theorem readZ_minus_bad (s : ByteArray) (w : World) (hs : s.size ≤ 1000) (h0 : 0 < s.size) (h1 : byteAt s 0 = 45) (hn : ¬ NatP (s.extract 1 s.size)) : Calls Try.prog 63 #[.string s] w (PZe 0 4 w) := by
  have g1 : (((s[0]).toNat : Int) == 45) = true := by rw [← byteAt_get h0, beq_iff_eq]; omega
  have HN := Lib.hid hn
  have hsz : (s.extract 1 s.size).size ≤ 2000 := by rw [ByteArray.size_extract]; omega
  clear h1 hn
  go_enter Try.func63, Try.ntmps63
  go_wp2_with fail
  refine (nat_no (s.extract 1 s.size) _ hsz HN.out).mono ?_
  rintro e w1 ⟨hb1, rfl⟩
  have t1 : Rz w.heap.size w1 := Rz.keep (rz_new _ rfl) hb1 (by simp)
  have k1 := Below.thru (bl1 w _) (by simp) hb1
  clear hb1
  obtain ⟨_, _, _, m1, m2, m3, m4, m5, m6⟩ := t1.cells
  obtain ⟨g1, g2, g3⟩ := three_cells m1 m2 m3 (.bool false) (.int .u64 0) (.pointer none)
  go_wp2
  exact bodyPost_ret (v := .tuple #[.agg #[.bool false, .int .u64 0, .pointer none], .int .i64 4]) (by simp [results, Try.results63, go_sem, g1, g2, g3]) rfl ⟨below3 k1 (Nat.le_refl _) _ _ _, _, rfl, Zr.zero _⟩
set_option maxRecDepth 100000 in
theorem readZ_minus (s : ByteArray) (w : World) (hs : s.size ≤ 1000) (h0 : 0 < s.size) (h1 : byteAt s 0 = 45) (hn : NatP (s.extract 1 s.size)) : Calls Try.prog 63 #[.string s] w (PZe (-(dec (s.extract 1 s.size) (s.extract 1 s.size).size : Int)) 0 w) := by
  have g1 : (((s[0]).toNat : Int) == 45) = true := by rw [← byteAt_get h0, beq_iff_eq]; omega
  have HN := Lib.hid hn
  have hsz : (s.extract 1 s.size).size ≤ 1000 := by rw [ByteArray.size_extract]; omega
  clear h1 hn
  go_enter Try.func63, Try.ntmps63
  go_wp2_with fail
  refine (nat_yes (s.extract 1 s.size) _ (by omega) HN.out).mono ?_
  rintro e w1 ⟨hb1, rfl⟩
  have t1 : Rz w.heap.size w1 := Rz.keep (rz_new _ rfl) hb1 (by simp)
  have k1 := Below.thru (bl1 w _) (by simp) hb1
  have z1 : w.heap.size + 1 ≤ w1.heap.size := Nat.le_trans (by simp) hb1.size
  go_wp2_with fail
  refine (readDigits_any (s.extract 1 s.size) w1 hsz HN.out.dig).mono ?_
  rintro e w2 ⟨hb2, v2, rfl, h2⟩
  have t2 := t1.keep hb2 (by omega)
  have k2 := Below.thru k1 k1.size hb2
  have z2 : w.heap.size + 1 ≤ w2.heap.size := Nat.le_trans z1 hb2.size
  go_wp2_with fail
  refine (signed_any v2 _ true w2 h2).mono ?_
  rintro e w3 ⟨hb3, v3, rfl, h3⟩
  have t3 := t2.keep hb3 (by omega)
  have k3 := Below.thru k2 k2.size hb3
  obtain ⟨s4, x4, p4, n4, rfl, h4⟩ := h3
  have H4 := Lib.hid h4
  clear h4 hb1 hb2 hb3 t1 t2
  obtain ⟨_, _, _, m1, m2, m3, m4, m5, m6⟩ := t3.cells
  obtain ⟨g1, g2, g3⟩ := three_cells m1 m2 m3 (.bool s4) (.int .u64 x4) (.pointer p4)
  have Z4 : Zr w3 (.agg #[.bool s4, .int .u64 x4, .pointer p4]) _ := ⟨s4, x4, p4, n4, rfl, H4.out⟩
  go_wp2
  exact bodyPost_ret (v := .tuple #[.agg #[.bool s4, .int .u64 x4, .pointer p4], .int .i64 0]) (by simp [results, Try.results63, go_sem, g1, g2, g3]) rfl ⟨below3 k3 (Nat.le_refl _) _ _ _, _, rfl, (Z4.store t3.odd (grown3 _ _ _ _ _ _ _ _)).cast (by simp)⟩
end Go.Proofs.Ytjjomjjgoceklaa
namespace Go.Proofs.Ytjjomjjgoceklaa
open Go.RowKit

/-! strings.Cut at a byte that does not stand in the text; ParseZ; Parse's refusals and whole numbers -/
theorem slCut_none (s : ByteArray) (c : UInt8) (w : World) (hi : Lib.indexByte s.data.toList c = -1) :
    Calls Try.prog 89 #[.string s, .string ⟨#[c]⟩] w fun e w' => Below w.heap.size w w' ∧ e = .returned (.tuple #[.string s, .string ⟨#[]⟩, .bool false]) := by
  go_enter Try.func89, Try.ntmps89
  go_wp2_with fail
  refine (Try.stringslite_Index_one s c _).mono ?_
  rintro e w1 ⟨rfl, rfl⟩
  rw [hi]
  clear hi
  go_wp2
  refine bodyPost_ret (v := .tuple #[.string s, .string ⟨#[]⟩, .bool false]) (by simp [results, Try.results89, go_sem]) rfl ⟨Below.refl _ _, rfl⟩
theorem cut_none (s : ByteArray) (c : UInt8) (w : World) (hi : Lib.indexByte s.data.toList c = -1) :
    Calls Try.prog 64 #[.string s, .string ⟨#[c]⟩] w fun e w' => Below w.heap.size w w' ∧ e = .returned (.tuple #[.string s, .string ⟨#[]⟩, .bool false]) := by
  have HI := Lib.hid hi
  clear hi
  go_enter Try.func64, Try.ntmps64
  go_wp2_with fail
  refine (slCut_none s c _ HI.out).mono ?_
  rintro e w1 ⟨hb1, rfl⟩
  go_wp2
  exact bodyPost_ret (v := .tuple #[.string s, .string ⟨#[]⟩, .bool false]) (by simp [results, Try.results64, go_sem]) rfl ⟨hb1, rfl⟩
/-- ParseZ of a text that is not too long -/
theorem parseZ_any (s : ByteArray) (z er : Int) (w : World) (hs : s.size ≤ 1000) (h : ∀ W, Calls Try.prog 63 #[.string s] W (PZe z er W)) : Calls Try.prog 32 #[.string s] w (PZe z er w) := by
  have H := Lib.hid h
  have h1 : ¬ (1000 : Int) < (s.size : Int) := by omega
  clear h
  go_enter Try.func32, Try.ntmps32
  go_wp2_with fail
  refine (H.out _).mono ?_
  rintro e w1 ⟨hb1, v1, rfl, hv⟩
  have t1 : Rz w.heap.size w1 := Rz.keep (rz_new _ rfl) hb1 (by simp)
  have k1 := Below.thru (bl1 w _) (by simp) hb1
  clear hb1
  obtain ⟨s4, x4, p4, n4, rfl, h4⟩ := hv
  have Z4 := Lib.hid (show Zr w1 (.agg #[.bool s4, .int .u64 x4, .pointer p4]) z from ⟨s4, x4, p4, n4, rfl, h4⟩)
  clear h4
  obtain ⟨_, _, _, m1, m2, m3, m4, m5, m6⟩ := t1.cells
  obtain ⟨g1, g2, g3⟩ := three_cells m1 m2 m3 (.bool s4) (.int .u64 x4) (.pointer p4)
  go_wp2
  exact bodyPost_ret (v := .tuple #[.agg #[.bool s4, .int .u64 x4, .pointer p4], .int .i64 er]) (by simp [results, Try.results32, go_sem, g1, g2, g3]) rfl ⟨below3 k1 (Nat.le_refl _) _ _ _, _, rfl, Z4.out.store t1.odd (grown3 _ _ _ _ _ _ _ _)⟩
theorem parseZ_long (s : ByteArray) (w : World) (hs : 1000 < s.size) : Calls Try.prog 32 #[.string s] w (PZe 0 5 w) := by
  have h1 : (1000 : Int) < (s.size : Int) := by omega
  go_enter Try.func32, Try.ntmps32
  go_wp2
  exact bodyPost_ret (v := .tuple #[.agg #[.bool false, .int .u64 0, .pointer none], .int .i64 5]) (by simp [results, Try.results32, go_sem]) rfl ⟨bl1 _ _, _, rfl, Zr.zero _⟩
set_option maxRecDepth 100000 in
theorem parse_long (s : ByteArray) (w : World) (hs : 1000 < s.size) : Calls Try.prog 33 #[.string s] w (PRe 0 1 5 w) := by
  have h1 : (1000 : Int) < (s.size : Int) := by omega
  go_enter Try.func33, Try.ntmps33
  go_wp2
  exact bodyPost_ret (v := .tuple #[.agg #[.bool false, .int .u64 0, .pointer none, .int .u64 0, .pointer none], .int .i64 5]) (by simp [results, Try.results33, go_sem]) rfl ⟨bl1 _ _, _, rfl, Rr.zero _⟩
/-- Parse of a text whose number in front is refused -/
theorem parse_front (s t u : ByteArray) (b : Bool) (er : Int) (w : World) (hs : s.size ≤ 1000) (her : er ≠ 0)
    (hc : ∀ W, Calls Try.prog 64 #[.string s, .string ⟨#[47]⟩] W fun e w' => Below W.heap.size W w' ∧ e = .returned (.tuple #[.string t, .string u, .bool b]))
    (h : ∀ W, Calls Try.prog 63 #[.string t] W (PZe 0 er W)) : Calls Try.prog 33 #[.string s] w (PRe 0 1 er w) := by
  have H := Lib.hid h; have C := Lib.hid hc
  have h1 : ¬ (1000 : Int) < (s.size : Int) := by omega
  have h2 : (er != 0) = true := by simpa using her
  clear h hc her
  go_enter Try.func33, Try.ntmps33
  go_wp2_with fail
  refine (C.out _).mono ?_
  rintro e w1 ⟨hb1, rfl⟩
  have t1 : Rq w.heap.size w1 := Rq.keep (rq_new _ rfl) hb1 (by simp)
  have k1 := Below.thru (bl1 w _) (by simp) hb1
  have z1 : w.heap.size + 1 ≤ w1.heap.size := Nat.le_trans (by simp) hb1.size
  go_wp2_with fail
  refine (H.out w1).mono ?_
  rintro e w2 ⟨hb2, v2, rfl, hv⟩
  obtain ⟨s4, x4, p4, n4, rfl, h4⟩ := hv
  have t2 := (t1.keep hb2 (by omega)).alloc (.cells #[.bool s4, .int .u64 x4, .pointer p4] 29)
  have k2 := Below.thru (Below.thru k1 k1.size hb2) (Below.thru k1 k1.size hb2).size (bl1 w2 (.cells #[.bool s4, .int .u64 x4, .pointer p4] 29))
  have z2 : w.heap.size + 1 ≤ w2.heap.size := Nat.le_trans z1 hb2.size
  clear hb1 hb2 t1 k1 h4
  go_upto_region 5 with fail
  generalize w2.alloc (.cells #[.bool s4, .int .u64 x4, .pointer p4] 29) = w3 at *
  obtain ⟨_, _, _, _, _, m1, m2, m3, m4, m5, m6, m7, m8, m9, m10⟩ := t2.cells
  obtain ⟨n1, n2, n3, n4, n5⟩ := five_cells m1 m2 m3 m4 m5 (.bool false) (.int .u64 0) (.pointer none) (.int .u64 0) (.pointer none)
  unfold st5 at n1 n2 n3 n4 n5
  go_wp2
  exact bodyPost_ret (v := .tuple #[.agg #[.bool false, .int .u64 0, .pointer none, .int .u64 0, .pointer none], .int .i64 er]) (by simp [results, Try.results33, go_sem, n1, n2, n3, n4, n5]) rfl ⟨below5 k2 (Nat.le_refl _) _ _ _ _ _, _, rfl, Rr.zero _⟩
end Go.Proofs.Ytjjomjjgoceklaa
namespace Go.Proofs.Ytjjomjjgoceklaa
open Go.RowKit

/-! Parse of 'a/b', of a whole number, refused behind the slash; OfZ over zero -/
set_option maxRecDepth 100000 in
set_option maxHeartbeats 1600000 in
theorem parse_slash (s u1 u2 : ByteArray) (z n2 er2 : Int) (d d2 : Nat) (w : World) (hs : s.size ≤ 1000)
    (hc : ∀ W, Calls Try.prog 64 #[.string s, .string ⟨#[47]⟩] W fun e w' => Below W.heap.size W w' ∧ e = .returned (.tuple #[.string u1, .string u2, .bool true]))
    (hz : ∀ W, Calls Try.prog 63 #[.string u1] W (PZe z 0 W)) (hu : u2.size ≤ 1000) (hn : NatP u2) (hd : dec u2 u2.size = d)
    (ho : ∀ W v1 v2, Zr W v1 z → Zr W v2 (d : Int) → Calls Try.prog 67 #[v1, v2] W (PRe n2 d2 er2 W)) :
    Calls Try.prog 33 #[.string s] w (PRe n2 d2 er2 w) := by
  have HZ := Lib.hid hz
  have HC := Lib.hid hc
  have HB := Lib.hid (fun W => nat_yes u2 W (by omega) hn)
  have HD := Lib.hid (fun W => readDigits_any u2 W hu hn.dig)
  rw [hd] at HD
  have HO := Lib.hid ho
  clear hc hz hn hd ho
  go_enter Try.func33, Try.ntmps33
  go_wp2_with fail
  refine (HC.out _).mono ?_
  rintro e w1 ⟨hb1, rfl⟩
  have t1 : Rq w.heap.size w1 := Rq.keep (rq_new _ rfl) hb1 (by simp)
  have k1 := Below.thru (bl1 w _) (by simp) hb1
  have z1 : w.heap.size + 1 ≤ w1.heap.size := Nat.le_trans (by simp) hb1.size
  go_wp2_with fail
  refine (HZ.out w1).mono ?_
  rintro e w2 ⟨hb2, v2, rfl, h2⟩
  have h2' := h2
  obtain ⟨s2, x2, p2, rfl, _⟩ := h2'.dg
  have H2 := Lib.hid h2
  have t2 := t1.keep hb2 (by omega)
  have k2 := Below.thru k1 k1.size hb2
  have z2 : w.heap.size + 1 ≤ w2.heap.size := Nat.le_trans z1 hb2.size
  clear h2 hb1 t1 hb2 k1
  go_wp2_with fail
  refine (HB.out _).mono ?_
  rintro e w3 ⟨hb3, rfl⟩
  have k2' := Below.thru k2 k2.size (bl1 w2 (.cells #[.bool s2, .int .u64 x2, .pointer p2] 29))
  have k3 := Below.thru k2' k2'.size hb3
  have q3 : Cz w2.heap.size s2 x2 p2 w3 := Cz.keep (by refine ⟨?_, ?_, ?_⟩ <;> simp [go_sem]) hb3 (by simp)
  have t3 := (t2.alloc (.cells #[.bool s2, .int .u64 x2, .pointer p2] 29)).keep hb3 (by simp; omega)
  have z3 : w2.heap.size + 1 ≤ w3.heap.size := Nat.le_trans (by simp) hb3.size
  have H3 := Lib.hid ((H2.out.keep (bl1 w2 (.cells #[.bool s2, .int .u64 x2, .pointer p2] 29)) (Nat.le_refl _)).keep hb3 (Nat.le_refl _))
  clear hb3 k2' t2
  go_wp2
  have q0 : Cz w2.heap.size s2 x2 p2 w3.drew := q3
  have t0 : Rq w.heap.size w3.drew := t3
  have k0 : Below w.heap.size w w3.drew := k3.drew
  have z0 : w2.heap.size + 1 ≤ w3.drew.heap.size := z3
  have hz0 : Zr w3.drew (.agg #[.bool s2, .int .u64 x2, .pointer p2]) z := H3.out.keep (B := w3.heap.size) (Below.refl _ _).drew (Nat.le_refl _)
  go_region_held3 (fun w' => w'.cell? ⟨w2.heap.size, 0, none⟩ = some (.bool s2) ∧ w'.cell? ⟨w2.heap.size, 1, none⟩ = some (.int .u64 x2) ∧ w'.cell? ⟨w2.heap.size, 2, none⟩ = some (.pointer p2))
    (first | (with_reducible exact q7) | (with_reducible exact q6) | (with_reducible exact q5) | (with_reducible exact q4) | (with_reducible exact q0))
    (first
      | (go_at_call 68; (with_reducible refine (HD.out w3.drew).mono ?_); rintro e w4 ⟨hb4, v4, rfl, h4⟩
         have q4 := Cz.keep q0 hb4 (by omega); have t4 := Rq.keep t0 hb4 (by omega); have k4 := Below.thru k0 k0.size hb4; have z4 : w2.heap.size + 1 ≤ w4.heap.size := Nat.le_trans z0 hb4.size; have hz4 := hz0.keep hb4 (Nat.le_refl _))
      | (go_at_call 51; (with_reducible refine (signed_any v4 _ false w4 h4).mono ?_); rintro e w5 ⟨hb5, v5, rfl, h5⟩; have h5 : Zr w5 v5 (d : Int) := h5
         have q5 := Cz.keep q4 hb5 (by omega); have t5 := Rq.keep t4 hb5 (by omega); have k5 := Below.thru k4 k4.size hb5; have z5 : w2.heap.size + 1 ≤ w5.heap.size := Nat.le_trans z4 hb5.size; have hz5 := hz4.keep hb5 (Nat.le_refl _))
      | (go_at_call 67; (with_reducible refine (HO.out w5 _ v5 hz5 h5).mono ?_); rintro e w6 ⟨hb6, v6, rfl, h6⟩
         have q6 := Cz.keep q5 hb6 (by omega); have t6 := Rq.keep t5 hb6 (by omega); have k6 := Below.thru k5 k5.size hb6; obtain ⟨s7, x7, p7, y7, r7, rfl⟩ := h6.agg; obtain ⟨_, _, _, _, _, m1, m2, m3, m4, m5, m6, m7, m8, m9, m10⟩ := t6.cells
         have q7 := Cz.st q6 (T := w.heap.size) (by omega) (.bool s7) (.int .u64 x7) (.pointer p7) (.int .u64 y7) (.pointer r7)))
  obtain ⟨n1, n2, n3, n4, n5⟩ := five_cells m1 m2 m3 m4 m5 (.bool s7) (.int .u64 x7) (.pointer p7) (.int .u64 y7) (.pointer r7)
  unfold st5 at n1 n2 n3 n4 n5
  have H6 := Lib.hid h6
  clear h6 q0 q4 q5 q6 q7
  go_wp2
  exact bodyPost_ret (v := .tuple #[.agg #[.bool s7, .int .u64 x7, .pointer p7, .int .u64 y7, .pointer r7], .int .i64 er2]) (by simp [results, Try.results33, go_sem, n1, n2, n3, n4, n5]) rfl ⟨below5 k6 (Nat.le_refl _) _ _ _ _ _, _, rfl, H6.out.store t6.odd (grown5 _ _ _ _ _ _ _)⟩

theorem ofZ_zero (vn vd : Value) (n : Int) (w : World) (hn : Zr w vn n) (hd : Zr w vd 0) : Calls Try.prog 67 #[vn, vd] w (PRe 0 1 9 w) := by
  obtain ⟨s, xa, pa, m, rfl, _⟩ := hn
  obtain ⟨sd, xd, pd, rfl, hdd, h1, h2⟩ := hd.dg
  have HD := Lib.hid hdd
  clear hdd h1 h2
  go_enter Try.func67, Try.ntmps67
  go_wp2_with (go_at_call 57; refine (isZero_yes _ (HD.out.keep (bl3 _ _ _ _) (Nat.le_refl _)) rfl).mono ?_; rintro e w1 ⟨rfl, c1, t1, rfl⟩)
  exact bodyPost_ret (v := .tuple #[.agg #[.bool false, .int .u64 0, .pointer none, .int .u64 0, .pointer none], .int .i64 9]) (by simp [results, Try.results67, go_sem]) rfl ⟨by first | exact Below.thru (bl3 _ _ _ _) (by simp <;> omega) (bl2 _ _ _) | exact below5 (Below.thru (bl3 _ _ _ _) (by simp <;> omega) (bl2 _ _ _)) (by omega) _ _ _ _ _, _, rfl, Rr.zero _⟩
theorem parse_back (s t u : ByteArray) (z : Int) (w : World) (hs : s.size ≤ 1000) (hu : u.size ≤ 2000) (hn : ¬ NatP u)
    (hc : ∀ W, Calls Try.prog 64 #[.string s, .string ⟨#[47]⟩] W fun e w' => Below W.heap.size W w' ∧ e = .returned (.tuple #[.string t, .string u, .bool true]))
    (h : ∀ W, Calls Try.prog 63 #[.string t] W (PZe z 0 W)) : Calls Try.prog 33 #[.string s] w (PRe 0 1 4 w) := by
  have H := Lib.hid h; have C := Lib.hid hc; have N := Lib.hid (fun W => nat_no u W hu hn)
  have h1 : ¬ (1000 : Int) < (s.size : Int) := by omega
  clear h hc hn
  go_enter Try.func33, Try.ntmps33
  go_wp2_with fail
  refine (C.out _).mono ?_
  rintro e w1 ⟨hb1, rfl⟩
  have t1 : Rq w.heap.size w1 := Rq.keep (rq_new _ rfl) hb1 (by simp)
  have k1 := Below.thru (bl1 w _) (by simp) hb1
  have z1 : w.heap.size + 1 ≤ w1.heap.size := Nat.le_trans (by simp) hb1.size
  go_wp2_with fail
  refine (H.out w1).mono ?_
  rintro e w2 ⟨hb2, v2, rfl, hv⟩
  obtain ⟨s4, x4, p4, n4, rfl, h4⟩ := hv
  have t2 := (t1.keep hb2 (by omega)).alloc (.cells #[.bool s4, .int .u64 x4, .pointer p4] 29)
  have k2 := Below.thru (Below.thru k1 k1.size hb2) (Below.thru k1 k1.size hb2).size (bl1 w2 (.cells #[.bool s4, .int .u64 x4, .pointer p4] 29))
  have z2 : w.heap.size + 1 ≤ w2.heap.size := Nat.le_trans z1 hb2.size
  clear hb1 hb2 t1 k1 h4
  go_upto_region 5 with fail
  generalize hG : w2.alloc (.cells #[.bool s4, .int .u64 x4, .pointer p4] 29) = w3 at *
  have z3 : w.heap.size + 1 ≤ w3.heap.size := by rw [← hG]; simp; omega
  clear hG
  go_wp2_with fail
  refine (N.out _).mono ?_
  rintro e w5 ⟨hb5, rfl⟩
  have t5 := t2.keep hb5 (by omega)
  have k5 := Below.thru k2 k2.size hb5
  clear t2 k2 hb5
  obtain ⟨_, _, _, _, _, m1, m2, m3, m4, m5, m6, m7, m8, m9, m10⟩ := t5.cells
  obtain ⟨n1, n2, n3, n4, n5⟩ := five_cells m1 m2 m3 m4 m5 (.bool false) (.int .u64 0) (.pointer none) (.int .u64 0) (.pointer none)
  unfold st5 at n1 n2 n3 n4 n5
  go_wp2
  exact bodyPost_ret (v := .tuple #[.agg #[.bool false, .int .u64 0, .pointer none, .int .u64 0, .pointer none], .int .i64 4]) (by simp [results, Try.results33, go_sem, n1, n2, n3, n4, n5]) rfl ⟨below5 k5 (Nat.le_refl _) _ _ _ _ _, _, rfl, Rr.zero _⟩
end Go.Proofs.Ytjjomjjgoceklaa
namespace Go.Proofs.Ytjjomjjgoceklaa
open Go.RowKit

/-! Parse of a whole number, Of, Ratio, R.Div by zero, z -/
set_option maxRecDepth 100000 in
theorem parse_whole (s t u : ByteArray) (z : Int) (w : World) (hs : s.size ≤ 1000)
    (hc : ∀ W, Calls Try.prog 64 #[.string s, .string ⟨#[47]⟩] W fun e w' => Below W.heap.size W w' ∧ e = .returned (.tuple #[.string t, .string u, .bool false]))
    (h : ∀ W, Calls Try.prog 63 #[.string t] W (PZe z 0 W)) : Calls Try.prog 33 #[.string s] w (PRe z 1 0 w) := by
  have H := Lib.hid h; have C := Lib.hid hc
  have h1 : ¬ (1000 : Int) < (s.size : Int) := by omega
  clear h hc
  go_enter Try.func33, Try.ntmps33
  go_wp2_with fail
  refine (C.out _).mono ?_
  rintro e w1 ⟨hb1, rfl⟩
  have t1 : Rq w.heap.size w1 := Rq.keep (rq_new _ rfl) hb1 (by simp)
  have k1 := Below.thru (bl1 w _) (by simp) hb1
  have z1 : w.heap.size + 1 ≤ w1.heap.size := Nat.le_trans (by simp) hb1.size
  go_wp2_with fail
  refine (H.out w1).mono ?_
  rintro e w2 ⟨hb2, v2, rfl, hv⟩
  obtain ⟨s4, x4, p4, n4, rfl, h4⟩ := hv
  have Z4 := Lib.hid ((show Zr w2 (.agg #[.bool s4, .int .u64 x4, .pointer p4]) z from ⟨s4, x4, p4, n4, rfl, h4⟩).keep (bl1 w2 (.cells #[.bool s4, .int .u64 x4, .pointer p4] 29)) (Nat.le_refl _))
  have X4 := Lib.hid (b3_blk (Go.Deep.blk_alloc_new w2 (.cells #[.bool s4, .int .u64 x4, .pointer p4] 29)))
  have t2 := (t1.keep hb2 (by omega)).alloc (.cells #[.bool s4, .int .u64 x4, .pointer p4] 29)
  have k2 := Below.thru (Below.thru k1 k1.size hb2) (Below.thru k1 k1.size hb2).size (bl1 w2 (.cells #[.bool s4, .int .u64 x4, .pointer p4] 29))
  have z2 : w.heap.size + 1 ≤ w2.heap.size := Nat.le_trans z1 hb2.size
  clear hb1 hb2 t1 k1 h4
  go_upto_region 5 with fail
  generalize hG : w2.alloc (.cells #[.bool s4, .int .u64 x4, .pointer p4] 29) = w3 at *
  have z3 : w.heap.size + 1 ≤ w3.heap.size := by rw [← hG]; simp; omega
  clear hG
  obtain ⟨g1, g2, g3⟩ := X4.out
  go_wp2_with fail
  refine (whole_any _ z _ Z4.out).mono ?_
  rintro e w5 ⟨hb5, v5, rfl, h5⟩
  have t5 := t2.keep hb5 (by omega)
  have k5 := Below.thru k2 k2.size hb5
  obtain ⟨s7, x7, p7, y7, r7, rfl⟩ := h5.agg
  have H5 := Lib.hid h5
  clear t2 k2 hb5 h5 g1 g2 g3
  obtain ⟨_, _, _, _, _, m1, m2, m3, m4, m5, m6, m7, m8, m9, m10⟩ := t5.cells
  obtain ⟨n1, n2, n3, n4, n5⟩ := five_cells m1 m2 m3 m4 m5 (.bool s7) (.int .u64 x7) (.pointer p7) (.int .u64 y7) (.pointer r7)
  unfold st5 at n1 n2 n3 n4 n5
  go_wp2
  exact bodyPost_ret (v := .tuple #[.agg #[.bool s7, .int .u64 x7, .pointer p7, .int .u64 y7, .pointer r7], .int .i64 0]) (by simp [results, Try.results33, go_sem, n1, n2, n3, n4, n5]) rfl ⟨below5 k5 (Nat.le_refl _) _ _ _ _ _, _, rfl, H5.out.store t5.odd (grown5 _ _ _ _ _ _ _)⟩
theorem of_any (n : Int) (w : World) (h : I64 n) : Calls Try.prog 36 #[.int .i64 n] w (PR n 1 w) := by
  have HN := Lib.hid h
  clear h
  go_enter Try.func36, Try.ntmps36
  go_wp2_with fail
  refine (int_any n _ HN.out).mono ?_
  rintro e w1 ⟨hb1, v1, rfl, h1⟩
  have t1 : Rq w.heap.size w1 := Rq.keep (rq_new _ rfl) hb1 (by simp)
  have k1 := Below.thru (bl1 w _) (by simp) hb1
  have z1 : w.heap.size + 1 ≤ w1.heap.size := Nat.le_trans (by simp) hb1.size
  clear hb1
  go_wp2_with fail
  refine (whole_any _ n _ h1).mono ?_
  rintro e w5 ⟨hb5, v5, rfl, h5⟩
  have t5 := t1.keep hb5 (by omega)
  have k5 := Below.thru k1 k1.size hb5
  obtain ⟨s7, x7, p7, y7, r7, rfl⟩ := h5.agg
  have H5 := Lib.hid h5
  clear t1 k1 hb5 h5
  obtain ⟨_, _, _, _, _, m1, m2, m3, m4, m5, m6, m7, m8, m9, m10⟩ := t5.cells
  obtain ⟨n1, n2, n3, n4, n5⟩ := five_cells m1 m2 m3 m4 m5 (.bool s7) (.int .u64 x7) (.pointer p7) (.int .u64 y7) (.pointer r7)
  unfold st5 at n1 n2 n3 n4 n5
  go_wp2
  exact bodyPost_ret (v := .agg #[.bool s7, .int .u64 x7, .pointer p7, .int .u64 y7, .pointer r7]) (by simp [results, Try.results36, go_sem, n1, n2, n3, n4, n5]) rfl ⟨below5 k5 (Nat.le_refl _) _ _ _ _ _, _, rfl, H5.out.store t5.odd (grown5 _ _ _ _ _ _ _)⟩
theorem ratio_any (a b n er : Int) (d : Nat) (w : World) (ha : I64 a) (hb : I64 b) (ho : ∀ W v1 v2, Zr W v1 a → Zr W v2 b → Calls Try.prog 67 #[v1, v2] W (PRe n d er W)) : Calls Try.prog 35 #[.int .i64 a, .int .i64 b] w (PRe n d er w) := by
  have HA := Lib.hid ha; have HB := Lib.hid hb; have HO := Lib.hid ho
  clear ha hb ho
  go_enter Try.func35, Try.ntmps35
  go_wp2_with fail
  refine (int_any a _ HA.out).mono ?_
  rintro e w1 ⟨hb1, v1, rfl, h1⟩
  have t1 : Rq w.heap.size w1 := Rq.keep (rq_new _ rfl) hb1 (by simp)
  have k1 := Below.thru (bl1 w _) (by simp) hb1
  have z1 : w.heap.size + 1 ≤ w1.heap.size := Nat.le_trans (by simp) hb1.size
  clear hb1
  go_wp2_with fail
  refine (int_any b _ HB.out).mono ?_
  rintro e w2 ⟨hb2, v2, rfl, h2⟩
  have t2 := t1.keep hb2 (by omega)
  have k2 := Below.thru k1 k1.size hb2
  have z2 : w.heap.size + 1 ≤ w2.heap.size := Nat.le_trans z1 hb2.size
  have h1 := h1.keep hb2 (Nat.le_refl _)
  clear hb2 t1 k1
  go_wp2_with fail
  refine (HO.out w2 v1 v2 h1 h2).mono ?_
  rintro e w5 ⟨hb5, v5, rfl, h5⟩
  have t5 := t2.keep hb5 (by omega)
  have k5 := Below.thru k2 k2.size hb5
  obtain ⟨s7, x7, p7, y7, r7, rfl⟩ := h5.agg
  have H5 := Lib.hid h5
  clear t2 k2 hb5 h5
  obtain ⟨_, _, _, _, _, m1, m2, m3, m4, m5, m6, m7, m8, m9, m10⟩ := t5.cells
  obtain ⟨n1, n2, n3, n4, n5⟩ := five_cells m1 m2 m3 m4 m5 (.bool s7) (.int .u64 x7) (.pointer p7) (.int .u64 y7) (.pointer r7)
  unfold st5 at n1 n2 n3 n4 n5
  go_wp2
  exact bodyPost_ret (v := .tuple #[.agg #[.bool s7, .int .u64 x7, .pointer p7, .int .u64 y7, .pointer r7], .int .i64 er]) (by simp [results, Try.results35, go_sem, n1, n2, n3, n4, n5]) rfl ⟨below5 k5 (Nat.le_refl _) _ _ _ _ _, _, rfl, H5.out.store t5.odd (grown5 _ _ _ _ _ _ _)⟩
end Go.Proofs.Ytjjomjjgoceklaa
namespace Go.Proofs.Ytjjomjjgoceklaa
open Go.RowKit

/-! z; R.Div by zero -/
theorem z_any (s : ByteArray) (z er : Int) (w : World) (h : ∀ W, Calls Try.prog 32 #[.string s] W (PZe z er W)) : Calls Try.prog 38 #[.string s] w (PZ z w) := by
  have H := Lib.hid h
  clear h
  go_enter Try.func38, Try.ntmps38
  go_wp2_with fail
  refine (H.out _).mono ?_
  rintro e w1 ⟨hb1, v1, rfl, h1⟩
  have t1 : Rz w.heap.size w1 := Rz.keep (rz_new _ rfl) hb1 (by simp)
  have k1 := Below.thru (bl1 w _) (by simp) hb1
  have z1 : w.heap.size + 1 ≤ w1.heap.size := Nat.le_trans (by simp) hb1.size
  obtain ⟨s5, x5, p5, n5, rfl, h2⟩ := h1
  have t2 := t1.keep (bl1 w1 (.cells #[.bool s5, .int .u64 x5, .pointer p5] 29)) (by omega)
  have k2 := Below.thru k1 k1.size (bl1 w1 (.cells #[.bool s5, .int .u64 x5, .pointer p5] 29))
  have Z2 := (show Zr w1 (.agg #[.bool s5, .int .u64 x5, .pointer p5]) z from ⟨s5, x5, p5, n5, rfl, h2⟩).keep (bl1 w1 (.cells #[.bool s5, .int .u64 x5, .pointer p5] 29)) (Nat.le_refl _)
  obtain ⟨_, _, _, m1, m2, m3, m4, m5, m6⟩ := t2.cells
  obtain ⟨i1, i2, i3⟩ := three_cells m1 m2 m3 (.bool s5) (.int .u64 x5) (.pointer p5)
  have HR := Lib.hid (Z2.store t2.odd (grown3 (w1.alloc (.cells #[.bool s5, .int .u64 x5, .pointer p5] 29)) w.heap.size 0 1 2 (.bool s5) (.int .u64 x5) (.pointer p5)))
  clear hb1 h2 Z2
  go_wp2
  exact bodyPost_ret (v := .agg #[.bool s5, .int .u64 x5, .pointer p5]) (by simp [results, Try.results38, go_sem, i1, i2, i3]) rfl ⟨below3 k2 (Nat.le_refl _) _ _ _, _, rfl, HR.out⟩
theorem rdiv_zero (va vz : Value) (n : Int) (d d2 : Nat) (w : World) (ha : Rr w va n d) (hz : Rr w vz 0 d2) : Calls Try.prog 37 #[va, vz] w (PRe 0 1 9 w) := by
  obtain ⟨s1, x1, p1, y1, q1, rfl⟩ := ha.agg
  obtain ⟨s, x, p, y, q, rfl, hZ, _⟩ := hz
  obtain ⟨s', x', p', e, hdd, _, _⟩ := hZ.dg
  simp only [Value.agg.injEq, Array.mk.injEq, List.cons.injEq, and_true, Value.bool.injEq, Value.int.injEq, Value.pointer.injEq, true_and] at e
  obtain ⟨rfl, rfl, rfl⟩ := e
  have HD := Lib.hid hdd
  clear hdd hZ ha
  go_enter Try.func37, Try.ntmps37
  go_wp2_with (go_at_call 57; refine (isZero_yes _ (HD.out.keep (bl3 _ _ _ _) (Nat.le_refl _)) rfl).mono ?_; rintro e w1 ⟨rfl, c1, t1, rfl⟩)
  exact bodyPost_ret (v := .tuple #[.agg #[.bool false, .int .u64 0, .pointer none, .int .u64 0, .pointer none], .int .i64 9]) (by simp [results, Try.results37, go_sem]) rfl ⟨by first | exact Below.thru (bl3 _ _ _ _) (by simp <;> omega) (bl2 _ _ _) | exact below5 (Below.thru (bl3 _ _ _ _) (by simp <;> omega) (bl2 _ _ _)) (by omega) _ _ _ _ _, _, rfl, Rr.zero _⟩
end Go.Proofs.Ytjjomjjgoceklaa
namespace Go.Proofs.Ytjjomjjgoceklaa
open Go.RowKit

/-! R.Neg -/
theorem Rr.dg' {w : World} {s : Bool} {x y : Int} {p q : Option Addr} {n : Int} {d : Nat} (h : Rr w (.agg #[.bool s, .int .u64 x, .pointer p, .int .u64 y, .pointer q]) n d) : Dg w (.agg #[.int .u64 y, .pointer q]) (if d = 1 then 0 else d) := by
  obtain ⟨_, _, _, _, _, e, _, h2, _⟩ := h
  simp only [Value.agg.injEq, Array.mk.injEq, List.cons.injEq, and_true, Value.bool.injEq, Value.int.injEq, Value.pointer.injEq, true_and] at e
  obtain ⟨_, _, _, rfl, rfl⟩ := e
  exact h2
theorem Rr.zr' {w : World} {s : Bool} {x y : Int} {p q : Option Addr} {n : Int} {d : Nat} (h : Rr w (.agg #[.bool s, .int .u64 x, .pointer p, .int .u64 y, .pointer q]) n d) : Zr w (.agg #[.bool s, .int .u64 x, .pointer p]) n := by
  obtain ⟨_, _, _, _, _, e, h2, _⟩ := h
  simp only [Value.agg.injEq, Array.mk.injEq, List.cons.injEq, and_true, Value.bool.injEq, Value.int.injEq, Value.pointer.injEq, true_and] at e
  obtain ⟨rfl, rfl, rfl, _, _⟩ := e
  exact h2
theorem Rr.pos' {w : World} {v : Value} {n : Int} {d : Nat} (h : Rr w v n d) : 0 < d := by obtain ⟨_, _, _, _, _, _, _, _, h, _⟩ := h; exact h
theorem Rr.low {w : World} {v : Value} {n : Int} {d : Nat} (h : Rr w v n d) : Nat.gcd n.natAbs d = 1 := by obtain ⟨_, _, _, _, _, _, _, _, _, h⟩ := h; exact h
section
variable {ρ : Operand → Value} {o : Oper} {w : World} {t x1 x2 : Operand}
theorem rn_field61_0 {b : Nat} (ho : o.op = .fieldAddr 61 t 0) (he : ρ t = .pointer (some ⟨b, 0, none⟩)) : (execOp ρ o).run Try.prog w = .ok (.value (.pointer (some ⟨b, 0, none⟩))) w := by
  unfold execOp; rw [ho]; simp [go_sem, he]
theorem rn_field61_1 {b : Nat} (ho : o.op = .fieldAddr 61 t 1) (he : ρ t = .pointer (some ⟨b, 0, none⟩)) : (execOp ρ o).run Try.prog w = .ok (.value (.pointer (some ⟨b, 3, none⟩))) w := by
  unfold execOp; rw [ho]; simp [go_sem, he]
theorem rn_load27c {T i : Nat} {x : Int} {p : Option Addr} (ho : o.op = .load 27 t) (he : ρ t = .pointer (some ⟨T, i, none⟩)) (h1 : w.cell? ⟨T, i, none⟩ = some (.int .u64 x)) (h2 : w.cell? ⟨T, i + 1, none⟩ = some (.pointer p)) : (execOp ρ o).run Try.prog w = .ok (.value (.agg #[.int .u64 x, .pointer p])) w := by
  unfold execOp; rw [ho]; simp [go_sem, he, h1, h2]
theorem rn_build61 {s : Bool} {x y : Int} {p q : Option Addr} (ho : o.op = .build 61 #[(0, x1), (1, x2)]) (h1 : ρ x1 = .agg #[.bool s, .int .u64 x, .pointer p]) (h2 : ρ x2 = .agg #[.int .u64 y, .pointer q]) : (execOp ρ o).run Try.prog w = .ok (.value (.agg #[.bool s, .int .u64 x, .pointer p, .int .u64 y, .pointer q])) w := by
  unfold execOp; rw [ho]; simp [go_sem, h1, h2]
theorem rn_store61 {T : Nat} {s : Bool} {x y : Int} {p q : Option Addr} (ho : o.op = .store 61 t x1) (he : ρ t = .pointer (some ⟨T, 0, none⟩)) (hx : ρ x1 = .agg #[.bool s, .int .u64 x, .pointer p, .int .u64 y, .pointer q]) (h : Rq T w) : (execOp ρ o).run Try.prog w = .ok .skip (st5 w T (.bool s) (.int .u64 x) (.pointer p) (.int .u64 y) (.pointer q)) := by
  obtain ⟨_, _, _, _, _, m1, m2, m3, m4, m5, m6, m7, m8, m9, m10⟩ := h.cells
  unfold execOp; rw [ho]; simp [go_sem, he, hx, m1, m2, m3, m4, m5, m6, m7, m8, m9, m10]
end
structure N5 (w0 : World) (s : Bool) (x y : Int) (p q : Option Addr) (n : Int) (d : Nat) (w : World) : Prop where
  k : Below w0.heap.size w0 w
  a : w.heap[w0.heap.size]? = some (.cells #[.bool s, .int .u64 x, .pointer p, .int .u64 y, .pointer q] 61 (0, 0))
  r : Rr w (.agg #[.bool s, .int .u64 x, .pointer p, .int .u64 y, .pointer q]) n d
  t : Rq (w0.heap.size + 1) w
section
variable {w0 w w' : World} {s : Bool} {x y : Int} {p q : Option Addr} {n : Int} {d : Nat}
theorem Rq.lt {T : Nat} {w : World} (h : Rq T w) : T < w.heap.size := by obtain ⟨_, _, _, _, _, h⟩ := h; exact blk_lt h
theorem N5.keep (h : N5 w0 s x y p q n d w) (hb : Below w.heap.size w w') : N5 w0 s x y p q n d w' := ⟨Below.thru h.k h.k.size hb, blk_keep h.a hb, h.r.keep hb (Nat.le_refl _), h.t.keep hb h.t.lt⟩
theorem N5.b3 (h : N5 w0 s x y p q n d w) : B3 w0.heap.size s x p w := by refine ⟨?_, ?_, ?_⟩ <;> simp [World.cell?, h.a]
theorem N5.z (h : N5 w0 s x y p q n d w) : Zr w (.agg #[.bool s, .int .u64 x, .pointer p]) n := h.r.zr'
theorem N5.c3 (h : N5 w0 s x y p q n d w) : w.cell? ⟨w0.heap.size, 3, none⟩ = some (.int .u64 y) ∧ w.cell? ⟨w0.heap.size, 3 + 1, none⟩ = some (.pointer q) := by constructor <;> simp [World.cell?, h.a]
end
theorem cell_blk {w : World} {T i : Nat} {c : Array Value} {t : TypeId} (h : w.heap[T]? = some (.cells c t (0, 0))) : w.cell? ⟨T, i, none⟩ = c[i]? := by simp [World.cell?, h]
def DN1 (t : Nat) : Bool := Nat.ble 3 t && Nat.ble t 8
def tabN1 (S : Nat) (n : Int) (d : Nat) (y : Int) (q : Option Addr) (t : Nat) : Kd := [kp S 0, .z n, .z (-n), kp S 3, .v (.agg #[.int .u64 y, .pointer q]), .q (-n) d].getD (t - 3) .any
set_option maxRecDepth 100000 in
set_option maxHeartbeats 800000 in
theorem rneg_any (v : Value) (n : Int) (d : Nat) (w : World) (h : Rr w v n d) : Calls Try.prog 75 #[v] w (PR (-n) d w) := by
  obtain ⟨s, x, p, y, q, rfl⟩ := h.agg
  have S0 : N5 w s x y p q n d ((w.alloc (.cells #[.bool s, .int .u64 x, .pointer p, .int .u64 y, .pointer q] 61)).alloc (.cells #[.bool false, .int .u64 0, .pointer none, .int .u64 0, .pointer none] 61)) :=
    ⟨bl2 _ _ _, blk_keep (Go.Deep.blk_alloc_new _ _) (bl1 _ _), h.keep (bl2 _ _ _) (Nat.le_refl _), rq_new _ (by simp)⟩
  have S0 := Lib.hid S0
  clear h
  go_enter Try.func75, Try.ntmps75
  go_wp2_with fail
  go_cut [] (fun wc => Below w.heap.size w wc ∧ ∃ (s : Bool) (x y : Int) (p q : Option Addr), wc.heap[w.heap.size + 1]? = some (.cells #[.bool s, .int .u64 x, .pointer p, .int .u64 y, .pointer q] 61 (0, 0)) ∧ Rr wc (.agg #[.bool s, .int .u64 x, .pointer p, .int .u64 y, .pointer q]) (-n) d)
  case first =>
    rename_i J K' hJ hK
    refine wp_region_two DN1 (tabN1 w.heap.size n d y q) (fun w' => N5 w s x y p q n d w') 6 (fun _ _ wc => Below w.heap.size w wc ∧ ∃ (s : Bool) (x y : Int) (p q : Option Addr), wc.heap[w.heap.size + 1]? = some (.cells #[.bool s, .int .u64 x, .pointer p, .int .u64 y, .pointer q] 61 (0, 0)) ∧ Rr wc (.agg #[.bool s, .int .u64 x, .pointer p, .int .u64 y, .pointer q]) (-n) d) (by kernel_rfl) (by kernel_rfl) (by kernel_rfl) (by kernel_rfl) (by decide) (by kernel_rfl) (fun _ _ h hb => h.keep hb) (S0.out.keep (Below.refl _ _).drew) ?_ ?_ ?_
    · refine .cons (fun f w' hI hs => ⟨wanted_none rfl, _, rfl, .val (rn_field61_0 rfl (fr_old rfl rfl)) ⟨Below.refl _ _, rfl⟩⟩) ?_
      refine .cons (fun f w' hI hs => ⟨wanted_none rfl, _, rfl, .val (rn_load29 rfl ((fr_own rfl rfl).trans (hs 3 (by kernel_rfl))) hI.b3) ⟨Below.refl _ _, hI.z⟩⟩) ?_
      refine .cons (fun f w' hI hs => ⟨wanted_none rfl, _, rfl, .call1 rfl cf20 rfl rfl (PZ.kd (neg_any _ n _ (hs 4 (by kernel_rfl))))⟩) ?_
      refine .cons (fun f w' hI hs => ⟨wanted_none rfl, _, rfl, .val (rn_field61_1 rfl (fr_old rfl rfl)) ⟨Below.refl _ _, rfl⟩⟩) ?_
      refine .cons (fun f w' hI hs => ⟨wanted_none rfl, _, rfl, .val (rn_load27c rfl ((fr_own rfl rfl).trans (hs 6 (by kernel_rfl))) hI.c3.1 hI.c3.2) ⟨Below.refl _ _, rfl⟩⟩) ?_
      refine .cons (fun f w' hI hs => ?_) .nil
      have h5 : Zr w' (f 5) (-n) := (hs 5 (by kernel_rfl))
      have h7 : f 7 = .agg #[.int .u64 y, .pointer q] := (hs 7 (by kernel_rfl))
      obtain ⟨s', x', p', n', e5, h6⟩ := id h5
      refine ⟨wanted_none rfl, _, rfl, .val (rn_build61 rfl ((fr_own rfl rfl).trans e5) ((fr_own rfl rfl).trans h7)) ⟨Below.refl _ _, ?_⟩⟩
      rw [e5] at h5
      exact ⟨s', x', p', y, q, rfl, h5, hI.r.dg', hI.r.pos', by rw [Int.natAbs_neg]; exact hI.r.low⟩
    · refine .cons (fun f w' h => ⟨wanted_none rfl, ?_⟩) .nil
      obtain ⟨hI, hs⟩ := (if_pos rfl) ▸ h
      have h8 : Rr w' (f 8) (-n) d := hs 8 (by kernel_rfl)
      obtain ⟨s8, x8, p8, y8, q8, e8⟩ := h8.agg
      rw [e8] at h8
      refine .skip (rn_store61 rfl (fr_old rfl rfl) ((fr_own rfl rfl).trans e8) hI.t) ⟨below5 hI.k (by omega) _ _ _ _ _, s8, x8, y8, p8, q8, ?_, h8.store hI.t.odd (grown5 _ _ _ _ _ _ _)⟩
      obtain ⟨_, _, _, _, _, hT⟩ := hI.t
      simp [World.setCell, Array.getElem?_modify, hT]
    · intro f w' h
      refine hK _ _ (Met.intro (hJ _ _ ?_))
      (repeat apply Exists.intro)
      refine ⟨?_, rfl⟩
      exact h
  case rest =>
    obtain ⟨kf, s1, x1, y1, p1, q1, h1, h2⟩ := hcut
    have c5 := (⟨s1, x1, p1, y1, q1, h1⟩ : Rq (w.heap.size + 1) _)
    have i1 := cell_blk (i := 0) h1
    have i2 := cell_blk (i := 1) h1
    have i3 := cell_blk (i := 2) h1
    have i4 := cell_blk (i := 3) h1
    have i5 := cell_blk (i := 4) h1
    have KF := Lib.hid kf
    have V := Lib.hid h2
    clear h1 h2 kf c5 S0
    go_wp2
    exact bodyPost_ret (v := .agg #[.bool s1, .int .u64 x1, .pointer p1, .int .u64 y1, .pointer q1]) (by simp [results, Try.results75, go_sem, i1, i2, i3, i4, i5]) rfl ⟨KF.out, _, rfl, V.out⟩
end Go.Proofs.Ytjjomjjgoceklaa
namespace Go.Proofs.Ytjjomjjgoceklaa
open Go.RowKit

/-- the new blocks so far: all there, all different -/
def Als (al : Nat → Bool) (ops : Array Oper) (L : Nat → Bool) (f : Nat → Value) (w : World) : Prop :=
  (∀ i o d, ops[i]? = some o → L i = true → o.dst = some d → al d = true → ∃ T, f d = .pointer (some ⟨T, 0, none⟩) ∧ T < w.heap.size) ∧
  (∀ i j oi oj d d', ops[i]? = some oi → ops[j]? = some oj → L i = true → L j = true → oi.dst = some d → oj.dst = some d' → al d = true → al d' = true → d ≠ d' → f d ≠ f d')
theorem Als.step {al : Nat → Bool} {ops : Array Oper} {L : Nat → Bool} {f : Nat → Value} {w w' : World} {n : Nat} {o : Oper} {d : Nat} {v : Value} (h : Als al ops L f w) (_hu : uniqB ops = true) (ho : ops[n]? = some o) (hd : o.dst = some d) (hs : w.heap.size ≤ w'.heap.size)
    (hal : al d = true → v = .pointer (some ⟨w.heap.size, 0, none⟩) ∧ w.heap.size < w'.heap.size) : Als al ops (dn L n) (updo f o.dst v) w' := by
  rw [hd]
  have old : ∀ i oi di, ops[i]? = some oi → dn L n i = true → oi.dst = some di → al di = true → di ≠ d → ∃ T, f di = .pointer (some ⟨T, 0, none⟩) ∧ T < w.heap.size := by
    intro i oi di hi hL hdi ha hne
    unfold dn at hL
    by_cases e : i = n
    · subst e; rw [ho] at hi; cases hi; rw [hd] at hdi; cases hdi; exact absurd rfl hne
    · rw [if_neg e] at hL; exact h.1 i oi di hi hL hdi ha
  have oldL : ∀ i oi di, ops[i]? = some oi → dn L n i = true → oi.dst = some di → di ≠ d → L i = true := by
    intro i oi di hi hL hdi hne
    unfold dn at hL
    by_cases e : i = n
    · subst e; rw [ho] at hi; cases hi; rw [hd] at hdi; cases hdi; exact absurd rfl hne
    · rw [if_neg e] at hL; exact hL
  constructor
  · intro i oi di hi hL hdi ha
    simp only [updo, upd]
    by_cases e : di = d
    · subst e; rw [if_pos rfl]; exact ⟨_, (hal ha).1, (hal ha).2⟩
    · rw [if_neg e]
      obtain ⟨T, h1, h2⟩ := old i oi di hi hL hdi ha e
      exact ⟨T, h1, by omega⟩
  · intro i j oi oj di dj hi hj hLi hLj hdi hdj hai haj hne
    simp only [updo, upd]
    by_cases e : di = d
    · subst e
      rw [if_pos rfl, if_neg (fun h => hne h.symm), (hal hai).1]
      obtain ⟨T, h1, h2⟩ := old j oj dj hj hLj hdj haj (fun h => hne h.symm)
      rw [h1]; intro e; simp at e <;> omega
    · rw [if_neg e]
      by_cases e2 : dj = d
      · subst e2
        rw [if_pos rfl, (hal haj).1]
        obtain ⟨T, h1, h2⟩ := old i oi di hi hLi hdi hai e
        rw [h1]; intro e; simp at e <;> omega
      · rw [if_neg e2]
        exact h.2 i j oi oj di dj hi hj (oldL i oi di hi hLi hdi e) (oldL j oj dj hj hLj hdj e2) hdi hdj hai haj hne
theorem Als.tail {al : Nat → Bool} {ops : Array Oper} {L : Nat → Bool} {f : Nat → Value} {w w' : World} {n : Nat} {o : Oper} (h : Als al ops L f w) (ho : ops[n]? = some o) (hd : o.dst = none) (hs : w.heap.size ≤ w'.heap.size) : Als al ops (dn L n) f w' := by
  have old : ∀ i oi di, ops[i]? = some oi → dn L n i = true → oi.dst = some di → L i = true := by
    intro i oi di hi hL hdi
    unfold dn at hL
    by_cases e : i = n
    · subst e; rw [ho] at hi; cases hi; rw [hd] at hdi; cases hdi
    · rw [if_neg e] at hL; exact hL
  constructor
  · intro i oi di hi hL hdi ha
    obtain ⟨T, h1, h2⟩ := h.1 i oi di hi (old i oi di hi hL hdi) hdi ha
    exact ⟨T, h1, by omega⟩
  · intro i j oi oj di dj hi hj hLi hLj hdi hdj
    exact h.2 i j oi oj di dj hi hj (old i oi di hi hLi hdi) (old j oj dj hj hLj hdj) hdi hdj
section
variable {P : Program} {ops : Array Oper} {Q : Exit → Act → World → Prop}
/-- the same, and the new blocks (slots of al) are all different -/
theorem wp_region_als {id : Nat} {a0 : Act} {w : World} (D : Nat → Bool) (tab : Nat → Kd) (al : Nat → Bool) (m : Nat) (I : Nat → World → Prop) (hm : P.follows .mixedOrders = true) (hback : backB .any ops = true) (hu : uniqB ops = true) (hch : tailB ops m = true) (hms : m ≤ ops.size)
    (hD : (ops.toList.filterMap (·.dst)).all D = true) (hI : ∀ i w w', I i w → Below w.heap.size w w' → I i w') (h0 : I m { w with drawn := w.drawn + 1 })
    (hstep : AllFrom (fun i o => ∀ s f w, (∀ j, m ≤ j → j < s → (edgesOf ops j).contains i = false) → I s w → (∀ d, (predD ops i).contains d = true → kd (tab d) (f d) w) →
      Region.wanted o (yielded ops (fr a0 D f).tmps) = true ∧ ∃ d, o.dst = some d ∧ OpR P o (fr a0 D f) w fun v w' => (Below w.heap.size w w' ∧ kd (tab d) v w') ∧ (al d = true → v = .pointer (some ⟨w.heap.size, 0, none⟩) ∧ w.heap.size < w'.heap.size)) 0 (ops.toList.take m))
    (htail : AllFrom (fun i o => ∀ f w, I i w → (∀ d, (predD ops i).contains d = true → kd (tab d) (f d) w) → (∀ d d', (predD ops i).contains d = true → (predD ops i).contains d' = true → al d = true → al d' = true → d ≠ d' → f d ≠ f d') →
      Region.wanted o (yielded ops (fr a0 D f).tmps) = true ∧ o.dst = none ∧ OpR P o (fr a0 D f) w fun _ w' => (I (i + 1) w' ∧ ∀ d v, kd (tab d) v w → kd (tab d) v w') ∧ w.heap.size ≤ w'.heap.size) m (ops.toList.drop m))
    (hend : ∀ f w, I ops.size w → (∀ d, (ops.toList.filterMap (·.dst)).contains d = true → kd (tab d) (f d) w) → Q .normal (fr a0 D f) w) : (Code.region id ops true).wp P Q a0 w := by
  let J : (Nat → Bool) → (Nat → Value) → World → Prop := fun L f w => Closed ops L ∧ ∃ i, (m ≤ i ∧ i ≤ ops.size) ∧ (∀ j, m ≤ j → j < i → L j = true) ∧ (∀ j, i ≤ j → L j = false) ∧ I i w ∧ KdAll tab ops L f w ∧ Als al ops L f w
  have hclosed : ∀ (L : Nat → Bool) (n : Nat), Closed ops L → (∀ j ∈ edgesOf ops n, L j = true) → Closed ops (dn L n) := by
    intro L n hcl hedge i hi j hj
    unfold dn at hi ⊢
    by_cases e : i = n
    · subst e
      split
      · rfl
      · exact hedge j hj
    · rw [if_neg e] at hi
      split
      · rfl
      · exact hcl i hi j hj
  refine wp_region_fr D J hm hback hD ⟨_, fr_self a0 D, (by intro i h; cases h), m, ⟨Nat.le_refl _, hms⟩, fun j h1 h2 => by omega, fun _ _ => rfl, h0, (by intro i o d _ h; cases h), ⟨(by intro i o d _ h; cases h), (by intro i j oi oj d d' _ _ h; cases h)⟩⟩ ?_ ?_
  · refine .of fun n o ho => ?_
    rw [Nat.zero_add]
    rintro L f w ⟨hcl, i, ⟨hi1, hi2⟩, hdone, hfar, hIw, hk, hals⟩ hL hdep
    have ho : ops[n]? = some o := by simpa using ho
    have hn : n < ops.size := (Array.getElem?_eq_some_iff.1 ho).1
    have hedge : ∀ j ∈ edgesOf ops n, L j = true := by
      intro j hj
      unfold edgesOf at hj
      rw [ho] at hj
      obtain ⟨e, he, rfl⟩ := List.mem_map.1 hj
      obtain ⟨he1, he2⟩ := List.mem_filter.1 he
      exact hdep e (by simpa using he1) he2
    have hpr := predGo_ok hcl n _ hedge
    have hpre : ∀ d, (predD ops n).contains d = true → kd (tab d) (f d) w := by
      intro d hd
      unfold predD at hd
      obtain ⟨j, hj, hjd⟩ := List.mem_filterMap.1 (List.contains_iff_mem.1 hd)
      obtain ⟨oj, hoj, hdj⟩ := Option.bind_eq_some_iff.1 hjd
      exact hk j oj d hoj (hpr j hj) hdj
    rcases Nat.lt_or_ge n m with hnm | hnm
    · have hg := hstep.get (i := n) (o := o) (by rw [List.getElem?_take_of_lt hnm]; simpa using ho)
      rw [Nat.zero_add] at hg
      obtain ⟨hw, d, hd, hr⟩ := hg i f w (fun j h1 h2 => by
        cases hc : (edgesOf ops j).contains n with
        | false => rfl
        | true => rw [hcl j (hdone j h1 h2) n (List.contains_iff_mem.1 hc)] at hL; cases hL) hIw hpre
      refine ⟨hw, ?_⟩
      have step : ∀ v w', ((Below w.heap.size w w' ∧ kd (tab d) v w') ∧ (al d = true → v = .pointer (some ⟨w.heap.size, 0, none⟩) ∧ w.heap.size < w'.heap.size)) → J (dn L n) (updo f o.dst v) w' := by
        rintro v w' ⟨⟨hb, hkd⟩, hal⟩
        refine ⟨hclosed _ _ hcl hedge, i, ⟨hi1, hi2⟩, fun j h1 h2 => by unfold dn; rw [if_neg (by omega)]; exact hdone j h1 h2, fun j hj => by unfold dn; rw [if_neg (by omega)]; exact hfar j hj, hI _ _ _ hIw hb, ?_, hals.step hu ho hd hb.size hal⟩
        intro i' p d' hp hi' hd'
        rw [hd]
        unfold dn at hi'
        by_cases e : i' = n
        · subst e
          rw [ho] at hp
          cases hp
          rw [hd] at hd'
          cases hd'
          simpa [updo, upd] using hkd
        · rw [if_neg e] at hi'
          have hne : d' ≠ d := fun he => e (uniq_spec hu hp ho (he ▸ hd') hd)
          simp only [updo, upd, if_neg hne]
          exact (hk i' p d' hp hi' hd').keep hb
      rcases hr with ⟨v, w', h1, h2⟩ | ⟨w', h1, h2⟩ | ⟨g, args, h1, h2⟩
      · exact .inl ⟨v, w', h1, step _ _ h2⟩
      · exact .inr (.inl ⟨w', h1, step _ _ h2⟩)
      · exact .inr (.inr ⟨g, args, h1, h2.mono fun e w' ⟨v, he, hr⟩ => ⟨v, he, step _ _ hr⟩⟩)
    · have hin : i = n := by
        rcases Nat.lt_trichotomy i n with h | h | h
        · have h1 := hedge _ (tail_spec hch hn (by omega))
          rw [hfar (n - 1) (by omega)] at h1
          cases h1
        · exact h
        · have := hdone n hnm h; rw [this] at hL; cases hL
      subst hin
      have hg := htail.get (i := i - m) (o := o) (by rw [List.getElem?_drop, show m + (i - m) = i by omega]; simpa using ho)
      rw [show m + (i - m) = i by omega] at hg
      obtain ⟨hw, hdn, hr⟩ := hg f w hIw hpre (fun d d' h1 h2 => by
        unfold predD at h1 h2
        obtain ⟨j, hj, hjd⟩ := List.mem_filterMap.1 (List.contains_iff_mem.1 h1)
        obtain ⟨oj, hoj, hdj⟩ := Option.bind_eq_some_iff.1 hjd
        obtain ⟨j', hj', hjd'⟩ := List.mem_filterMap.1 (List.contains_iff_mem.1 h2)
        obtain ⟨oj', hoj', hdj'⟩ := Option.bind_eq_some_iff.1 hjd'
        exact hals.2 j j' oj oj' d d' hoj hoj' (hpr j hj) (hpr j' hj') hdj hdj')
      refine ⟨hw, ?_⟩
      have step : ∀ v w', ((I (i + 1) w' ∧ ∀ d v, kd (tab d) v w → kd (tab d) v w') ∧ w.heap.size ≤ w'.heap.size) → J (dn L i) (updo f o.dst v) w' := by
        rintro v w' ⟨⟨hI', hkk⟩, hsz⟩
        rw [hdn]
        refine ⟨hclosed _ _ hcl hedge, i + 1, ⟨by omega, hn⟩, fun j h1 h2 => by unfold dn; split; rfl; exact hdone j h1 (by omega), fun j hj => by unfold dn; rw [if_neg (by omega)]; exact hfar j (by omega), hI', ?_, hals.tail ho hdn hsz⟩
        intro i' p d' hp hi' hd'
        unfold dn at hi'
        by_cases e : i' = i
        · subst e
          rw [ho] at hp
          cases hp
          rw [hdn] at hd'
          cases hd'
        · rw [if_neg e] at hi'
          exact hkk _ _ (hk i' p d' hp hi' hd')
      rcases hr with ⟨v, w', h1, h2⟩ | ⟨w', h1, h2⟩ | ⟨g, args, h1, h2⟩
      · exact .inl ⟨v, w', h1, step _ _ h2⟩
      · exact .inr (.inl ⟨w', h1, step _ _ h2⟩)
      · exact .inr (.inr ⟨g, args, h1, h2.mono fun e w' ⟨v, he, hr⟩ => ⟨v, he, step _ _ hr⟩⟩)
  · rintro L f w ⟨_, i, ⟨hi1, hi2⟩, _, hfar, hIw, hk, _⟩ hall
    have hie : i = ops.size := by
      rcases Nat.lt_or_ge i ops.size with h | h
      · have := hfar i (Nat.le_refl _); rw [hall i h] at this; cases this
      · omega
    subst hie
    refine hend f w hIw fun d hd => ?_
    obtain ⟨o, ho, hod⟩ := List.mem_filterMap.1 (List.contains_iff_mem.1 hd)
    obtain ⟨i, hi⟩ := List.getElem?_of_mem ho
    have hi' : ops[i]? = some o := by simpa using hi
    exact hk i o d hi' (hall i (Array.getElem?_eq_some_iff.1 hi').1) hod
end
end Go.Proofs.Ytjjomjjgoceklaa
namespace Go.Proofs.Ytjjomjjgoceklaa
open Go.RowKit

/-- each new block stands before the first store -/
def alB (ops : Array Oper) (al : Nat → Bool) (m : Nat) : Bool := (List.range ops.size).all fun n => match (ops[n]?).bind (·.dst) with | some d => !al d || (edgesOf ops m).contains n | none => true
theorem alB_spec {ops : Array Oper} {al : Nat → Bool} {m n d : Nat} {o : Oper} (h : alB ops al m = true) (ho : ops[n]? = some o) (hd : o.dst = some d) (ha : al d = true) : n ∈ edgesOf ops m := by
  have h1 := List.all_eq_true.1 h n (List.mem_range.2 (Array.getElem?_eq_some_iff.1 ho).1)
  simp only [ho, Option.bind_some, hd, ha, Bool.not_true, Bool.false_or] at h1
  exact List.contains_iff_mem.1 h1
section
variable {P : Program} {ops : Array Oper} {Q : Exit → Act → World → Prop}
/-- the same; what is kept may speak of the new blocks as soon as a store is done -/
theorem wp_region_alf {id : Nat} {a0 : Act} {w : World} (D : Nat → Bool) (tab : Nat → Kd) (al : Nat → Bool) (m : Nat) (I : Nat → (Nat → Value) → World → Prop) (hm : P.follows .mixedOrders = true) (hback : backB .any ops = true) (hu : uniqB ops = true) (hch : tailB ops m = true) (hms : m ≤ ops.size)
    (hD : (ops.toList.filterMap (·.dst)).all D = true) (hI : ∀ i f f' w w', I i f w → Below w.heap.size w w' → (i = m ∨ ∀ d, al d = true → f' d = f d) → I i f' w') (ham : alB ops al m = true) (h0 : ∀ f, I m f { w with drawn := w.drawn + 1 })
    (hstep : AllFrom (fun i o => ∀ s f w, (∀ j, m ≤ j → j < s → (edgesOf ops j).contains i = false) → I s f w → (∀ d, (predD ops i).contains d = true → kd (tab d) (f d) w) →
      Region.wanted o (yielded ops (fr a0 D f).tmps) = true ∧ ∃ d, o.dst = some d ∧ OpR P o (fr a0 D f) w fun v w' => (Below w.heap.size w w' ∧ kd (tab d) v w') ∧ (al d = true → v = .pointer (some ⟨w.heap.size, 0, none⟩) ∧ w.heap.size < w'.heap.size)) 0 (ops.toList.take m))
    (htail : AllFrom (fun i o => ∀ f w, I i f w → (∀ d, (predD ops i).contains d = true → kd (tab d) (f d) w) → (∀ d d', (predD ops i).contains d = true → (predD ops i).contains d' = true → al d = true → al d' = true → d ≠ d' → f d ≠ f d') →
      Region.wanted o (yielded ops (fr a0 D f).tmps) = true ∧ o.dst = none ∧ OpR P o (fr a0 D f) w fun _ w' => (I (i + 1) f w' ∧ ∀ d v, kd (tab d) v w → kd (tab d) v w') ∧ w.heap.size ≤ w'.heap.size) m (ops.toList.drop m))
    (hend : ∀ f w, I ops.size f w → (∀ d, (ops.toList.filterMap (·.dst)).contains d = true → kd (tab d) (f d) w) → Q .normal (fr a0 D f) w) : (Code.region id ops true).wp P Q a0 w := by
  let J : (Nat → Bool) → (Nat → Value) → World → Prop := fun L f w => Closed ops L ∧ ∃ i, (m ≤ i ∧ i ≤ ops.size) ∧ (∀ j, m ≤ j → j < i → L j = true) ∧ (∀ j, i ≤ j → L j = false) ∧ I i f w ∧ KdAll tab ops L f w ∧ Als al ops L f w
  have hclosed : ∀ (L : Nat → Bool) (n : Nat), Closed ops L → (∀ j ∈ edgesOf ops n, L j = true) → Closed ops (dn L n) := by
    intro L n hcl hedge i hi j hj
    unfold dn at hi ⊢
    by_cases e : i = n
    · subst e
      split
      · rfl
      · exact hedge j hj
    · rw [if_neg e] at hi
      split
      · rfl
      · exact hcl i hi j hj
  refine wp_region_fr D J hm hback hD ⟨_, fr_self a0 D, (by intro i h; cases h), m, ⟨Nat.le_refl _, hms⟩, fun j h1 h2 => by omega, fun _ _ => rfl, h0 _, (by intro i o d _ h; cases h), ⟨(by intro i o d _ h; cases h), (by intro i j oi oj d d' _ _ h; cases h)⟩⟩ ?_ ?_
  · refine .of fun n o ho => ?_
    rw [Nat.zero_add]
    rintro L f w ⟨hcl, i, ⟨hi1, hi2⟩, hdone, hfar, hIw, hk, hals⟩ hL hdep
    have ho : ops[n]? = some o := by simpa using ho
    have hn : n < ops.size := (Array.getElem?_eq_some_iff.1 ho).1
    have hedge : ∀ j ∈ edgesOf ops n, L j = true := by
      intro j hj
      unfold edgesOf at hj
      rw [ho] at hj
      obtain ⟨e, he, rfl⟩ := List.mem_map.1 hj
      obtain ⟨he1, he2⟩ := List.mem_filter.1 he
      exact hdep e (by simpa using he1) he2
    have hpr := predGo_ok hcl n _ hedge
    have hpre : ∀ d, (predD ops n).contains d = true → kd (tab d) (f d) w := by
      intro d hd
      unfold predD at hd
      obtain ⟨j, hj, hjd⟩ := List.mem_filterMap.1 (List.contains_iff_mem.1 hd)
      obtain ⟨oj, hoj, hdj⟩ := Option.bind_eq_some_iff.1 hjd
      exact hk j oj d hoj (hpr j hj) hdj
    rcases Nat.lt_or_ge n m with hnm | hnm
    · have hg := hstep.get (i := n) (o := o) (by rw [List.getElem?_take_of_lt hnm]; simpa using ho)
      rw [Nat.zero_add] at hg
      obtain ⟨hw, d, hd, hr⟩ := hg i f w (fun j h1 h2 => by
        cases hc : (edgesOf ops j).contains n with
        | false => rfl
        | true => rw [hcl j (hdone j h1 h2) n (List.contains_iff_mem.1 hc)] at hL; cases hL) hIw hpre
      refine ⟨hw, ?_⟩
      have him : ∀ d, o.dst = some d → ∀ v, i = m ∨ ∀ d', al d' = true → updo f o.dst v d' = f d' := by
        intro d hd v
        rcases Nat.lt_or_ge m i with hmi | hmi
        · right
          intro d' had
          rw [hd]
          simp only [updo, upd]
          rw [if_neg]
          intro e
          subst e
          have := hcl m (hdone m (Nat.le_refl _) hmi) n (alB_spec ham ho hd had)
          rw [this] at hL
          cases hL
        · left; omega
      have step : ∀ v w', ((Below w.heap.size w w' ∧ kd (tab d) v w') ∧ (al d = true → v = .pointer (some ⟨w.heap.size, 0, none⟩) ∧ w.heap.size < w'.heap.size)) → J (dn L n) (updo f o.dst v) w' := by
        rintro v w' ⟨⟨hb, hkd⟩, hal⟩
        refine ⟨hclosed _ _ hcl hedge, i, ⟨hi1, hi2⟩, fun j h1 h2 => by unfold dn; rw [if_neg (by omega)]; exact hdone j h1 h2, fun j hj => by unfold dn; rw [if_neg (by omega)]; exact hfar j hj, hI _ _ _ _ _ hIw hb (him d hd v), ?_, hals.step hu ho hd hb.size hal⟩
        intro i' p d' hp hi' hd'
        rw [hd]
        unfold dn at hi'
        by_cases e : i' = n
        · subst e
          rw [ho] at hp
          cases hp
          rw [hd] at hd'
          cases hd'
          simpa [updo, upd] using hkd
        · rw [if_neg e] at hi'
          have hne : d' ≠ d := fun he => e (uniq_spec hu hp ho (he ▸ hd') hd)
          simp only [updo, upd, if_neg hne]
          exact (hk i' p d' hp hi' hd').keep hb
      rcases hr with ⟨v, w', h1, h2⟩ | ⟨w', h1, h2⟩ | ⟨g, args, h1, h2⟩
      · exact .inl ⟨v, w', h1, step _ _ h2⟩
      · exact .inr (.inl ⟨w', h1, step _ _ h2⟩)
      · exact .inr (.inr ⟨g, args, h1, h2.mono fun e w' ⟨v, he, hr⟩ => ⟨v, he, step _ _ hr⟩⟩)
    · have hin : i = n := by
        rcases Nat.lt_trichotomy i n with h | h | h
        · have h1 := hedge _ (tail_spec hch hn (by omega))
          rw [hfar (n - 1) (by omega)] at h1
          cases h1
        · exact h
        · have := hdone n hnm h; rw [this] at hL; cases hL
      subst hin
      have hg := htail.get (i := i - m) (o := o) (by rw [List.getElem?_drop, show m + (i - m) = i by omega]; simpa using ho)
      rw [show m + (i - m) = i by omega] at hg
      obtain ⟨hw, hdn, hr⟩ := hg f w hIw hpre (fun d d' h1 h2 => by
        unfold predD at h1 h2
        obtain ⟨j, hj, hjd⟩ := List.mem_filterMap.1 (List.contains_iff_mem.1 h1)
        obtain ⟨oj, hoj, hdj⟩ := Option.bind_eq_some_iff.1 hjd
        obtain ⟨j', hj', hjd'⟩ := List.mem_filterMap.1 (List.contains_iff_mem.1 h2)
        obtain ⟨oj', hoj', hdj'⟩ := Option.bind_eq_some_iff.1 hjd'
        exact hals.2 j j' oj oj' d d' hoj hoj' (hpr j hj) (hpr j' hj') hdj hdj')
      refine ⟨hw, ?_⟩
      have step : ∀ v w', ((I (i + 1) f w' ∧ ∀ d v, kd (tab d) v w → kd (tab d) v w') ∧ w.heap.size ≤ w'.heap.size) → J (dn L i) (updo f o.dst v) w' := by
        rintro v w' ⟨⟨hI', hkk⟩, hsz⟩
        rw [hdn]
        refine ⟨hclosed _ _ hcl hedge, i + 1, ⟨by omega, hn⟩, fun j h1 h2 => by unfold dn; split; rfl; exact hdone j h1 (by omega), fun j hj => by unfold dn; rw [if_neg (by omega)]; exact hfar j (by omega), hI', ?_, hals.tail ho hdn hsz⟩
        intro i' p d' hp hi' hd'
        unfold dn at hi'
        by_cases e : i' = i
        · subst e
          rw [ho] at hp
          cases hp
          rw [hdn] at hd'
          cases hd'
        · rw [if_neg e] at hi'
          exact hkk _ _ (hk i' p d' hp hi' hd')
      rcases hr with ⟨v, w', h1, h2⟩ | ⟨w', h1, h2⟩ | ⟨g, args, h1, h2⟩
      · exact .inl ⟨v, w', h1, step _ _ h2⟩
      · exact .inr (.inl ⟨w', h1, step _ _ h2⟩)
      · exact .inr (.inr ⟨g, args, h1, h2.mono fun e w' ⟨v, he, hr⟩ => ⟨v, he, step _ _ hr⟩⟩)
  · rintro L f w ⟨_, i, ⟨hi1, hi2⟩, _, hfar, hIw, hk, _⟩ hall
    have hie : i = ops.size := by
      rcases Nat.lt_or_ge i ops.size with h | h
      · have := hfar i (Nat.le_refl _); rw [hall i h] at this; cases this
      · omega
    subst hie
    refine hend f w hIw fun d hd => ?_
    obtain ⟨o, ho, hod⟩ := List.mem_filterMap.1 (List.contains_iff_mem.1 hd)
    obtain ⟨i, hi⟩ := List.getElem?_of_mem ho
    have hi' : ops[i]? = some o := by simpa using hi
    exact hk i o d hi' (hall i (Array.getElem?_eq_some_iff.1 hi').1) hod
end
end Go.Proofs.Ytjjomjjgoceklaa
namespace Go.Proofs.Ytjjomjjgoceklaa
open Go.RowKit

/-! R.Floor -/
section
variable {ρ : Operand → Value} {o : Oper} {w : World} {t : Operand}
theorem rn_load61 {T : Nat} {s : Bool} {x y : Int} {p q : Option Addr} (ho : o.op = .load 61 t) (he : ρ t = .pointer (some ⟨T, 0, none⟩)) (h : w.heap[T]? = some (.cells #[.bool s, .int .u64 x, .pointer p, .int .u64 y, .pointer q] 61 (0, 0))) : (execOp ρ o).run Try.prog w = .ok (.value (.agg #[.bool s, .int .u64 x, .pointer p, .int .u64 y, .pointer q])) w := by
  have i1 := cell_blk (i := 0) h
  have i2 := cell_blk (i := 1) h
  have i3 := cell_blk (i := 2) h
  have i4 := cell_blk (i := 3) h
  have i5 := cell_blk (i := 4) h
  unfold execOp; rw [ho]; simp [go_sem, he, i1, i2, i3, i4, i5]
theorem rn_extract0 {u v : Value} (ho : o.op = .extract t 0) (he : ρ t = .tuple #[u, v]) : (execOp ρ o).run Try.prog w = .ok (.value u) w := by
  unfold execOp; rw [ho]; simp [go_sem, he]
theorem rn_extract1 {u v : Value} (ho : o.op = .extract t 1) (he : ρ t = .tuple #[u, v]) : (execOp ρ o).run Try.prog w = .ok (.value v) w := by
  unfold execOp; rw [ho]; simp [go_sem, he]
end
theorem cf61 : CF 61 := fun W args => by go_simp
theorem cf73 : CF 73 := fun W args => by go_simp
def ktup (a b : Int) : Kd := .c (fun v w => ∃ x y, v = .tuple #[x, y] ∧ Zr w x a ∧ Zr w y b) (fun _ _ _ ⟨x, y, h1, h2, h3⟩ hb => ⟨x, y, h1, h2.keep hb (Nat.le_refl _), h3.keep hb (Nat.le_refl _)⟩)
structure F5 (w0 : World) (s : Bool) (x y : Int) (p q : Option Addr) (n : Int) (d : Nat) (w : World) : Prop where
  g : w0.heap.size + 1 + 1 ≤ w.heap.size
  k : Below w0.heap.size w0 w
  a : w.heap[w0.heap.size]? = some (.cells #[.bool s, .int .u64 x, .pointer p, .int .u64 y, .pointer q] 61 (0, 0))
  r : Rr w (.agg #[.bool s, .int .u64 x, .pointer p, .int .u64 y, .pointer q]) n d
  t : Rz (w0.heap.size + 1) w
section
variable {w0 w w' : World} {s : Bool} {x y : Int} {p q : Option Addr} {n : Int} {d : Nat}
theorem F5.keep (h : F5 w0 s x y p q n d w) (hb : Below w.heap.size w w') : F5 w0 s x y p q n d w' := ⟨Nat.le_trans h.g hb.size, Below.thru h.k h.k.size hb, blk_keep h.a hb, h.r.keep hb (Nat.le_refl _), h.t.keep hb h.t.lt⟩
theorem F5.b3 (h : F5 w0 s x y p q n d w) : B3 w0.heap.size s x p w := by refine ⟨?_, ?_, ?_⟩ <;> simp [World.cell?, h.a]
theorem F5.z (h : F5 w0 s x y p q n d w) : Zr w (.agg #[.bool s, .int .u64 x, .pointer p]) n := h.r.zr'
theorem F5.put (h : F5 w0 s x y p q n d w) {T : Nat} (hT : w0.heap.size + 1 + 1 ≤ T) (hz : Rz T w) (s' : Bool) (x' : Int) (p' : Option Addr) : F5 w0 s x y p q n d (st3 w T (.bool s') (.int .u64 x') (.pointer p')) := by
  have hg : w.grownBy (st3 w T (.bool s') (.int .u64 x') (.pointer p')) (some T) := grown3 _ _ _ _ _ _ _ _
  exact ⟨Nat.le_trans h.g hg.size, below3 h.k (by omega) _ _ _, blk_other h.a hg (by omega), h.r.store hz.odd hg, h.t.other hg (by omega)⟩
end
theorem rz_st3 {T U : Nat} {w : World} (hT : Rz T w) (hU : Rz U w) (s : Bool) (x : Int) (p : Option Addr) : Rz U (st3 w T (.bool s) (.int .u64 x) (.pointer p)) := by
  by_cases e : U = T
  · subst e; exact ⟨s, x, p, hU.stored s x p⟩
  · exact hU.other (grown3 _ _ _ _ _ _ _ _) e
def DF1 (t : Nat) : Bool := Nat.ble 3 t && Nat.ble t 12
def alF1 (t : Nat) : Bool := Nat.beq t 3 || Nat.beq t 4
def tabF1 (S B : Nat) (n : Int) (d : Nat) (t : Nat) : Kd := [kbz B, kbz B, ktup (n / d) (n % d), kp S 0, .z n, .q n d, .z (d : Int), ktup (n / d) (n % d), .z (n / d), .z (n % d)].getD (t - 3) .any
theorem tabF1_st {S B d T : Nat} {n : Int} {w : World} (hT : Rz T w) (s : Bool) (x : Int) (p : Option Addr) (t : Nat) (v : Value) (h : kd (tabF1 S B n d t) v w) : kd (tabF1 S B n d t) v (st3 w T (.bool s) (.int .u64 x) (.pointer p)) := by
  have hg : w.grownBy (st3 w T (.bool s) (.int .u64 x) (.pointer p)) (some T) := grown3 _ _ _ _ _ _ _ _
  have tup : kd (ktup (n / d) (n % d)) v w → kd (ktup (n / d) (n % d)) v (st3 w T (.bool s) (.int .u64 x) (.pointer p)) := fun ⟨x, y, h1, h2, h3⟩ => ⟨x, y, h1, h2.store hT.odd hg, h3.store hT.odd hg⟩
  have bz : kd (kbz B) v w → kd (kbz B) v (st3 w T (.bool s) (.int .u64 x) (.pointer p)) := fun ⟨U, h1, h2, h3⟩ => ⟨U, h1, h2, rz_st3 hT h3 s x p⟩
  unfold tabF1 at *
  generalize t - 3 = j at *
  match j with
  | 0 => exact bz h
  | 1 => exact bz h
  | 2 => exact tup h
  | 3 => exact h
  | 4 => exact Zr.store h hT.odd hg
  | 5 => exact Rr.store h hT.odd hg
  | 6 => exact Zr.store h hT.odd hg
  | 7 => exact tup h
  | 8 => exact Zr.store h hT.odd hg
  | 9 => exact Zr.store h hT.odd hg
  | j + 10 => trivial
set_option maxRecDepth 100000 in
set_option maxHeartbeats 1600000 in
theorem floor_any (v : Value) (n : Int) (d : Nat) (w : World) (h : Rr w v n d) (hov : OverC n.natAbs d) (sn : Sz n.natAbs) (sd : Sz d) : Calls Try.prog 42 #[v] w (PZ (n / d) w) := by
  have hd0 := h.pos'
  obtain ⟨s, x, p, y, q, rfl⟩ := h.agg
  have S0 : F5 w s x y p q n d ((w.alloc (.cells #[.bool s, .int .u64 x, .pointer p, .int .u64 y, .pointer q] 61)).alloc (.cells #[.bool false, .int .u64 0, .pointer none] 29)) :=
    ⟨by simp, bl2 _ _ _, blk_keep (Go.Deep.blk_alloc_new _ _) (bl1 _ _), h.keep (bl2 _ _ _) (Nat.le_refl _), rz_new _ (by simp)⟩
  have S0 := Lib.hid S0
  have HD0 : Hid ((d : Int) ≠ 0) := by show _ ≠ _; omega
  have HOV : Hid (OverC n.natAbs (d : Int).natAbs) := by rw [Int.natAbs_natCast]; exact hov
  have SN := Lib.hid sn
  have SDD : Hid (Sz (d : Int).natAbs) := by rw [Int.natAbs_natCast]; exact sd
  have HBS : Hid (∀ {N : Nat}, w.heap.size + 1 + 1 ≤ N → w.heap.size + 1 + 1 ≤ N) := fun h => h
  clear h hov sn sd hd0
  go_enter Try.func42, Try.ntmps42
  go_wp2_with fail
  go_cut [3] (fun u wc => ∃ T, u = .pointer (some ⟨T, 0, none⟩) ∧ F5 w s x y p q n d wc ∧ Hz T (n / d) wc)
  case first =>
    rename_i J K' hJ hK
    refine wp_region_alf DF1 (tabF1 w.heap.size (w.heap.size + 1 + 1) n d) alF1 10 (fun i f w' => F5 w s x y p q n d w' ∧ (11 ≤ i → ∃ T, f 3 = .pointer (some ⟨T, 0, none⟩) ∧ Hz T (n / d) w')) (by kernel_rfl) (by kernel_rfl) (by kernel_rfl) (by kernel_rfl) (by decide) (by kernel_rfl) (fun i f f' w' w'' hI hb he => ⟨hI.1.keep hb, fun h => by
      obtain ⟨T, h1, h2⟩ := hI.2 h
      rcases he with he | he
      · omega
      · exact ⟨T, (he 3 rfl).trans h1, h2.keep hb⟩⟩) (by kernel_rfl) (fun f => ⟨S0.out.keep (Below.refl _ _).drew, fun h => by omega⟩) ?_ ?_ ?_
    · refine .cons (fun j f w' hj hI hs => ⟨wanted_none rfl, _, rfl, .val (rn_field61_0 rfl (fr_old rfl rfl)) ⟨⟨Below.refl _ _, rfl⟩, (fun h => by cases h)⟩⟩) ?_
      refine .cons (fun j f w' hj hI hs => ⟨wanted_none rfl, _, rfl, .val (rn_load29 rfl ((fr_own rfl rfl).trans (hs 6 (by kernel_rfl))) hI.1.b3) ⟨⟨Below.refl _ _, hI.1.z⟩, (fun h => by cases h)⟩⟩) ?_
      refine .cons (fun j f w' hj hI hs => ⟨wanted_none rfl, _, rfl, .val (rn_load61 rfl (fr_old rfl rfl) hI.1.a) ⟨⟨Below.refl _ _, hI.1.r⟩, (fun h => by cases h)⟩⟩) ?_
      refine .cons (fun j f w' hj hI hs => ⟨wanted_none rfl, _, rfl, .call1 rfl cf73 rfl rfl ((den_any _ n d _ (hs 8 (by kernel_rfl))).mono fun _ _ ⟨hb, v, he, hv⟩ => ⟨v, he, ⟨hb, hv⟩, (fun h => by cases h)⟩)⟩) ?_
      refine .cons (fun j f w' hj hI hs => ⟨wanted_none rfl, _, rfl, .call2 rfl cf61 rfl rfl rfl rfl ((divide_any _ _ n (d : Int) _ (hs 7 (by kernel_rfl)) (hs 9 (by kernel_rfl)) HD0.out HOV.out SN.out SDD.out).mono fun _ _ ⟨hb, u, v, he, h1, h2⟩ => ⟨_, he, ⟨hb, u, v, rfl, h1, h2⟩, (fun h => by cases h)⟩)⟩) ?_
      refine .cons (fun j f w' hj hI hs => ⟨wanted_none rfl, _, rfl, .val (rn_move rfl) ⟨⟨Below.refl _ _, by have := (hs 10 (by kernel_rfl)); rw [fr_own rfl rfl]; exact this⟩, (fun h => by cases h)⟩⟩) ?_
      refine .cons (fun j f w' hj hI hs => ?_) ?_
      · obtain ⟨u, v, e, h1, h2⟩ : ∃ u v, f 5 = .tuple #[u, v] ∧ Zr w' u (n / d) ∧ Zr w' v (n % d) := (hs 5 (by kernel_rfl))
        exact ⟨wanted_none rfl, _, rfl, .val (rn_extract0 rfl ((fr_own rfl rfl).trans e)) ⟨⟨Below.refl _ _, h1⟩, (fun h => by cases h)⟩⟩
      refine .cons (fun j f w' hj hI hs => ?_) ?_
      · obtain ⟨u, v, e, h1, h2⟩ : ∃ u v, f 5 = .tuple #[u, v] ∧ Zr w' u (n / d) ∧ Zr w' v (n % d) := (hs 5 (by kernel_rfl))
        exact ⟨wanted_none rfl, _, rfl, .val (rn_extract1 rfl ((fr_own rfl rfl).trans e)) ⟨⟨Below.refl _ _, h2⟩, (fun h => by cases h)⟩⟩
      refine .cons (fun j f w' hj hI hs => ⟨wanted_none rfl, _, rfl, .val (rn_alloc29 rfl) ⟨⟨bl1 _ _, _, rfl, HBS.out hI.1.g, _, _, _, Go.Deep.blk_alloc_new _ _⟩, fun _ => ⟨rfl, by simp⟩⟩⟩) ?_
      refine .cons (fun j f w' hj hI hs => ⟨wanted_none rfl, _, rfl, .val (rn_alloc29 rfl) ⟨⟨bl1 _ _, _, rfl, HBS.out hI.1.g, _, _, _, Go.Deep.blk_alloc_new _ _⟩, fun _ => ⟨rfl, by simp⟩⟩⟩) .nil
    · refine .cons (fun f w' hI hs hne => ⟨wanted_none rfl, rfl, ?_⟩) ?_
      · have h11 : Zr w' (f 11) (n / d) := (hs 11 (by kernel_rfl))
        obtain ⟨T, e3, hB, hz⟩ : ∃ T, f 3 = .pointer (some ⟨T, 0, none⟩) ∧ w.heap.size + 1 + 1 ≤ T ∧ Rz T w' := (hs 3 (by kernel_rfl))
        obtain ⟨s1, x1, p1, n1, e, _⟩ := id h11
        rw [e] at h11
        exact .skip (rn_store29 rfl ((fr_own rfl rfl).trans e3) ((fr_own rfl rfl).trans e) hz) ⟨⟨⟨hI.1.put hB hz _ _ _, fun _ => ⟨T, e3, Hz.stored hz h11⟩⟩, tabF1_st hz s1 x1 p1⟩, by simp [World.setCell]⟩
      refine .cons (fun f w' hI hs hne => ⟨wanted_none rfl, rfl, ?_⟩) .nil
      have h12 : Zr w' (f 12) (n % d) := (hs 12 (by kernel_rfl))
      obtain ⟨T, e4, hB, hz⟩ : ∃ T, f 4 = .pointer (some ⟨T, 0, none⟩) ∧ w.heap.size + 1 + 1 ≤ T ∧ Rz T w' := (hs 4 (by kernel_rfl))
      obtain ⟨T3, e3, h3⟩ := hI.2 (by decide)
      have hne2 : T3 ≠ T := by
        intro e
        have := hne 3 4 (by kernel_rfl) (by kernel_rfl) rfl rfl (by decide)
        rw [e3, e4, e] at this
        exact this rfl
      obtain ⟨s1, x1, p1, n1, e, _⟩ := id h12
      rw [e] at h12
      exact .skip (rn_store29 rfl ((fr_own rfl rfl).trans e4) ((fr_own rfl rfl).trans e) hz) ⟨⟨⟨hI.1.put hB hz _ _ _, fun _ => ⟨T3, e3, h3.st hz.odd (grown3 _ _ _ _ _ _ _ _) hne2⟩⟩, tabF1_st hz s1 x1 p1⟩, by simp [World.setCell]⟩
    · intro f w' hI _
      obtain ⟨T, h1, h2⟩ := hI.2 (by decide)
      refine hK _ _ (Met.intro (hJ _ _ ?_))
      (repeat apply Exists.intro)
      refine ⟨?_, rfl⟩
      exact ⟨T, h1, hI.1, h2⟩
  case rest =>
    obtain ⟨T, rfl, F, s1, x1, p1, h1, h2⟩ := hcut
    obtain ⟨g1, g2, g3⟩ := b3_blk h1
    obtain ⟨_, _, _, m1, m2, m3, m4, m5, m6⟩ := F.t.cells
    obtain ⟨i1, i2, i3⟩ := three_cells m1 m2 m3 (.bool s1) (.int .u64 x1) (.pointer p1)
    have KF := Lib.hid F.k
    have TT := Lib.hid F.t
    have V := Lib.hid h2
    clear h1 h2 F S0
    go_wp2
    exact bodyPost_ret (v := .agg #[.bool s1, .int .u64 x1, .pointer p1]) (by simp [results, Try.results42, go_sem, i1, i2, i3]) rfl ⟨below3 KF.out (by omega) _ _ _, _, rfl, V.out.store TT.out.odd (grown3 _ _ _ _ _ _ _ _)⟩
end Go.Proofs.Ytjjomjjgoceklaa
namespace Go.Proofs.Ytjjomjjgoceklaa
open Go.RowKit

/-! R.Ceil -/
set_option maxRecDepth 100000 in
theorem ceil_any (v : Value) (n : Int) (d : Nat) (w : World) (h : Rr w v n d) (hov : OverC n.natAbs d) (sn : Sz n.natAbs) (sd : Sz d) : Calls Try.prog 43 #[v] w (PZ (-(-n / d)) w) := by
  obtain ⟨s, x, p, y, q, rfl⟩ := h.agg
  have HR := Lib.hid (h.keep (bl2 w (.cells #[.bool s, .int .u64 x, .pointer p, .int .u64 y, .pointer q] 61) (.cells #[.bool false, .int .u64 0, .pointer none] 29)) (Nat.le_refl _))
  have HOV : Hid (OverC (-n).natAbs d) := by rw [Int.natAbs_neg]; exact hov
  have SN : Hid (Sz (-n).natAbs) := by rw [Int.natAbs_neg]; exact sn
  have SDD := Lib.hid sd
  clear h hov sn sd
  go_enter Try.func43, Try.ntmps43
  go_wp2_with fail
  refine (rneg_any _ n d _ HR.out).mono ?_
  rintro e w1 ⟨hb1, v1, rfl, h1⟩
  have t1 : Rz (w.heap.size + 1) w1 := Rz.keep (rz_new _ (by simp)) hb1 (by simp)
  have k1 := Below.thru (bl2 w _ _) (by simp; omega) hb1
  have z1 : w.heap.size + 1 < w1.heap.size := t1.lt
  clear hb1
  go_wp2_with fail
  refine (floor_any _ (-n) d _ h1 HOV.out SN.out SDD.out).mono ?_
  rintro e w2 ⟨hb2, v2, rfl, h2⟩
  have t2 := t1.keep hb2 (by omega)
  have k2 := Below.thru k1 k1.size hb2
  clear hb2 t1 k1 h1
  go_wp2_with fail
  refine (neg_any _ (-n / d) _ h2).mono ?_
  rintro e w3 ⟨hb3, v3, rfl, h3⟩
  have t3 := t2.keep hb3 t2.lt
  have k3 := Below.thru k2 k2.size hb3
  clear hb3 t2 k2 h2
  obtain ⟨s1, x1, p1, n1, rfl, h4⟩ := h3
  have V := Lib.hid (show Zr w3 (.agg #[.bool s1, .int .u64 x1, .pointer p1]) (-(-n / d)) from ⟨s1, x1, p1, n1, rfl, h4⟩)
  have TT := Lib.hid t3
  obtain ⟨_, _, _, m1, m2, m3, m4, m5, m6⟩ := t3.cells
  obtain ⟨i1, i2, i3⟩ := three_cells m1 m2 m3 (.bool s1) (.int .u64 x1) (.pointer p1)
  have KF := Lib.hid k3
  clear h4 t3 k3
  go_wp2
  exact bodyPost_ret (v := .agg #[.bool s1, .int .u64 x1, .pointer p1]) (by simp [results, Try.results43, go_sem, i1, i2, i3]) rfl ⟨below3 KF.out (by omega) _ _ _, _, rfl, V.out.store TT.out.odd (grown3 _ _ _ _ _ _ _ _)⟩
end Go.Proofs.Ytjjomjjgoceklaa
namespace Go.Proofs.Ytjjomjjgoceklaa
open Go.RowKit

/-! R.Sub -/
theorem cf75 : CF 75 := fun W args => by go_simp
theorem cf77 : CF 77 := fun W args => by go_simp
theorem PR.kd {n : Int} {d : Nat} {w : World} {g : FuncId} {args : Array Value} (h : Calls Try.prog g args w (PR n d w)) : Calls Try.prog g args w fun e w' => ∃ v, e = .returned v ∧ (Below w.heap.size w w' ∧ Go.Proofs.Ytjjomjjgoceklaa.kd (.q n d) v w') := h.mono fun _ _ ⟨hb, v, he, hv⟩ => ⟨v, he, hb, hv⟩
/-- a box with a ratio -/
def Hq (T : Nat) (n : Int) (d : Nat) (w : World) : Prop := ∃ (s : Bool) (x y : Int) (p q : Option Addr), w.heap[T]? = some (.cells #[.bool s, .int .u64 x, .pointer p, .int .u64 y, .pointer q] 61 (0, 0)) ∧ Rr w (.agg #[.bool s, .int .u64 x, .pointer p, .int .u64 y, .pointer q]) n d
theorem Hq.keep {T : Nat} {n : Int} {d : Nat} {w w' : World} (h : Hq T n d w) (hb : Below w.heap.size w w') : Hq T n d w' := by
  obtain ⟨s, x, y, p, q, h1, h2⟩ := h
  exact ⟨s, x, y, p, q, blk_keep h1 hb, h2.keep hb (Nat.le_refl _)⟩
theorem Hq.rq {T : Nat} {n : Int} {d : Nat} {w : World} (h : Hq T n d w) : Rq T w := by obtain ⟨s, x, y, p, q, h1, _⟩ := h; exact ⟨s, x, p, y, q, h1⟩
theorem Hq.stored {T : Nat} {n : Int} {d : Nat} {w : World} {s : Bool} {x y : Int} {p q : Option Addr} (h : Rq T w) (hz : Rr w (.agg #[.bool s, .int .u64 x, .pointer p, .int .u64 y, .pointer q]) n d) : Hq T n d (st5 w T (.bool s) (.int .u64 x) (.pointer p) (.int .u64 y) (.pointer q)) := by
  refine ⟨s, x, y, p, q, ?_, hz.store h.odd (grown5 _ _ _ _ _ _ _)⟩
  obtain ⟨_, _, _, _, _, hT⟩ := h
  simp [World.setCell, Array.getElem?_modify, hT]
structure S76 (w0 : World) (an bn : Int) (p q : Nat) (w : World) : Prop where
  k : Below w0.heap.size w0 w
  a : Hq w0.heap.size an p w
  b : Hq (w0.heap.size + 1) bn q w
  t : Rq (w0.heap.size + 1 + 1) w
theorem S76.keep {w0 w w' : World} {an bn : Int} {p q : Nat} (h : S76 w0 an bn p q w) (hb : Below w.heap.size w w') : S76 w0 an bn p q w' := ⟨Below.thru h.k h.k.size hb, h.a.keep hb, h.b.keep hb, h.t.keep hb h.t.lt⟩
def D76 (t : Nat) : Bool := Nat.ble 5 t && Nat.ble t 8
def tab76 (an bn n2 : Int) (p q d2 : Nat) (t : Nat) : Kd := [.q an p, .q bn q, .q (-bn) q, .q n2 d2].getD (t - 5) .any
set_option maxRecDepth 100000 in
set_option maxHeartbeats 800000 in
theorem rsub_any (va vb : Value) (an bn n2 : Int) (p q d2 : Nat) (w : World) (ha : Rr w va an p) (hb : Rr w vb bn q) (hadd : ∀ W v1 v2, Rr W v1 an p → Rr W v2 (-bn) q → Calls Try.prog 77 #[v1, v2] W (PR n2 d2 W)) : Calls Try.prog 76 #[va, vb] w (PR n2 d2 w) := by
  obtain ⟨s1, x1, p1, y1, q1, rfl⟩ := ha.agg
  obtain ⟨s2, x2, p2, y2, q2, rfl⟩ := hb.agg
  have S0 : S76 w an bn p q (((w.alloc (.cells #[.bool s1, .int .u64 x1, .pointer p1, .int .u64 y1, .pointer q1] 61)).alloc (.cells #[.bool s2, .int .u64 x2, .pointer p2, .int .u64 y2, .pointer q2] 61)).alloc (.cells #[.bool false, .int .u64 0, .pointer none, .int .u64 0, .pointer none] 61)) :=
    ⟨bl3 _ _ _ _, ⟨s1, x1, y1, p1, q1, blk_keep (blk_keep (Go.Deep.blk_alloc_new _ _) (bl1 _ _)) (bl1 _ _), ha.keep (bl3 _ _ _ _) (Nat.le_refl _)⟩,
      ⟨s2, x2, y2, p2, q2, blk_keep (by have := Go.Deep.blk_alloc_new (w.alloc (.cells #[.bool s1, .int .u64 x1, .pointer p1, .int .u64 y1, .pointer q1] 61)) (.cells #[.bool s2, .int .u64 x2, .pointer p2, .int .u64 y2, .pointer q2] 61); rw [World.size_alloc] at this; exact this) (bl1 _ _), hb.keep (bl3 _ _ _ _) (Nat.le_refl _)⟩, rq_new _ (by simp)⟩
  have S0 := Lib.hid S0
  have HA := Lib.hid hadd
  clear ha hb hadd
  go_enter Try.func76, Try.ntmps76
  go_wp2_with fail
  go_cut [] (fun wc => Below w.heap.size w wc ∧ Hq (w.heap.size + 1 + 1) n2 d2 wc)
  case first =>
    rename_i J K' hJ hK
    refine wp_region_two D76 (tab76 an bn n2 p q d2) (fun w' => S76 w an bn p q w') 4 (fun _ _ wc => Below w.heap.size w wc ∧ Hq (w.heap.size + 1 + 1) n2 d2 wc) (by kernel_rfl) (by kernel_rfl) (by kernel_rfl) (by kernel_rfl) (by decide) (by kernel_rfl) (fun _ _ h hb => h.keep hb) (S0.out.keep (Below.refl _ _).drew) ?_ ?_ ?_
    · refine .cons (fun f w' hI hs => ?_) ?_
      · obtain ⟨s, x, y, p, q, h1, h2⟩ := hI.a
        exact ⟨wanted_none rfl, _, rfl, .val (rn_load61 rfl (fr_old rfl rfl) h1) ⟨Below.refl _ _, h2⟩⟩
      refine .cons (fun f w' hI hs => ?_) ?_
      · obtain ⟨s, x, y, p, q, h1, h2⟩ := hI.b
        exact ⟨wanted_none rfl, _, rfl, .val (rn_load61 rfl (fr_old rfl rfl) h1) ⟨Below.refl _ _, h2⟩⟩
      refine .cons (fun f w' hI hs => ⟨wanted_none rfl, _, rfl, .call1 rfl cf75 rfl rfl (PR.kd (rneg_any _ bn q _ (hs 6 (by kernel_rfl))))⟩) ?_
      exact .cons (fun f w' hI hs => ⟨wanted_none rfl, _, rfl, .call2 rfl cf77 rfl rfl rfl rfl (PR.kd (HA.out w' _ _ (hs 5 (by kernel_rfl)) (hs 7 (by kernel_rfl))))⟩) .nil
    · refine .cons (fun f w' h => ⟨wanted_none rfl, ?_⟩) .nil
      obtain ⟨hI, hs⟩ := (if_pos rfl) ▸ h
      have h8 : Rr w' (f 8) n2 d2 := hs 8 (by kernel_rfl)
      obtain ⟨s8, x8, p8, y8, q8, e8⟩ := h8.agg
      rw [e8] at h8
      exact .skip (rn_store61 rfl (fr_old rfl rfl) ((fr_own rfl rfl).trans e8) hI.t) ⟨below5 hI.k (by omega) _ _ _ _ _, Hq.stored hI.t h8⟩
    · intro f w' h
      refine hK _ _ (Met.intro (hJ _ _ ?_))
      (repeat apply Exists.intro)
      refine ⟨?_, rfl⟩
      exact h
  case rest =>
    obtain ⟨kf, s1, x1, y1, p1, q1, h1, h2⟩ := hcut
    have i1 := cell_blk (i := 0) h1
    have i2 := cell_blk (i := 1) h1
    have i3 := cell_blk (i := 2) h1
    have i4 := cell_blk (i := 3) h1
    have i5 := cell_blk (i := 4) h1
    have KF := Lib.hid kf
    have V := Lib.hid h2
    clear h1 h2 kf S0
    go_wp2
    exact bodyPost_ret (v := .agg #[.bool s1, .int .u64 x1, .pointer p1, .int .u64 y1, .pointer q1]) (by simp [results, Try.results76, go_sem, i1, i2, i3, i4, i5]) rfl ⟨KF.out, _, rfl, V.out⟩
end Go.Proofs.Ytjjomjjgoceklaa
namespace Go.Proofs.Ytjjomjjgoceklaa
open Go.RowKit

/-! V.Cross, V.Dot -/
theorem cf71 : CF 71 := fun W args => by go_simp
theorem cf76 : CF 76 := fun W args => by go_simp
/-- from cell o on block T holds a ratio's five cells -/
def At5 (T o : Nat) (s : Bool) (x : Int) (p : Option Addr) (y : Int) (q : Option Addr) (w : World) : Prop := ∃ (c : Array Value) (t : TypeId), w.heap[T]? = some (.cells c t (0, 0)) ∧ ∀ i, i < 5 → c[o + i]? = (#[Value.bool s, .int .u64 x, .pointer p, .int .u64 y, .pointer q] : Array Value)[i]?
def Vq (T o : Nat) (n : Int) (d : Nat) (w : World) : Prop := ∃ (s : Bool) (x : Int) (p : Option Addr) (y : Int) (q : Option Addr), At5 T o s x p y q w ∧ Rr w (.agg #[.bool s, .int .u64 x, .pointer p, .int .u64 y, .pointer q]) n d
theorem Vq.keep {T o : Nat} {n : Int} {d : Nat} {w w' : World} (h : Vq T o n d w) (hb : Below w.heap.size w w') : Vq T o n d w' := by
  obtain ⟨s, x, p, y, q, ⟨c, t, h1, h3⟩, h2⟩ := h
  exact ⟨s, x, p, y, q, ⟨c, t, blk_keep h1 hb, h3⟩, h2.keep hb (Nat.le_refl _)⟩
section
variable {ρ : Operand → Value} {o : Oper} {w : World} {t : Operand}
theorem rn_field71_0 {b : Nat} (ho : o.op = .fieldAddr 71 t 0) (he : ρ t = .pointer (some ⟨b, 0, none⟩)) : (execOp ρ o).run Try.prog w = .ok (.value (.pointer (some ⟨b, 0, none⟩))) w := by
  unfold execOp; rw [ho]; simp [go_sem, he]
theorem rn_field71_1 {b : Nat} (ho : o.op = .fieldAddr 71 t 1) (he : ρ t = .pointer (some ⟨b, 0, none⟩)) : (execOp ρ o).run Try.prog w = .ok (.value (.pointer (some ⟨b, 5, none⟩))) w := by
  unfold execOp; rw [ho]; simp [go_sem, he]
theorem rn_load61c {T k : Nat} {s : Bool} {x y : Int} {p q : Option Addr} (ho : o.op = .load 61 t) (he : ρ t = .pointer (some ⟨T, k, none⟩)) (h : At5 T k s x p y q w) : (execOp ρ o).run Try.prog w = .ok (.value (.agg #[.bool s, .int .u64 x, .pointer p, .int .u64 y, .pointer q])) w := by
  obtain ⟨c, t, h1, h2⟩ := h
  have i1 : w.cell? ⟨T, k, none⟩ = some (.bool s) := (cell_blk h1).trans (h2 0 (by omega))
  have i2 : w.cell? ⟨T, k + 1, none⟩ = some (.int .u64 x) := (cell_blk h1).trans (h2 1 (by omega))
  have i3 : w.cell? ⟨T, k + 2, none⟩ = some (.pointer p) := (cell_blk h1).trans (h2 2 (by omega))
  have i4 : w.cell? ⟨T, k + 3, none⟩ = some (.int .u64 y) := (cell_blk h1).trans (h2 3 (by omega))
  have i5 : w.cell? ⟨T, k + 4, none⟩ = some (.pointer q) := (cell_blk h1).trans (h2 4 (by omega))
  unfold execOp; rw [ho]; simp [go_sem, he, i1, i2, i3, i4, i5]
end
structure SV (w0 : World) (ax bx az bz : Int) (cx ex cz ez : Nat) (w : World) : Prop where
  k : Below w0.heap.size w0 w
  ax : Vq w0.heap.size 0 ax cx w
  az : Vq w0.heap.size 5 az cz w
  bx : Vq (w0.heap.size + 1) 0 bx ex w
  bz : Vq (w0.heap.size + 1) 5 bz ez w
  t : Rq (w0.heap.size + 1 + 1) w
theorem SV.keep {w0 w w' : World} {ax bx az bz : Int} {cx ex cz ez : Nat} (h : SV w0 ax bx az bz cx ex cz ez w) (hb : Below w.heap.size w w') : SV w0 ax bx az bz cx ex cz ez w' :=
  ⟨Below.thru h.k h.k.size hb, Vq.keep h.ax hb, Vq.keep h.az hb, Vq.keep h.bx hb, Vq.keep h.bz hb, h.t.keep hb h.t.lt⟩
def D44 (t : Nat) : Bool := Nat.ble 5 t && Nat.ble t 15
def tab44 (Sa Sb : Nat) (ax bx az bz m1 m2 l : Int) (cx ex cz ez k1 k2 k : Nat) (t : Nat) : Kd := [kp Sa 0, .q ax cx, kp Sb 5, .q bz ez, .q m1 k1, kp Sa 5, .q az cz, kp Sb 0, .q bx ex, .q m2 k2, .q l k].getD (t - 5) .any
set_option maxRecDepth 100000 in
set_option maxHeartbeats 1600000 in
theorem vcross_any (a1 b1 : Bool) (a2 a4 a7 a9 b2 b4 b7 b9 : Int) (a6 b6 : Bool) (a3 a5 a8 a10 b3 b5 b8 b10 : Option Addr) (ax bx az bz m1 m2 l : Int) (cx ex cz ez k1 k2 k : Nat) (w : World)
    (hax : Rr w (.agg #[.bool a1, .int .u64 a2, .pointer a3, .int .u64 a4, .pointer a5]) ax cx) (haz : Rr w (.agg #[.bool a6, .int .u64 a7, .pointer a8, .int .u64 a9, .pointer a10]) az cz)
    (hbx : Rr w (.agg #[.bool b1, .int .u64 b2, .pointer b3, .int .u64 b4, .pointer b5]) bx ex) (hbz : Rr w (.agg #[.bool b6, .int .u64 b7, .pointer b8, .int .u64 b9, .pointer b10]) bz ez)
    (hm1 : ∀ W v1 v2, Rr W v1 ax cx → Rr W v2 bz ez → Calls Try.prog 71 #[v1, v2] W (PR m1 k1 W)) (hm2 : ∀ W v1 v2, Rr W v1 az cz → Rr W v2 bx ex → Calls Try.prog 71 #[v1, v2] W (PR m2 k2 W))
    (hl : ∀ W v1 v2, Rr W v1 m1 k1 → Rr W v2 m2 k2 → Calls Try.prog 76 #[v1, v2] W (PR l k W)) :
    Calls Try.prog 44 #[.agg #[.bool a1, .int .u64 a2, .pointer a3, .int .u64 a4, .pointer a5, .bool a6, .int .u64 a7, .pointer a8, .int .u64 a9, .pointer a10], .agg #[.bool b1, .int .u64 b2, .pointer b3, .int .u64 b4, .pointer b5, .bool b6, .int .u64 b7, .pointer b8, .int .u64 b9, .pointer b10]] w (PR l k w) := by
  have S0 : SV w ax bx az bz cx ex cz ez (((w.alloc (.cells #[.bool a1, .int .u64 a2, .pointer a3, .int .u64 a4, .pointer a5, .bool a6, .int .u64 a7, .pointer a8, .int .u64 a9, .pointer a10] 71)).alloc (.cells #[.bool b1, .int .u64 b2, .pointer b3, .int .u64 b4, .pointer b5, .bool b6, .int .u64 b7, .pointer b8, .int .u64 b9, .pointer b10] 71)).alloc (.cells #[.bool false, .int .u64 0, .pointer none, .int .u64 0, .pointer none] 61)) := by
    have hA := blk_keep (blk_keep (Go.Deep.blk_alloc_new w (.cells #[.bool a1, .int .u64 a2, .pointer a3, .int .u64 a4, .pointer a5, .bool a6, .int .u64 a7, .pointer a8, .int .u64 a9, .pointer a10] 71)) (bl1 _ (.cells #[.bool b1, .int .u64 b2, .pointer b3, .int .u64 b4, .pointer b5, .bool b6, .int .u64 b7, .pointer b8, .int .u64 b9, .pointer b10] 71))) (bl1 _ (.cells #[.bool false, .int .u64 0, .pointer none, .int .u64 0, .pointer none] 61))
    have hB := Go.Deep.blk_alloc_new (w.alloc (.cells #[.bool a1, .int .u64 a2, .pointer a3, .int .u64 a4, .pointer a5, .bool a6, .int .u64 a7, .pointer a8, .int .u64 a9, .pointer a10] 71)) (.cells #[.bool b1, .int .u64 b2, .pointer b3, .int .u64 b4, .pointer b5, .bool b6, .int .u64 b7, .pointer b8, .int .u64 b9, .pointer b10] 71)
    rw [World.size_alloc] at hB
    have hB := blk_keep hB (bl1 _ (.cells #[.bool false, .int .u64 0, .pointer none, .int .u64 0, .pointer none] 61))
    have kp := bl3 w (.cells #[.bool a1, .int .u64 a2, .pointer a3, .int .u64 a4, .pointer a5, .bool a6, .int .u64 a7, .pointer a8, .int .u64 a9, .pointer a10] 71) (.cells #[.bool b1, .int .u64 b2, .pointer b3, .int .u64 b4, .pointer b5, .bool b6, .int .u64 b7, .pointer b8, .int .u64 b9, .pointer b10] 71) (.cells #[.bool false, .int .u64 0, .pointer none, .int .u64 0, .pointer none] 61)
    exact ⟨kp, ⟨_, _, _, _, _, ⟨_, _, hA, fun i hi => by rcases i with _ | _ | _ | _ | _ | i <;> first | rfl | omega⟩, hax.keep kp (Nat.le_refl _)⟩, ⟨_, _, _, _, _, ⟨_, _, hA, fun i hi => by rcases i with _ | _ | _ | _ | _ | i <;> first | rfl | omega⟩, haz.keep kp (Nat.le_refl _)⟩,
      ⟨_, _, _, _, _, ⟨_, _, hB, fun i hi => by rcases i with _ | _ | _ | _ | _ | i <;> first | rfl | omega⟩, hbx.keep kp (Nat.le_refl _)⟩, ⟨_, _, _, _, _, ⟨_, _, hB, fun i hi => by rcases i with _ | _ | _ | _ | _ | i <;> first | rfl | omega⟩, hbz.keep kp (Nat.le_refl _)⟩, rq_new _ (by simp)⟩
  have S0 := Lib.hid S0
  have HM1 := Lib.hid hm1; have HM2 := Lib.hid hm2; have HL := Lib.hid hl
  clear hax haz hbx hbz hm1 hm2 hl
  go_enter Try.func44, Try.ntmps44
  go_wp2_with fail
  go_cut [] (fun wc => Below w.heap.size w wc ∧ Hq (w.heap.size + 1 + 1) l k wc)
  case first =>
    rename_i J K' hJ hK
    refine wp_region_two D44 (tab44 w.heap.size (w.heap.size + 1) ax bx az bz m1 m2 l cx ex cz ez k1 k2 k) (fun w' => SV w ax bx az bz cx ex cz ez w') 11 (fun _ _ wc => Below w.heap.size w wc ∧ Hq (w.heap.size + 1 + 1) l k wc) (by kernel_rfl) (by kernel_rfl) (by kernel_rfl) (by kernel_rfl) (by decide) (by kernel_rfl) (fun _ _ h hb => h.keep hb) (S0.out.keep (Below.refl _ _).drew) ?_ ?_ ?_
    · refine .cons (fun f w' hI hs => ⟨wanted_none rfl, _, rfl, .val (rn_field71_0 rfl (fr_old rfl rfl)) ⟨Below.refl _ _, rfl⟩⟩) ?_
      refine .cons (fun f w' hI hs => ?_) ?_
      · obtain ⟨s, x, p, y, q, h1, h2⟩ := hI.ax
        exact ⟨wanted_none rfl, _, rfl, .val (rn_load61c rfl ((fr_own rfl rfl).trans (hs 5 (by kernel_rfl))) h1) ⟨Below.refl _ _, h2⟩⟩
      refine .cons (fun f w' hI hs => ⟨wanted_none rfl, _, rfl, .val (rn_field71_1 rfl (fr_old rfl rfl)) ⟨Below.refl _ _, rfl⟩⟩) ?_
      refine .cons (fun f w' hI hs => ?_) ?_
      · obtain ⟨s, x, p, y, q, h1, h2⟩ := hI.bz
        exact ⟨wanted_none rfl, _, rfl, .val (rn_load61c rfl ((fr_own rfl rfl).trans (hs 7 (by kernel_rfl))) h1) ⟨Below.refl _ _, h2⟩⟩
      refine .cons (fun f w' hI hs => ⟨wanted_none rfl, _, rfl, .call2 rfl cf71 rfl rfl rfl rfl (PR.kd (HM1.out w' _ _ (hs 6 (by kernel_rfl)) (hs 8 (by kernel_rfl))))⟩) ?_
      refine .cons (fun f w' hI hs => ⟨wanted_none rfl, _, rfl, .val (rn_field71_1 rfl (fr_old rfl rfl)) ⟨Below.refl _ _, rfl⟩⟩) ?_
      refine .cons (fun f w' hI hs => ?_) ?_
      · obtain ⟨s, x, p, y, q, h1, h2⟩ := hI.az
        exact ⟨wanted_none rfl, _, rfl, .val (rn_load61c rfl ((fr_own rfl rfl).trans (hs 10 (by kernel_rfl))) h1) ⟨Below.refl _ _, h2⟩⟩
      refine .cons (fun f w' hI hs => ⟨wanted_none rfl, _, rfl, .val (rn_field71_0 rfl (fr_old rfl rfl)) ⟨Below.refl _ _, rfl⟩⟩) ?_
      refine .cons (fun f w' hI hs => ?_) ?_
      · obtain ⟨s, x, p, y, q, h1, h2⟩ := hI.bx
        exact ⟨wanted_none rfl, _, rfl, .val (rn_load61c rfl ((fr_own rfl rfl).trans (hs 12 (by kernel_rfl))) h1) ⟨Below.refl _ _, h2⟩⟩
      refine .cons (fun f w' hI hs => ⟨wanted_none rfl, _, rfl, .call2 rfl cf71 rfl rfl rfl rfl (PR.kd (HM2.out w' _ _ (hs 11 (by kernel_rfl)) (hs 13 (by kernel_rfl))))⟩) ?_
      refine .cons (fun f w' hI hs => ⟨wanted_none rfl, _, rfl, .call2 rfl cf76 rfl rfl rfl rfl (PR.kd (HL.out w' _ _ (hs 9 (by kernel_rfl)) (hs 14 (by kernel_rfl))))⟩) .nil
    · refine .cons (fun f w' h => ⟨wanted_none rfl, ?_⟩) .nil
      obtain ⟨hI, hs⟩ := (if_pos rfl) ▸ h
      have h8 : Rr w' (f 15) l k := hs 15 (by kernel_rfl)
      obtain ⟨s8, x8, p8, y8, q8, e8⟩ := h8.agg
      rw [e8] at h8
      exact .skip (rn_store61 rfl (fr_old rfl rfl) ((fr_own rfl rfl).trans e8) hI.t) ⟨below5 hI.k (by omega) _ _ _ _ _, Hq.stored hI.t h8⟩
    · intro f w' h
      refine hK _ _ (Met.intro (hJ _ _ ?_))
      (repeat apply Exists.intro)
      refine ⟨?_, rfl⟩
      exact h
  case rest =>
    obtain ⟨kf, s1, x1, y1, p1, q1, h1, h2⟩ := hcut
    have i1 := cell_blk (i := 0) h1
    have i2 := cell_blk (i := 1) h1
    have i3 := cell_blk (i := 2) h1
    have i4 := cell_blk (i := 3) h1
    have i5 := cell_blk (i := 4) h1
    have KF := Lib.hid kf
    have V := Lib.hid h2
    clear h1 h2 kf S0
    go_wp2
    exact bodyPost_ret (v := .agg #[.bool s1, .int .u64 x1, .pointer p1, .int .u64 y1, .pointer q1]) (by simp [results, Try.results44, go_sem, i1, i2, i3, i4, i5]) rfl ⟨KF.out, _, rfl, V.out⟩
def D45 (t : Nat) : Bool := Nat.ble 5 t && Nat.ble t 15
def tab45 (Sa Sb : Nat) (ax bx az bz m1 m2 l : Int) (cx ex cz ez k1 k2 k : Nat) (t : Nat) : Kd := [kp Sa 0, .q ax cx, kp Sb 0, .q bx ex, .q m1 k1, kp Sa 5, .q az cz, kp Sb 5, .q bz ez, .q m2 k2, .q l k].getD (t - 5) .any
set_option maxRecDepth 100000 in
set_option maxHeartbeats 1600000 in
theorem vdot_any (a1 b1 : Bool) (a2 a4 a7 a9 b2 b4 b7 b9 : Int) (a6 b6 : Bool) (a3 a5 a8 a10 b3 b5 b8 b10 : Option Addr) (ax bx az bz m1 m2 l : Int) (cx ex cz ez k1 k2 k : Nat) (w : World)
    (hax : Rr w (.agg #[.bool a1, .int .u64 a2, .pointer a3, .int .u64 a4, .pointer a5]) ax cx) (haz : Rr w (.agg #[.bool a6, .int .u64 a7, .pointer a8, .int .u64 a9, .pointer a10]) az cz)
    (hbx : Rr w (.agg #[.bool b1, .int .u64 b2, .pointer b3, .int .u64 b4, .pointer b5]) bx ex) (hbz : Rr w (.agg #[.bool b6, .int .u64 b7, .pointer b8, .int .u64 b9, .pointer b10]) bz ez)
    (hm1 : ∀ W v1 v2, Rr W v1 ax cx → Rr W v2 bx ex → Calls Try.prog 71 #[v1, v2] W (PR m1 k1 W)) (hm2 : ∀ W v1 v2, Rr W v1 az cz → Rr W v2 bz ez → Calls Try.prog 71 #[v1, v2] W (PR m2 k2 W))
    (hl : ∀ W v1 v2, Rr W v1 m1 k1 → Rr W v2 m2 k2 → Calls Try.prog 77 #[v1, v2] W (PR l k W)) :
    Calls Try.prog 45 #[.agg #[.bool a1, .int .u64 a2, .pointer a3, .int .u64 a4, .pointer a5, .bool a6, .int .u64 a7, .pointer a8, .int .u64 a9, .pointer a10], .agg #[.bool b1, .int .u64 b2, .pointer b3, .int .u64 b4, .pointer b5, .bool b6, .int .u64 b7, .pointer b8, .int .u64 b9, .pointer b10]] w (PR l k w) := by
  have S0 : SV w ax bx az bz cx ex cz ez (((w.alloc (.cells #[.bool a1, .int .u64 a2, .pointer a3, .int .u64 a4, .pointer a5, .bool a6, .int .u64 a7, .pointer a8, .int .u64 a9, .pointer a10] 71)).alloc (.cells #[.bool b1, .int .u64 b2, .pointer b3, .int .u64 b4, .pointer b5, .bool b6, .int .u64 b7, .pointer b8, .int .u64 b9, .pointer b10] 71)).alloc (.cells #[.bool false, .int .u64 0, .pointer none, .int .u64 0, .pointer none] 61)) := by
    have hA := blk_keep (blk_keep (Go.Deep.blk_alloc_new w (.cells #[.bool a1, .int .u64 a2, .pointer a3, .int .u64 a4, .pointer a5, .bool a6, .int .u64 a7, .pointer a8, .int .u64 a9, .pointer a10] 71)) (bl1 _ (.cells #[.bool b1, .int .u64 b2, .pointer b3, .int .u64 b4, .pointer b5, .bool b6, .int .u64 b7, .pointer b8, .int .u64 b9, .pointer b10] 71))) (bl1 _ (.cells #[.bool false, .int .u64 0, .pointer none, .int .u64 0, .pointer none] 61))
    have hB := Go.Deep.blk_alloc_new (w.alloc (.cells #[.bool a1, .int .u64 a2, .pointer a3, .int .u64 a4, .pointer a5, .bool a6, .int .u64 a7, .pointer a8, .int .u64 a9, .pointer a10] 71)) (.cells #[.bool b1, .int .u64 b2, .pointer b3, .int .u64 b4, .pointer b5, .bool b6, .int .u64 b7, .pointer b8, .int .u64 b9, .pointer b10] 71)
    rw [World.size_alloc] at hB
    have hB := blk_keep hB (bl1 _ (.cells #[.bool false, .int .u64 0, .pointer none, .int .u64 0, .pointer none] 61))
    have kp := bl3 w (.cells #[.bool a1, .int .u64 a2, .pointer a3, .int .u64 a4, .pointer a5, .bool a6, .int .u64 a7, .pointer a8, .int .u64 a9, .pointer a10] 71) (.cells #[.bool b1, .int .u64 b2, .pointer b3, .int .u64 b4, .pointer b5, .bool b6, .int .u64 b7, .pointer b8, .int .u64 b9, .pointer b10] 71) (.cells #[.bool false, .int .u64 0, .pointer none, .int .u64 0, .pointer none] 61)
    exact ⟨kp, ⟨_, _, _, _, _, ⟨_, _, hA, fun i hi => by rcases i with _ | _ | _ | _ | _ | i <;> first | rfl | omega⟩, hax.keep kp (Nat.le_refl _)⟩, ⟨_, _, _, _, _, ⟨_, _, hA, fun i hi => by rcases i with _ | _ | _ | _ | _ | i <;> first | rfl | omega⟩, haz.keep kp (Nat.le_refl _)⟩,
      ⟨_, _, _, _, _, ⟨_, _, hB, fun i hi => by rcases i with _ | _ | _ | _ | _ | i <;> first | rfl | omega⟩, hbx.keep kp (Nat.le_refl _)⟩, ⟨_, _, _, _, _, ⟨_, _, hB, fun i hi => by rcases i with _ | _ | _ | _ | _ | i <;> first | rfl | omega⟩, hbz.keep kp (Nat.le_refl _)⟩, rq_new _ (by simp)⟩
  have S0 := Lib.hid S0
  have HM1 := Lib.hid hm1; have HM2 := Lib.hid hm2; have HL := Lib.hid hl
  clear hax haz hbx hbz hm1 hm2 hl
  go_enter Try.func45, Try.ntmps45
  go_wp2_with fail
  go_cut [] (fun wc => Below w.heap.size w wc ∧ Hq (w.heap.size + 1 + 1) l k wc)
  case first =>
    rename_i J K' hJ hK
    refine wp_region_two D45 (tab45 w.heap.size (w.heap.size + 1) ax bx az bz m1 m2 l cx ex cz ez k1 k2 k) (fun w' => SV w ax bx az bz cx ex cz ez w') 11 (fun _ _ wc => Below w.heap.size w wc ∧ Hq (w.heap.size + 1 + 1) l k wc) (by kernel_rfl) (by kernel_rfl) (by kernel_rfl) (by kernel_rfl) (by decide) (by kernel_rfl) (fun _ _ h hb => h.keep hb) (S0.out.keep (Below.refl _ _).drew) ?_ ?_ ?_
    · refine .cons (fun f w' hI hs => ⟨wanted_none rfl, _, rfl, .val (rn_field71_0 rfl (fr_old rfl rfl)) ⟨Below.refl _ _, rfl⟩⟩) ?_
      refine .cons (fun f w' hI hs => ?_) ?_
      · obtain ⟨s, x, p, y, q, h1, h2⟩ := hI.ax
        exact ⟨wanted_none rfl, _, rfl, .val (rn_load61c rfl ((fr_own rfl rfl).trans (hs 5 (by kernel_rfl))) h1) ⟨Below.refl _ _, h2⟩⟩
      refine .cons (fun f w' hI hs => ⟨wanted_none rfl, _, rfl, .val (rn_field71_0 rfl (fr_old rfl rfl)) ⟨Below.refl _ _, rfl⟩⟩) ?_
      refine .cons (fun f w' hI hs => ?_) ?_
      · obtain ⟨s, x, p, y, q, h1, h2⟩ := hI.bx
        exact ⟨wanted_none rfl, _, rfl, .val (rn_load61c rfl ((fr_own rfl rfl).trans (hs 7 (by kernel_rfl))) h1) ⟨Below.refl _ _, h2⟩⟩
      refine .cons (fun f w' hI hs => ⟨wanted_none rfl, _, rfl, .call2 rfl cf71 rfl rfl rfl rfl (PR.kd (HM1.out w' _ _ (hs 6 (by kernel_rfl)) (hs 8 (by kernel_rfl))))⟩) ?_
      refine .cons (fun f w' hI hs => ⟨wanted_none rfl, _, rfl, .val (rn_field71_1 rfl (fr_old rfl rfl)) ⟨Below.refl _ _, rfl⟩⟩) ?_
      refine .cons (fun f w' hI hs => ?_) ?_
      · obtain ⟨s, x, p, y, q, h1, h2⟩ := hI.az
        exact ⟨wanted_none rfl, _, rfl, .val (rn_load61c rfl ((fr_own rfl rfl).trans (hs 10 (by kernel_rfl))) h1) ⟨Below.refl _ _, h2⟩⟩
      refine .cons (fun f w' hI hs => ⟨wanted_none rfl, _, rfl, .val (rn_field71_1 rfl (fr_old rfl rfl)) ⟨Below.refl _ _, rfl⟩⟩) ?_
      refine .cons (fun f w' hI hs => ?_) ?_
      · obtain ⟨s, x, p, y, q, h1, h2⟩ := hI.bz
        exact ⟨wanted_none rfl, _, rfl, .val (rn_load61c rfl ((fr_own rfl rfl).trans (hs 12 (by kernel_rfl))) h1) ⟨Below.refl _ _, h2⟩⟩
      refine .cons (fun f w' hI hs => ⟨wanted_none rfl, _, rfl, .call2 rfl cf71 rfl rfl rfl rfl (PR.kd (HM2.out w' _ _ (hs 11 (by kernel_rfl)) (hs 13 (by kernel_rfl))))⟩) ?_
      refine .cons (fun f w' hI hs => ⟨wanted_none rfl, _, rfl, .call2 rfl cf77 rfl rfl rfl rfl (PR.kd (HL.out w' _ _ (hs 9 (by kernel_rfl)) (hs 14 (by kernel_rfl))))⟩) .nil
    · refine .cons (fun f w' h => ⟨wanted_none rfl, ?_⟩) .nil
      obtain ⟨hI, hs⟩ := (if_pos rfl) ▸ h
      have h8 : Rr w' (f 15) l k := hs 15 (by kernel_rfl)
      obtain ⟨s8, x8, p8, y8, q8, e8⟩ := h8.agg
      rw [e8] at h8
      exact .skip (rn_store61 rfl (fr_old rfl rfl) ((fr_own rfl rfl).trans e8) hI.t) ⟨below5 hI.k (by omega) _ _ _ _ _, Hq.stored hI.t h8⟩
    · intro f w' h
      refine hK _ _ (Met.intro (hJ _ _ ?_))
      (repeat apply Exists.intro)
      refine ⟨?_, rfl⟩
      exact h
  case rest =>
    obtain ⟨kf, s1, x1, y1, p1, q1, h1, h2⟩ := hcut
    have i1 := cell_blk (i := 0) h1
    have i2 := cell_blk (i := 1) h1
    have i3 := cell_blk (i := 2) h1
    have i4 := cell_blk (i := 3) h1
    have i5 := cell_blk (i := 4) h1
    have KF := Lib.hid kf
    have V := Lib.hid h2
    clear h1 h2 kf S0
    go_wp2
    exact bodyPost_ret (v := .agg #[.bool s1, .int .u64 x1, .pointer p1, .int .u64 y1, .pointer q1]) (by simp [results, Try.results45, go_sem, i1, i2, i3, i4, i5]) rfl ⟨KF.out, _, rfl, V.out⟩
end Go.Proofs.Ytjjomjjgoceklaa
namespace Go.Proofs.Ytjjomjjgoceklaa
open Go.RowKit

/-! what R.Mul needs: numbers; tables that a store keeps; boxes of digits -/
theorem mul_low {an bn : Int} {p q : Nat} (hp : 0 < p) (hq : 0 < q) (ha : Nat.gcd an.natAbs p = 1) (hb : Nat.gcd bn.natAbs q = 1) :
    Nat.gcd (Int.tdiv an (Nat.gcd an.natAbs q : Nat) * Int.tdiv bn (Nat.gcd bn.natAbs p : Nat)).natAbs ((p / Nat.gcd bn.natAbs p) * (q / Nat.gcd an.natAbs q)) = 1 := by
  rw [Int.natAbs_mul, Int.natAbs_tdiv, Int.natAbs_tdiv, Int.natAbs_natCast, Int.natAbs_natCast]
  generalize an.natAbs = a at *
  generalize bn.natAbs = b at *
  have hg : 0 < Nat.gcd a q := Nat.gcd_pos_of_pos_right _ hq
  have hh : 0 < Nat.gcd b p := Nat.gcd_pos_of_pos_right _ hp
  have ha : Nat.Coprime a p := ha
  have hb : Nat.Coprime b q := hb
  have c1 : Nat.Coprime (a / Nat.gcd a q) (p / Nat.gcd b p) := Nat.Coprime.coprime_dvd_left (Nat.div_dvd_of_dvd (Nat.gcd_dvd_left a q)) (Nat.Coprime.coprime_dvd_right (Nat.div_dvd_of_dvd (Nat.gcd_dvd_right b p)) ha)
  have c2 : Nat.Coprime (a / Nat.gcd a q) (q / Nat.gcd a q) := Nat.coprime_div_gcd_div_gcd hg
  have c3 : Nat.Coprime (b / Nat.gcd b p) (p / Nat.gcd b p) := Nat.coprime_div_gcd_div_gcd hh
  have c4 : Nat.Coprime (b / Nat.gcd b p) (q / Nat.gcd a q) := Nat.Coprime.coprime_dvd_left (Nat.div_dvd_of_dvd (Nat.gcd_dvd_left b p)) (Nat.Coprime.coprime_dvd_right (Nat.div_dvd_of_dvd (Nat.gcd_dvd_right a q)) hb)
  exact Nat.Coprime.mul_right (Nat.Coprime.mul_left c1 c3) (Nat.Coprime.mul_left c2 c4)
/-- what a slot holds outlives a store into a box of digits -/
def Ks2 (K : Kd) : Prop := ∀ {v : Value} {w : World} {T : Nat} {x : Int} {p : Option Addr}, Rs T w → kd K v w → kd K v (st2 w T (.int .u64 x) (.pointer p))
/-- and into a box of an integer -/
def Ks3 (K : Kd) : Prop := ∀ {v : Value} {w : World} {T : Nat} {s : Bool} {x : Int} {p : Option Addr}, Rz T w → kd K v w → kd K v (st3 w T (.bool s) (.int .u64 x) (.pointer p))
theorem rs_st2 {T U : Nat} {w : World} (hT : Rs T w) (hU : Rs U w) (x : Int) (p : Option Addr) : Rs U (st2 w T (.int .u64 x) (.pointer p)) := by
  by_cases e : U = T
  · subst e; exact ⟨x, p, hU.stored x p⟩
  · exact hU.other (grown2 _ _ _ _ _ _) e
def kbs (B : Nat) : Kd := .c (fun v w => ∃ T, v = .pointer (some ⟨T, 0, none⟩) ∧ B ≤ T ∧ Rs T w) fun _ _ _ ⟨T, h1, h2, h3⟩ hb => ⟨T, h1, h2, h3.keep hb h3.lt⟩
theorem Ks2.z {n : Int} : Ks2 (.z n) := fun hT h => Zr.store h hT.odd (grown2 _ _ _ _ _ _)
theorem Ks2.q {n : Int} {d : Nat} : Ks2 (.q n d) := fun hT h => Rr.store h hT.odd (grown2 _ _ _ _ _ _)
theorem Ks2.g {n : Nat} : Ks2 (.g n) := fun hT h => Dg.store h hT.odd (grown2 _ _ _ _ _ _)
theorem Ks2.v {y : Value} : Ks2 (.v y) := fun _ h => h
theorem Ks2.kp {b i : Nat} : Ks2 (kp b i) := fun _ h => h
theorem Ks2.any : Ks2 .any := fun _ _ => trivial
theorem Ks2.kbs {B : Nat} : Ks2 (kbs B) := fun hT ⟨U, h1, h2, h3⟩ => ⟨U, h1, h2, rs_st2 hT h3 _ _⟩
theorem Ks3.z {n : Int} : Ks3 (.z n) := fun hT h => Zr.store h hT.odd (grown3 _ _ _ _ _ _ _ _)
theorem Ks3.q {n : Int} {d : Nat} : Ks3 (.q n d) := fun hT h => Rr.store h hT.odd (grown3 _ _ _ _ _ _ _ _)
theorem Ks3.g {n : Nat} : Ks3 (.g n) := fun hT h => Dg.store h hT.odd (grown3 _ _ _ _ _ _ _ _)
theorem Ks3.v {y : Value} : Ks3 (.v y) := fun _ h => h
theorem Ks3.kp {b i : Nat} : Ks3 (kp b i) := fun _ h => h
theorem Ks3.any : Ks3 .any := fun _ _ => trivial
theorem Ks3.kbz {B : Nat} : Ks3 (kbz B) := fun hT ⟨U, h1, h2, h3⟩ => ⟨U, h1, h2, rz_st3 hT h3 _ _ _⟩
theorem Ks2.getD {L : List Kd} (h : ∀ K ∈ L, Ks2 K) (j : Nat) : Ks2 (L.getD j .any) := by
  intro v w T x p
  rw [List.getD_eq_getElem?_getD]
  cases hj : L[j]? with
  | none => exact fun _ _ => trivial
  | some K => exact h K (List.mem_of_getElem? hj)
theorem Ks3.getD {L : List Kd} (h : ∀ K ∈ L, Ks3 K) (j : Nat) : Ks3 (L.getD j .any) := by
  intro v w T s x p
  rw [List.getD_eq_getElem?_getD]
  cases hj : L[j]? with
  | none => exact fun _ _ => trivial
  | some K => exact h K (List.mem_of_getElem? hj)
theorem Hd.rs {T n : Nat} {w : World} (h : Hd T n w) : Rs T w := by obtain ⟨x, p, h, _⟩ := h; exact ⟨x, p, h⟩
theorem Hd.stored {T n : Nat} {w : World} {x : Int} {p : Option Addr} (h : Rs T w) (hd : Dg w (.agg #[.int .u64 x, .pointer p]) n) : Hd T n (st2 w T (.int .u64 x) (.pointer p)) := ⟨x, p, h.stored x p, hd.store h.odd (grown2 _ _ _ _ _ _)⟩
theorem Hd.st {T U n : Nat} {w w' : World} (h : Hd T n w) (hU : Odd U w) (hg : w.grownBy w' (some U)) (hne : T ≠ U) : Hd T n w' := by
  obtain ⟨x, p, h1, h2⟩ := h
  exact ⟨x, p, blk_other h1 hg hne, h2.store hU hg⟩
theorem PDg.kd {n : Nat} {w : World} {g : FuncId} {args : Array Value} (h : Calls Try.prog g args w (PDg n w)) : Calls Try.prog g args w fun e w' => ∃ v, e = .returned v ∧ (Below w.heap.size w w' ∧ Go.Proofs.Ytjjomjjgoceklaa.kd (.g n) v w') := h.mono fun _ _ ⟨hb, v, he, hv⟩ => ⟨v, he, hb, hv⟩
section
variable {ρ : Operand → Value} {o : Oper} {w : World} {t : Operand}
theorem rn_alloc27 (ho : o.op = .alloc 27) : (execOp ρ o).run Try.prog w = .ok (.value (.pointer (some ⟨w.heap.size, 0, none⟩))) (w.alloc (.cells #[.int .u64 0, .pointer none] 27)) := by
  unfold execOp; rw [ho]; simp [go_sem]
theorem rn_field29_1 {b : Nat} (ho : o.op = .fieldAddr 29 t 1) (he : ρ t = .pointer (some ⟨b, 0, none⟩)) : (execOp ρ o).run Try.prog w = .ok (.value (.pointer (some ⟨b, 1, none⟩))) w := by
  unfold execOp; rw [ho]; simp [go_sem, he]
end
theorem Hq.dgp {T : Nat} {n : Int} {d : Nat} {w : World} (h : Hq T n d w) : ∃ (x : Int) (p : Option Addr), w.cell? ⟨T, 1, none⟩ = some (.int .u64 x) ∧ w.cell? ⟨T, 1 + 1, none⟩ = some (.pointer p) ∧ Dg w (.agg #[.int .u64 x, .pointer p]) n.natAbs := by
  obtain ⟨s, x, y, p, q, h1, h2⟩ := h
  exact ⟨x, p, cell_blk (i := 1) h1, cell_blk (i := 2) h1, h2.num.dig⟩
theorem Hq.b3 {T : Nat} {n : Int} {d : Nat} {w : World} (h : Hq T n d w) : ∃ (s : Bool) (x : Int) (p : Option Addr), B3 T s x p w ∧ Zr w (.agg #[.bool s, .int .u64 x, .pointer p]) n := by
  obtain ⟨s, x, y, p, q, h1, h2⟩ := h
  exact ⟨s, x, p, ⟨cell_blk (i := 0) h1, cell_blk (i := 1) h1, cell_blk (i := 2) h1⟩, h2.num⟩

/-! R.Mul -/
theorem cf60 : CF 60 := fun W args => by go_simp
theorem cf70 : CF 70 := fun W args => by go_simp
theorem cf92 : CF 92 := fun W args => by go_simp
theorem cf93 : CF 93 := fun W args => by go_simp
theorem cf56 : CF 56 := fun W args => by go_simp
theorem cf69 : CF 69 := fun W args => by go_simp
theorem hz3 {T : Nat} {w : World} {s : Bool} {x : Int} {p : Option Addr} (h : w.heap[T]? = some (.cells #[.bool s, .int .u64 x, .pointer p] 29 (0, 0))) : B3 T s x p w := ⟨cell_blk (i := 0) h, cell_blk (i := 1) h, cell_blk (i := 2) h⟩
def M1D (t : Nat) : Bool := Nat.beq t 5 || Nat.beq t 6 || (Nat.ble 10 t && Nat.ble t 13)
def M1al (t : Nat) : Bool := Nat.beq t 5 || Nat.beq t 6
def M1t (B : Nat) (an bn : Int) (p q : Nat) (t : Nat) : Kd := [kbs B, kbs B, .any, .any, .any, .q an p, .g p, .q bn q, .g q].getD (t - 5) .any
theorem M1k {B : Nat} {an bn : Int} {p q : Nat} (t : Nat) : Ks2 (M1t B an bn p q t) := Ks2.getD (by simp only [List.forall_mem_cons]; exact ⟨Ks2.kbs, Ks2.kbs, Ks2.any, Ks2.any, Ks2.any, Ks2.q, Ks2.g, Ks2.q, Ks2.g, fun _ h => by cases h⟩) _
def M2D (t : Nat) : Bool := Nat.beq t 7 || Nat.beq t 8 || (Nat.ble 14 t && Nat.ble t 23)
def M2al (t : Nat) : Bool := Nat.beq t 7 || Nat.beq t 8
def M2t (B S : Nat) (an bn : Int) (p q : Nat) (t : Nat) : Kd := [kbs B, kbs B, .any, .any, .any, .any, .any, kp S 0, kp S 1, .g an.natAbs, .g q, .g (Nat.gcd an.natAbs q), kp (S + 1) 0, kp (S + 1) 1, .g bn.natAbs, .g p, .g (Nat.gcd bn.natAbs p)].getD (t - 7) .any
theorem M2k {B S : Nat} {an bn : Int} {p q : Nat} (t : Nat) : Ks2 (M2t B S an bn p q t) := Ks2.getD (by simp only [List.forall_mem_cons]; exact ⟨Ks2.kbs, Ks2.kbs, Ks2.any, Ks2.any, Ks2.any, Ks2.any, Ks2.any, Ks2.kp, Ks2.kp, Ks2.g, Ks2.g, Ks2.g, Ks2.kp, Ks2.kp, Ks2.g, Ks2.g, Ks2.g, fun _ h => by cases h⟩) _
def M3D (t : Nat) : Bool := Nat.beq t 9 || (Nat.ble 24 t && Nat.ble t 32)
def M3al (t : Nat) : Bool := Nat.beq t 9
def M3t (B S : Nat) (an bn : Int) (g h : Nat) (t : Nat) : Kd := if t = 9 then kbz B else [kp S 0, .z an, .g g, .z (Int.tdiv an g), kp (S + 1) 0, .z bn, .g h, .z (Int.tdiv bn h), .z (Int.tdiv an g * Int.tdiv bn h)].getD (t - 24) .any
theorem M3k {B S : Nat} {an bn : Int} {g h : Nat} (t : Nat) : Ks3 (M3t B S an bn g h t) := by
  unfold M3t
  split
  · exact Ks3.kbz
  · exact Ks3.getD (by simp only [List.forall_mem_cons]; exact ⟨Ks3.kp, Ks3.z, Ks3.g, Ks3.z, Ks3.kp, Ks3.z, Ks3.g, Ks3.z, Ks3.z, fun _ h => by cases h⟩) _
def M4D (t : Nat) : Bool := Nat.ble 33 t && Nat.ble t 41
def M4t (n : Int) (p q g h : Nat) (t : Nat) : Kd := [.z n, .g p, .g h, .g (p / h), .g q, .g g, .g (q / g), .g ((p / h) * (q / g)), .q n ((p / h) * (q / g))].getD (t - 33) .any
set_option maxRecDepth 100000 in
set_option maxHeartbeats 3200000 in
theorem rmul_any (va vb : Value) (an bn : Int) (p q : Nat) (w : World) (ha : Rr w va an p) (hb : Rr w vb bn q) (sa : Sz an.natAbs) (sb : Sz bn.natAbs) (sp : Sz p) (sq : Sz q) :
    Calls Try.prog 71 #[va, vb] w (PR (Int.tdiv an (Nat.gcd an.natAbs q : Nat) * Int.tdiv bn (Nat.gcd bn.natAbs p : Nat)) ((p / Nat.gcd bn.natAbs p) * (q / Nat.gcd an.natAbs q)) w) := by
  have LOW := Lib.hid (mul_low ha.pos hb.pos ha.gcd hb.gcd)
  have hp := ha.pos
  have hq := hb.pos
  have GP : Hid (Nat.gcd an.natAbs q ≠ 0) := by show _ ≠ 0; have := Nat.gcd_pos_of_pos_right an.natAbs hq; omega
  have HPo : Hid (Nat.gcd bn.natAbs p ≠ 0) := by show _ ≠ 0; have := Nat.gcd_pos_of_pos_right bn.natAbs hp; omega
  have POS : Hid (0 < (p / Nat.gcd bn.natAbs p) * (q / Nat.gcd an.natAbs q)) := by
    show 0 < _
    exact Nat.mul_pos (Nat.div_pos (Nat.gcd_le_right _ hp) (Nat.gcd_pos_of_pos_right _ hp)) (Nat.div_pos (Nat.gcd_le_right _ hq) (Nat.gcd_pos_of_pos_right _ hq))
  have SA := Lib.hid sa; have SB := Lib.hid sb; have SP := Lib.hid sp; have SQ := Lib.hid sq
  clear sa sb sp sq hp hq
  obtain ⟨s1, x1, p1, y1, q1, rfl⟩ := ha.agg
  obtain ⟨s2, x2, p2, y2, q2, rfl⟩ := hb.agg
  have S0 : S76 w an bn p q (((w.alloc (.cells #[.bool s1, .int .u64 x1, .pointer p1, .int .u64 y1, .pointer q1] 61)).alloc (.cells #[.bool s2, .int .u64 x2, .pointer p2, .int .u64 y2, .pointer q2] 61)).alloc (.cells #[.bool false, .int .u64 0, .pointer none, .int .u64 0, .pointer none] 61)) :=
    ⟨bl3 _ _ _ _, ⟨s1, x1, y1, p1, q1, blk_keep (blk_keep (Go.Deep.blk_alloc_new _ _) (bl1 _ _)) (bl1 _ _), ha.keep (bl3 _ _ _ _) (Nat.le_refl _)⟩,
      ⟨s2, x2, y2, p2, q2, blk_keep (by have := Go.Deep.blk_alloc_new (w.alloc (.cells #[.bool s1, .int .u64 x1, .pointer p1, .int .u64 y1, .pointer q1] 61)) (.cells #[.bool s2, .int .u64 x2, .pointer p2, .int .u64 y2, .pointer q2] 61); rw [World.size_alloc] at this; exact this) (bl1 _ _), hb.keep (bl3 _ _ _ _) (Nat.le_refl _)⟩, rq_new _ (by simp)⟩
  have S := Lib.hid S0
  clear ha hb S0
  go_enter Try.func71, Try.ntmps71
  go_upto_region 1 with fail
  generalize World.alloc _ (Obj.cells #[Value.bool false, Value.int IntKind.u64 0, Value.pointer none, Value.int IntKind.u64 0, Value.pointer none] 61) = W at *
  go_cut [5, 6] (fun u5 u6 wc => ∃ P Q, u5 = .pointer (some ⟨P, 0, none⟩) ∧ u6 = .pointer (some ⟨Q, 0, none⟩) ∧ W.heap.size ≤ P ∧ W.heap.size ≤ Q ∧ Hd P p wc ∧ Hd Q q wc ∧ Below W.heap.size W wc)
  case first =>
    rename_i J K' hJ hK
    refine wp_region_alf M1D (M1t W.heap.size an bn p q) M1al 6 (fun i f w' => Below W.heap.size W w' ∧ (6+1 ≤ i → ∃ T, f 5 = .pointer (some ⟨T, 0, none⟩) ∧ W.heap.size ≤ T ∧ Hd T (p) w') ∧ (6+2 ≤ i → ∃ T, f 6 = .pointer (some ⟨T, 0, none⟩) ∧ W.heap.size ≤ T ∧ Hd T (q) w')) (by kernel_rfl) (by kernel_rfl) (by kernel_rfl) (by kernel_rfl) (by decide) (by kernel_rfl) (fun i f f' w' w'' hI hb he => ⟨Below.thru hI.1 hI.1.size hb, fun h => by
        obtain ⟨T, h1, h2, h3⟩ := hI.2.1 h
        rcases he with he | he
        · omega
        · exact ⟨T, (he 5 rfl).trans h1, h2, h3.keep hb⟩, fun h => by
        obtain ⟨T, h1, h2, h3⟩ := hI.2.2 h
        rcases he with he | he
        · omega
        · exact ⟨T, (he 6 rfl).trans h1, h2, h3.keep hb⟩⟩) (by kernel_rfl) (fun f => ⟨(Below.refl _ _).drew, fun h => absurd h (by decide), fun h => absurd h (by decide)⟩) ?_ ?_ ?_
    · refine .cons (fun j f w' hj hI hs => ?_) ?_
      · obtain ⟨s, x, y, p', q', h1, h2⟩ := S.out.a.keep hI.1
        exact ⟨wanted_none rfl, _, rfl, .val (rn_load61 rfl (fr_old rfl rfl) h1) ⟨⟨Below.refl _ _, h2⟩, (fun h => by cases h)⟩⟩
      refine .cons (fun j f w' hj hI hs => ⟨wanted_none rfl, _, rfl, .call1 rfl cf70 rfl rfl ((PDg.kd (under_any _ an p _ (hs 10 (by kernel_rfl)))).mono fun _ _ ⟨v, he, hr⟩ => ⟨v, he, hr, (fun h => by cases h)⟩)⟩) ?_
      refine .cons (fun j f w' hj hI hs => ?_) ?_
      · obtain ⟨s, x, y, p', q', h1, h2⟩ := S.out.b.keep hI.1
        exact ⟨wanted_none rfl, _, rfl, .val (rn_load61 rfl (fr_old rfl rfl) h1) ⟨⟨Below.refl _ _, h2⟩, (fun h => by cases h)⟩⟩
      refine .cons (fun j f w' hj hI hs => ⟨wanted_none rfl, _, rfl, .call1 rfl cf70 rfl rfl ((PDg.kd (under_any _ bn q _ (hs 12 (by kernel_rfl)))).mono fun _ _ ⟨v, he, hr⟩ => ⟨v, he, hr, (fun h => by cases h)⟩)⟩) ?_
      refine .cons (fun j f w' hj hI hs => ⟨wanted_none rfl, _, rfl, .val (rn_alloc27 rfl) ⟨⟨bl1 _ _, _, rfl, hI.1.size, _, _, Go.Deep.blk_alloc_new _ _⟩, fun _ => ⟨rfl, by simp⟩⟩⟩) ?_
      refine .cons (fun j f w' hj hI hs => ⟨wanted_none rfl, _, rfl, .val (rn_alloc27 rfl) ⟨⟨bl1 _ _, _, rfl, hI.1.size, _, _, Go.Deep.blk_alloc_new _ _⟩, fun _ => ⟨rfl, by simp⟩⟩⟩) .nil
    · refine .cons (fun f w' hI hs hne => ⟨wanted_none rfl, rfl, ?_⟩) ?_
      · have h1 : Dg w' (f 11) (p) := (hs 11 (by kernel_rfl))
        obtain ⟨T, e, hB, hz⟩ : ∃ T, f 5 = .pointer (some ⟨T, 0, none⟩) ∧ W.heap.size ≤ T ∧ Rs T w' := (hs 5 (by kernel_rfl))
        obtain ⟨x1, p1, e1⟩ := h1.agg
        rw [e1] at h1
        exact .skip (rn_store27 rfl ((fr_own rfl rfl).trans e) ((fr_own rfl rfl).trans e1) hz) ⟨⟨⟨below2 hI.1 hB _ _, fun _ => ⟨T, e, hB, Hd.stored hz h1⟩, fun h => absurd h (by decide)⟩, fun t v => (M1k t) hz⟩, by simp [World.setCell]⟩
      refine .cons (fun f w' hI hs hne => ⟨wanted_none rfl, rfl, ?_⟩) .nil
      have h1 : Dg w' (f 13) (q) := (hs 13 (by kernel_rfl))
      obtain ⟨T, e, hB, hz⟩ : ∃ T, f 6 = .pointer (some ⟨T, 0, none⟩) ∧ W.heap.size ≤ T ∧ Rs T w' := (hs 6 (by kernel_rfl))
      obtain ⟨T5, e5, hB5, h5⟩ := hI.2.1 (by decide)
      have hne2 : T5 ≠ T := by
        intro e'
        have := hne 5 6 (by kernel_rfl) (by kernel_rfl) rfl rfl (by decide)
        rw [e5, e, e'] at this
        exact this rfl
      obtain ⟨x1, p1, e1⟩ := h1.agg
      rw [e1] at h1
      exact .skip (rn_store27 rfl ((fr_own rfl rfl).trans e) ((fr_own rfl rfl).trans e1) hz) ⟨⟨⟨below2 hI.1 hB _ _, fun _ => ⟨T5, e5, hB5, h5.st hz.odd (grown2 _ _ _ _ _ _) hne2⟩, fun _ => ⟨T, e, hB, Hd.stored hz h1⟩⟩, fun t v => (M1k t) hz⟩, by simp [World.setCell]⟩
    · intro f w' hI _
      obtain ⟨T5, h1, h2, h3⟩ := hI.2.1 (by decide)
      obtain ⟨T6, h4, h5, h6⟩ := hI.2.2 (by decide)
      refine hK _ _ (Met.intro (hJ _ _ ?_))
      (repeat apply Exists.intro)
      refine ⟨?_, rfl⟩
      exact ⟨T5, T6, h1, h4, h2, h5, h3, h6, hI.1⟩
  case rest =>
    obtain ⟨P, Q, rfl, rfl, lP, lQ, hdP, hdQ, kW⟩ := hcut
    have S := Lib.hid (S.out.keep kW)
    have HP := Lib.hid hdP; have HQ := Lib.hid hdQ
    clear hdP hdQ kW lP lQ
    go_upto_region 2 with fail
    go_cut [7, 8] (fun u5 u6 we => ∃ P Q, u5 = .pointer (some ⟨P, 0, none⟩) ∧ u6 = .pointer (some ⟨Q, 0, none⟩) ∧ wc.heap.size ≤ P ∧ wc.heap.size ≤ Q ∧ Hd P (Nat.gcd an.natAbs q) we ∧ Hd Q (Nat.gcd bn.natAbs p) we ∧ Below wc.heap.size wc we)
    case first =>
      rename_i J K' hJ hK
      refine wp_region_alf M2D (M2t wc.heap.size w.heap.size an bn p q) M2al 12 (fun i f w' => Below wc.heap.size wc w' ∧ (12+1 ≤ i → ∃ T, f 7 = .pointer (some ⟨T, 0, none⟩) ∧ wc.heap.size ≤ T ∧ Hd T (Nat.gcd an.natAbs q) w') ∧ (12+2 ≤ i → ∃ T, f 8 = .pointer (some ⟨T, 0, none⟩) ∧ wc.heap.size ≤ T ∧ Hd T (Nat.gcd bn.natAbs p) w')) (by kernel_rfl) (by kernel_rfl) (by kernel_rfl) (by kernel_rfl) (by decide) (by kernel_rfl) (fun i f f' w' w'' hI hb he => ⟨Below.thru hI.1 hI.1.size hb, fun h => by
          obtain ⟨T, h1, h2, h3⟩ := hI.2.1 h
          rcases he with he | he
          · omega
          · exact ⟨T, (he 7 rfl).trans h1, h2, h3.keep hb⟩, fun h => by
          obtain ⟨T, h1, h2, h3⟩ := hI.2.2 h
          rcases he with he | he
          · omega
          · exact ⟨T, (he 8 rfl).trans h1, h2, h3.keep hb⟩⟩) (by kernel_rfl) (fun f => ⟨(Below.refl _ _).drew, fun h => absurd h (by decide), fun h => absurd h (by decide)⟩) ?_ ?_ ?_
      · refine .cons (fun j f w' hj hI hs => ⟨wanted_none rfl, _, rfl, .val (rn_field61_0 rfl (fr_old rfl rfl)) ⟨⟨Below.refl _ _, rfl⟩, (fun h => by cases h)⟩⟩) ?_
        refine .cons (fun j f w' hj hI hs => ⟨wanted_none rfl, _, rfl, .val (rn_field29_1 rfl ((fr_own rfl rfl).trans (hs 14 (by kernel_rfl)))) ⟨⟨Below.refl _ _, rfl⟩, (fun h => by cases h)⟩⟩) ?_
        refine .cons (fun j f w' hj hI hs => ?_) ?_
        · obtain ⟨x, p', h1, h2, h3⟩ := (S.out.a.keep hI.1).dgp
          exact ⟨wanted_none rfl, _, rfl, .val (rn_load27c rfl ((fr_own rfl rfl).trans (hs 15 (by kernel_rfl))) h1 h2) ⟨⟨Below.refl _ _, h3⟩, (fun h => by cases h)⟩⟩
        refine .cons (fun j f w' hj hI hs => ?_) ?_
        · obtain ⟨x, p', h1, h2⟩ := HQ.out.keep hI.1
          exact ⟨wanted_none rfl, _, rfl, .val (rn_load27 rfl (fr_old rfl rfl) h1) ⟨⟨Below.refl _ _, h2⟩, (fun h => by cases h)⟩⟩
        refine .cons (fun j f w' hj hI hs => ⟨wanted_none rfl, _, rfl, .call2 rfl cf60 rfl rfl rfl rfl ((PDg.kd (common_all an.natAbs q SA.out SQ.out _ _ _ (hs 16 (by kernel_rfl)) (hs 17 (by kernel_rfl)))).mono fun _ _ ⟨v, he, hr⟩ => ⟨v, he, hr, (fun h => by cases h)⟩)⟩) ?_
        refine .cons (fun j f w' hj hI hs => ⟨wanted_none rfl, _, rfl, .val (rn_field61_0 rfl (fr_old rfl rfl)) ⟨⟨Below.refl _ _, rfl⟩, (fun h => by cases h)⟩⟩) ?_
        refine .cons (fun j f w' hj hI hs => ⟨wanted_none rfl, _, rfl, .val (rn_field29_1 rfl ((fr_own rfl rfl).trans (hs 19 (by kernel_rfl)))) ⟨⟨Below.refl _ _, rfl⟩, (fun h => by cases h)⟩⟩) ?_
        refine .cons (fun j f w' hj hI hs => ?_) ?_
        · obtain ⟨x, p', h1, h2, h3⟩ := (S.out.b.keep hI.1).dgp
          exact ⟨wanted_none rfl, _, rfl, .val (rn_load27c rfl ((fr_own rfl rfl).trans (hs 20 (by kernel_rfl))) h1 h2) ⟨⟨Below.refl _ _, h3⟩, (fun h => by cases h)⟩⟩
        refine .cons (fun j f w' hj hI hs => ?_) ?_
        · obtain ⟨x, p', h1, h2⟩ := HP.out.keep hI.1
          exact ⟨wanted_none rfl, _, rfl, .val (rn_load27 rfl (fr_old rfl rfl) h1) ⟨⟨Below.refl _ _, h2⟩, (fun h => by cases h)⟩⟩
        refine .cons (fun j f w' hj hI hs => ⟨wanted_none rfl, _, rfl, .call2 rfl cf60 rfl rfl rfl rfl ((PDg.kd (common_all bn.natAbs p SB.out SP.out _ _ _ (hs 21 (by kernel_rfl)) (hs 22 (by kernel_rfl)))).mono fun _ _ ⟨v, he, hr⟩ => ⟨v, he, hr, (fun h => by cases h)⟩)⟩) ?_
        refine .cons (fun j f w' hj hI hs => ⟨wanted_none rfl, _, rfl, .val (rn_alloc27 rfl) ⟨⟨bl1 _ _, _, rfl, hI.1.size, _, _, Go.Deep.blk_alloc_new _ _⟩, fun _ => ⟨rfl, by simp⟩⟩⟩) ?_
        refine .cons (fun j f w' hj hI hs => ⟨wanted_none rfl, _, rfl, .val (rn_alloc27 rfl) ⟨⟨bl1 _ _, _, rfl, hI.1.size, _, _, Go.Deep.blk_alloc_new _ _⟩, fun _ => ⟨rfl, by simp⟩⟩⟩) .nil
      · refine .cons (fun f w' hI hs hne => ⟨wanted_none rfl, rfl, ?_⟩) ?_
        · have h1 : Dg w' (f 18) (Nat.gcd an.natAbs q) := (hs 18 (by kernel_rfl))
          obtain ⟨T, e, hB, hz⟩ : ∃ T, f 7 = .pointer (some ⟨T, 0, none⟩) ∧ wc.heap.size ≤ T ∧ Rs T w' := (hs 7 (by kernel_rfl))
          obtain ⟨x1, p1, e1⟩ := h1.agg
          rw [e1] at h1
          exact .skip (rn_store27 rfl ((fr_own rfl rfl).trans e) ((fr_own rfl rfl).trans e1) hz) ⟨⟨⟨below2 hI.1 hB _ _, fun _ => ⟨T, e, hB, Hd.stored hz h1⟩, fun h => absurd h (by decide)⟩, fun t v => (M2k t) hz⟩, by simp [World.setCell]⟩
        refine .cons (fun f w' hI hs hne => ⟨wanted_none rfl, rfl, ?_⟩) .nil
        have h1 : Dg w' (f 23) (Nat.gcd bn.natAbs p) := (hs 23 (by kernel_rfl))
        obtain ⟨T, e, hB, hz⟩ : ∃ T, f 8 = .pointer (some ⟨T, 0, none⟩) ∧ wc.heap.size ≤ T ∧ Rs T w' := (hs 8 (by kernel_rfl))
        obtain ⟨T5, e5, hB5, h5⟩ := hI.2.1 (by decide)
        have hne2 : T5 ≠ T := by
          intro e'
          have := hne 7 8 (by kernel_rfl) (by kernel_rfl) rfl rfl (by decide)
          rw [e5, e, e'] at this
          exact this rfl
        obtain ⟨x1, p1, e1⟩ := h1.agg
        rw [e1] at h1
        exact .skip (rn_store27 rfl ((fr_own rfl rfl).trans e) ((fr_own rfl rfl).trans e1) hz) ⟨⟨⟨below2 hI.1 hB _ _, fun _ => ⟨T5, e5, hB5, h5.st hz.odd (grown2 _ _ _ _ _ _) hne2⟩, fun _ => ⟨T, e, hB, Hd.stored hz h1⟩⟩, fun t v => (M2k t) hz⟩, by simp [World.setCell]⟩
      · intro f w' hI _
        obtain ⟨T5, h1, h2, h3⟩ := hI.2.1 (by decide)
        obtain ⟨T6, h4, h5, h6⟩ := hI.2.2 (by decide)
        refine hK _ _ (Met.intro (hJ _ _ ?_))
        (repeat apply Exists.intro)
        refine ⟨?_, rfl⟩
        exact ⟨T5, T6, h1, h4, h2, h5, h3, h6, hI.1⟩
    case rest =>
      obtain ⟨Gb, Hb, rfl, rfl, lG, lH, hdG, hdH, kW⟩ := hcut
      have S := Lib.hid (S.out.keep kW)
      have HP := Lib.hid (HP.out.keep kW); have HQ := Lib.hid (HQ.out.keep kW)
      have HG := Lib.hid hdG; have HH := Lib.hid hdH
      clear hdG hdH kW lG lH
      generalize Nat.gcd an.natAbs q = g at *
      generalize Nat.gcd bn.natAbs p = h at *
      go_upto_region 3 with fail
      go_cut [9] (fun u9 we => ∃ T, u9 = .pointer (some ⟨T, 0, none⟩) ∧ Hz T (Int.tdiv an g * Int.tdiv bn h) we ∧ Below wc.heap.size wc we)
      case first =>
        rename_i J K' hJ hK
        refine wp_region_alf M3D (M3t wc.heap.size w.heap.size an bn g h) M3al 10 (fun i f w' => Below wc.heap.size wc w' ∧ (11 ≤ i → ∃ T, f 9 = .pointer (some ⟨T, 0, none⟩) ∧ Hz T (Int.tdiv an g * Int.tdiv bn h) w')) (by kernel_rfl) (by kernel_rfl) (by kernel_rfl) (by kernel_rfl) (by decide) (by kernel_rfl) (fun i f f' w' w'' hI hb he => ⟨Below.thru hI.1 hI.1.size hb, fun h => by
          obtain ⟨T, h1, h2⟩ := hI.2 h
          rcases he with he | he
          · omega
          · exact ⟨T, (he 9 rfl).trans h1, h2.keep hb⟩⟩) (by kernel_rfl) (fun f => ⟨(Below.refl _ _).drew, fun h => absurd h (by decide)⟩) ?_ ?_ ?_
        · refine .cons (fun j f w' hj hI hs => ⟨wanted_none rfl, _, rfl, .val (rn_field61_0 rfl (fr_old rfl rfl)) ⟨⟨Below.refl _ _, rfl⟩, (fun h => by cases h)⟩⟩) ?_
          refine .cons (fun j f w' hj hI hs => ?_) ?_
          · obtain ⟨s, x, p', h1, h2⟩ := (S.out.a.keep hI.1).b3
            exact ⟨wanted_none rfl, _, rfl, .val (rn_load29 rfl ((fr_own rfl rfl).trans (hs 24 (by kernel_rfl))) h1) ⟨⟨Below.refl _ _, h2⟩, (fun h => by cases h)⟩⟩
          refine .cons (fun j f w' hj hI hs => ?_) ?_
          · obtain ⟨x, p', h1, h2⟩ := HG.out.keep hI.1
            exact ⟨wanted_none rfl, _, rfl, .val (rn_load27 rfl (fr_old rfl rfl) h1) ⟨⟨Below.refl _ _, h2⟩, (fun h => by cases h)⟩⟩
          refine .cons (fun j f w' hj hI hs => ⟨wanted_none rfl, _, rfl, .call2 rfl cf92 rfl rfl rfl rfl ((PZ.kd (part_any _ _ an g _ (hs 25 (by kernel_rfl)) (hs 26 (by kernel_rfl)) (fun _ => over_all _ _ SA.out GP.out))).mono fun _ _ ⟨v, he, hr⟩ => ⟨v, he, hr, (fun h => by cases h)⟩)⟩) ?_
          refine .cons (fun j f w' hj hI hs => ⟨wanted_none rfl, _, rfl, .val (rn_field61_0 rfl (fr_old rfl rfl)) ⟨⟨Below.refl _ _, rfl⟩, (fun h => by cases h)⟩⟩) ?_
          refine .cons (fun j f w' hj hI hs => ?_) ?_
          · obtain ⟨s, x, p', h1, h2⟩ := (S.out.b.keep hI.1).b3
            exact ⟨wanted_none rfl, _, rfl, .val (rn_load29 rfl ((fr_own rfl rfl).trans (hs 28 (by kernel_rfl))) h1) ⟨⟨Below.refl _ _, h2⟩, (fun h => by cases h)⟩⟩
          refine .cons (fun j f w' hj hI hs => ?_) ?_
          · obtain ⟨x, p', h1, h2⟩ := HH.out.keep hI.1
            exact ⟨wanted_none rfl, _, rfl, .val (rn_load27 rfl (fr_old rfl rfl) h1) ⟨⟨Below.refl _ _, h2⟩, (fun h => by cases h)⟩⟩
          refine .cons (fun j f w' hj hI hs => ⟨wanted_none rfl, _, rfl, .call2 rfl cf92 rfl rfl rfl rfl ((PZ.kd (part_any _ _ bn h _ (hs 29 (by kernel_rfl)) (hs 30 (by kernel_rfl)) (fun _ => over_all _ _ SB.out HPo.out))).mono fun _ _ ⟨v, he, hr⟩ => ⟨v, he, hr, (fun h => by cases h)⟩)⟩) ?_
          refine .cons (fun j f w' hj hI hs => ⟨wanted_none rfl, _, rfl, .call2 rfl cf18 rfl rfl rfl rfl ((PZ.kd (zmul_any _ _ (Int.tdiv an g) (Int.tdiv bn h) _ (hs 27 (by kernel_rfl)) (hs 31 (by kernel_rfl)) (by rw [Int.natAbs_tdiv, Int.natAbs_natCast]; exact SA.out.le (Nat.div_le_self _ _)) (by rw [Int.natAbs_tdiv, Int.natAbs_natCast]; exact SB.out.le (Nat.div_le_self _ _)))).mono fun _ _ ⟨v, he, hr⟩ => ⟨v, he, hr, (fun h => by cases h)⟩)⟩) ?_
          refine .cons (fun j f w' hj hI hs => ⟨wanted_none rfl, _, rfl, .val (rn_alloc29 rfl) ⟨⟨bl1 _ _, _, rfl, hI.1.size, _, _, _, Go.Deep.blk_alloc_new _ _⟩, fun _ => ⟨rfl, by simp⟩⟩⟩) .nil
        · refine .cons (fun f w' hI hs hne => ⟨wanted_none rfl, rfl, ?_⟩) .nil
          have h1 : Zr w' (f 32) (Int.tdiv an g * Int.tdiv bn h) := (hs 32 (by kernel_rfl))
          obtain ⟨T, e, hB, hz⟩ : ∃ T, f 9 = .pointer (some ⟨T, 0, none⟩) ∧ wc.heap.size ≤ T ∧ Rz T w' := (hs 9 (by kernel_rfl))
          obtain ⟨s1, x1, p1, n1, e1, _⟩ := id h1
          rw [e1] at h1
          exact .skip (rn_store29 rfl ((fr_own rfl rfl).trans e) ((fr_own rfl rfl).trans e1) hz) ⟨⟨⟨below3 hI.1 hB _ _ _, fun _ => ⟨T, e, Hz.stored hz h1⟩⟩, fun t v => (M3k t) hz⟩, by simp [World.setCell]⟩
        · intro f w' hI _
          obtain ⟨T, h1, h2⟩ := hI.2 (by decide)
          refine hK _ _ (Met.intro (hJ _ _ ?_))
          (repeat apply Exists.intro)
          refine ⟨?_, rfl⟩
          exact ⟨T, h1, h2, hI.1⟩
      case rest =>
        obtain ⟨T, rfl, hzN, kW⟩ := hcut
        have S := Lib.hid (S.out.keep kW)
        have HP := Lib.hid (HP.out.keep kW); have HQ := Lib.hid (HQ.out.keep kW)
        have HG := Lib.hid (HG.out.keep kW); have HH := Lib.hid (HH.out.keep kW)
        have HN := Lib.hid hzN
        clear hzN kW
        generalize hn : Int.tdiv an g * Int.tdiv bn h = n at *
        go_upto_region 4 with fail
        go_cut [] (fun we => Below w.heap.size w we ∧ Hq (w.heap.size + 1 + 1) n ((p / h) * (q / g)) we)
        case first =>
          rename_i J K' hJ hK
          refine wp_region_two M4D (M4t n p q g h) (fun w' => Below wc.heap.size wc w') 9 (fun _ _ we => Below w.heap.size w we ∧ Hq (w.heap.size + 1 + 1) n ((p / h) * (q / g)) we) (by kernel_rfl) (by kernel_rfl) (by kernel_rfl) (by kernel_rfl) (by decide) (by kernel_rfl) (fun _ _ h hb => Below.thru h h.size hb) (Below.refl _ _).drew ?_ ?_ ?_
          · refine .cons (fun f w' hI hs => ?_) ?_
            · obtain ⟨s, x, p', h1, h2⟩ := HN.out.keep hI
              exact ⟨wanted_none rfl, _, rfl, .val (rn_load29 rfl (fr_old rfl rfl) (hz3 h1)) ⟨Below.refl _ _, h2⟩⟩
            refine .cons (fun f w' hI hs => ?_) ?_
            · obtain ⟨x, p', h1, h2⟩ := HP.out.keep hI
              exact ⟨wanted_none rfl, _, rfl, .val (rn_load27 rfl (fr_old rfl rfl) h1) ⟨Below.refl _ _, h2⟩⟩
            refine .cons (fun f w' hI hs => ?_) ?_
            · obtain ⟨x, p', h1, h2⟩ := HH.out.keep hI
              exact ⟨wanted_none rfl, _, rfl, .val (rn_load27 rfl (fr_old rfl rfl) h1) ⟨Below.refl _ _, h2⟩⟩
            refine .cons (fun f w' hI hs => ⟨wanted_none rfl, _, rfl, .call2 rfl cf93 rfl rfl rfl rfl (PDg.kd (share_any _ _ p h _ (hs 34 (by kernel_rfl)) (hs 35 (by kernel_rfl)) (fun _ => over_all _ _ SP.out HPo.out)))⟩) ?_
            refine .cons (fun f w' hI hs => ?_) ?_
            · obtain ⟨x, p', h1, h2⟩ := HQ.out.keep hI
              exact ⟨wanted_none rfl, _, rfl, .val (rn_load27 rfl (fr_old rfl rfl) h1) ⟨Below.refl _ _, h2⟩⟩
            refine .cons (fun f w' hI hs => ?_) ?_
            · obtain ⟨x, p', h1, h2⟩ := HG.out.keep hI
              exact ⟨wanted_none rfl, _, rfl, .val (rn_load27 rfl (fr_old rfl rfl) h1) ⟨Below.refl _ _, h2⟩⟩
            refine .cons (fun f w' hI hs => ⟨wanted_none rfl, _, rfl, .call2 rfl cf93 rfl rfl rfl rfl (PDg.kd (share_any _ _ q g _ (hs 37 (by kernel_rfl)) (hs 38 (by kernel_rfl)) (fun _ => over_all _ _ SQ.out GP.out)))⟩) ?_
            refine .cons (fun f w' hI hs => ⟨wanted_none rfl, _, rfl, .call2 rfl cf56 rfl rfl rfl rfl (PDg.kd (times_any _ _ (p / h) (q / g) _ (hs 36 (by kernel_rfl)) (hs 39 (by kernel_rfl)) (SP.out.le (Nat.div_le_self _ _)) (SQ.out.le (Nat.div_le_self _ _))))⟩) ?_
            refine .cons (fun f w' hI hs => ⟨wanted_none rfl, _, rfl, .call2 rfl cf69 rfl rfl rfl rfl (PR.kd (lowest_any _ _ n ((p / h) * (q / g)) _ (hs 33 (by kernel_rfl)) (hs 40 (by kernel_rfl)) POS.out LOW.out))⟩) .nil
          · refine .cons (fun f w' hx => ⟨wanted_none rfl, ?_⟩) .nil
            obtain ⟨hI, hs⟩ := (if_pos rfl) ▸ hx
            have S := S.out.keep hI
            have h8 : Rr w' (f 41) n ((p / h) * (q / g)) := hs 41 (by kernel_rfl)
            obtain ⟨s8, x8, p8, y8, q8, e8⟩ := h8.agg
            rw [e8] at h8
            exact .skip (rn_store61 rfl (fr_old rfl rfl) ((fr_own rfl rfl).trans e8) S.t) ⟨below5 S.k (by omega) _ _ _ _ _, Hq.stored S.t h8⟩
          · intro f w' hx
            refine hK _ _ (Met.intro (hJ _ _ ?_))
            (repeat apply Exists.intro)
            refine ⟨?_, rfl⟩
            exact hx
        case rest =>
          obtain ⟨kf, s1, x1, y1, p1, q1, h1, h2⟩ := hcut
          have i1 := cell_blk (i := 0) h1
          have i2 := cell_blk (i := 1) h1
          have i3 := cell_blk (i := 2) h1
          have i4 := cell_blk (i := 3) h1
          have i5 := cell_blk (i := 4) h1
          have KF := Lib.hid kf
          have V := Lib.hid h2
          clear h1 h2 kf
          go_wp2
          exact bodyPost_ret (v := .agg #[.bool s1, .int .u64 x1, .pointer p1, .int .u64 y1, .pointer q1]) (by simp [results, Try.results71, go_sem, i1, i2, i3, i4, i5]) rfl ⟨KF.out, _, rfl, V.out⟩
end Go.Proofs.Ytjjomjjgoceklaa
namespace Go.Proofs.Ytjjomjjgoceklaa
open Go.RowKit

/-! V.Text, R.Sign -/
theorem cf41 : CF 41 := fun W args => by go_simp
theorem PTr.kd {n : Int} {d : Nat} {w : World} {g : FuncId} {args : Array Value} (h : Calls Try.prog g args w (PTr n d w)) : Calls Try.prog g args w fun e w' => ∃ v, e = .returned v ∧ (Below w.heap.size w w' ∧ Go.Proofs.Ytjjomjjgoceklaa.kd (.v (.string (txtR n d))) v w') :=
  h.mono fun _ _ ⟨hb, he⟩ => ⟨_, he, hb, rfl⟩
theorem rn_add9 {ρ : Operand → Value} {o : Oper} {w : World} {t c : Operand} {s u : ByteArray} (ho : o.op = .binOp .add 9 t c 9) (h1 : ρ t = .string s) (h2 : ρ c = .string u) (hs : s.size + u.size ≤ 9223372036854775807) : (execOp ρ o).run Try.prog w = .ok (.value (.string (s ++ u))) w := by
  unfold execOp; rw [ho]; simp [go_sem, h1, h2, hs]
theorem addsz {s u : ByteArray} {a b : Nat} (h1 : s.size ≤ a) (h2 : u.size ≤ b) (h : a + b ≤ 9223372036854775807) : s.size + u.size ≤ 9223372036854775807 := by omega
theorem catsz {s u : ByteArray} {a b : Nat} (h1 : s.size ≤ a) (h2 : u.size ≤ b) : (s ++ u).size ≤ a + b := by rw [ByteArray.size_append]; omega
theorem txtR_le {n : Int} {d : Nat} (h1 : nd n.natAbs ≤ 100000) (h2 : nd d ≤ 100000) : (txtR n d).size ≤ 300000 := by
  have g1 : (txtL n).length ≤ nd n.natAbs + 1 := txt_size n
  have g2 : (txtL (d : Int)).length ≤ nd d + 1 := txt_size (d : Int)
  unfold txtR
  split
  · have : (txt n).size = (txtL n).length := rfl
    omega
  · show (txtL n ++ 47 :: txtL (d : Int)).length ≤ 300000
    rw [List.length_append, List.length_cons]
    omega
def txtV (n : Int) (d : Nat) (m : Int) (e : Nat) : ByteArray := (⟨#[40]⟩ ++ txtR n d ++ ⟨#[44, 32]⟩ ++ txtR m e ++ ⟨#[41]⟩ : ByteArray)
structure S46 (w0 : World) (n m : Int) (d e : Nat) (w : World) : Prop where
  k : Below w0.heap.size w0 w
  x : Vq w0.heap.size 0 n d w
  z : Vq w0.heap.size 5 m e w
theorem S46.keep {w0 w w' : World} {n m : Int} {d e : Nat} (h : S46 w0 n m d e w) (hb : Below w.heap.size w w') : S46 w0 n m d e w' := ⟨Below.thru h.k h.k.size hb, h.x.keep hb, h.z.keep hb⟩
def D46 (t : Nat) : Bool := Nat.ble 2 t && Nat.ble t 12
def tab46 (S : Nat) (n m : Int) (d e : Nat) (t : Nat) : Kd := [.v (.string (txtV n d m e)), kp S 0, .q n d, .v (.string (txtR n d)), .v (.string (⟨#[40]⟩ ++ txtR n d : ByteArray)), .v (.string (⟨#[40]⟩ ++ txtR n d ++ ⟨#[44, 32]⟩ : ByteArray)), kp S 5, .q m e, .v (.string (txtR m e)), .v (.string (⟨#[40]⟩ ++ txtR n d ++ ⟨#[44, 32]⟩ ++ txtR m e : ByteArray)), .v (.string (txtV n d m e))].getD (t - 2) .any
set_option maxRecDepth 100000 in
set_option maxHeartbeats 800000 in
theorem vtext_any (a1 a6 : Bool) (a2 a4 a7 a9 : Int) (a3 a5 a8 a10 : Option Addr) (n m : Int) (d e : Nat) (w : World)
    (hx : Rr w (.agg #[.bool a1, .int .u64 a2, .pointer a3, .int .u64 a4, .pointer a5]) n d) (hz : Rr w (.agg #[.bool a6, .int .u64 a7, .pointer a8, .int .u64 a9, .pointer a10]) m e)
    (gn : GrC n.natAbs) (ln : nd n.natAbs ≤ 100000) (gd : GrC d) (ld : nd d ≤ 100000) (gm : GrC m.natAbs) (lm : nd m.natAbs ≤ 100000) (ge : GrC e) (le : nd e ≤ 100000) :
    Calls Try.prog 46 #[.agg #[.bool a1, .int .u64 a2, .pointer a3, .int .u64 a4, .pointer a5, .bool a6, .int .u64 a7, .pointer a8, .int .u64 a9, .pointer a10]] w (PSt (txtV n d m e) w) := by
  have S0 : S46 w n m d e (w.alloc (.cells #[.bool a1, .int .u64 a2, .pointer a3, .int .u64 a4, .pointer a5, .bool a6, .int .u64 a7, .pointer a8, .int .u64 a9, .pointer a10] 71)) := by
    have hA := Go.Deep.blk_alloc_new w (.cells #[.bool a1, .int .u64 a2, .pointer a3, .int .u64 a4, .pointer a5, .bool a6, .int .u64 a7, .pointer a8, .int .u64 a9, .pointer a10] 71)
    have kp := bl1 w (.cells #[.bool a1, .int .u64 a2, .pointer a3, .int .u64 a4, .pointer a5, .bool a6, .int .u64 a7, .pointer a8, .int .u64 a9, .pointer a10] 71)
    exact ⟨kp, ⟨_, _, _, _, _, ⟨_, _, hA, fun i hi => by rcases i with _ | _ | _ | _ | _ | i <;> first | rfl | omega⟩, hx.keep kp (Nat.le_refl _)⟩, ⟨_, _, _, _, _, ⟨_, _, hA, fun i hi => by rcases i with _ | _ | _ | _ | _ | i <;> first | rfl | omega⟩, hz.keep kp (Nat.le_refl _)⟩⟩
  have S0 := Lib.hid S0
  have BN := Lib.hid (txtR_le ln ld); have BM := Lib.hid (txtR_le lm le)
  have GN := Lib.hid gn; have LN := Lib.hid ln; have GD := Lib.hid gd; have LD := Lib.hid ld; have GM := Lib.hid gm; have LM := Lib.hid lm; have GE := Lib.hid ge; have LE := Lib.hid le
  clear hx hz gn ln gd ld gm lm ge le
  go_enter Try.func46, Try.ntmps46
  go_wp2_with fail
  go_cut [2] (fun v wc => v = .string (txtV n d m e) ∧ Below w.heap.size w wc)
  case first =>
    rename_i J K' hJ hK
    refine wp_region_kd D46 (tab46 w.heap.size n m d e) (S46 w n m d e) (by kernel_rfl) (by kernel_rfl) (by kernel_rfl) (by kernel_rfl) (fun _ _ h hb => h.keep hb) (S0.out.keep (Below.refl _ _).drew) ?_ ?_
    · refine .cons (fun f w' hI hs => ⟨wanted_none rfl, _, rfl, .val (rn_field71_0 rfl (fr_old rfl rfl)) ⟨Below.refl _ _, rfl⟩⟩) ?_
      refine .cons (fun f w' hI hs => ?_) ?_
      · obtain ⟨s, x, p, y, q, h1, h2⟩ := hI.x
        exact ⟨wanted_none rfl, _, rfl, .val (rn_load61c rfl ((fr_own rfl rfl).trans (hs 3 (by kernel_rfl))) h1) ⟨Below.refl _ _, h2⟩⟩
      refine .cons (fun f w' hI hs => ⟨wanted_none rfl, _, rfl, .call1 rfl cf41 rfl rfl (PTr.kd (rtext_any _ n d _ (hs 4 (by kernel_rfl)) GN.out LN.out GD.out LD.out))⟩) ?_
      refine .cons (fun f w' hI hs => ⟨wanted_none rfl, _, rfl, .val (rn_add9 rfl rfl ((fr_own rfl rfl).trans (hs 5 (by kernel_rfl))) (addsz (a := 1) (by decide) BN.out (by decide))) ⟨Below.refl _ _, rfl⟩⟩) ?_
      refine .cons (fun f w' hI hs => ⟨wanted_none rfl, _, rfl, .val (rn_add9 rfl ((fr_own rfl rfl).trans (hs 6 (by kernel_rfl))) rfl (addsz (b := 2) (catsz (a := 1) (by decide) BN.out) (by decide) (by decide))) ⟨Below.refl _ _, rfl⟩⟩) ?_
      refine .cons (fun f w' hI hs => ⟨wanted_none rfl, _, rfl, .val (rn_field71_1 rfl (fr_old rfl rfl)) ⟨Below.refl _ _, rfl⟩⟩) ?_
      refine .cons (fun f w' hI hs => ?_) ?_
      · obtain ⟨s, x, p, y, q, h1, h2⟩ := hI.z
        exact ⟨wanted_none rfl, _, rfl, .val (rn_load61c rfl ((fr_own rfl rfl).trans (hs 8 (by kernel_rfl))) h1) ⟨Below.refl _ _, h2⟩⟩
      refine .cons (fun f w' hI hs => ⟨wanted_none rfl, _, rfl, .call1 rfl cf41 rfl rfl (PTr.kd (rtext_any _ m e _ (hs 9 (by kernel_rfl)) GM.out LM.out GE.out LE.out))⟩) ?_
      refine .cons (fun f w' hI hs => ⟨wanted_none rfl, _, rfl, .val (rn_add9 rfl ((fr_own rfl rfl).trans (hs 7 (by kernel_rfl))) ((fr_own rfl rfl).trans (hs 10 (by kernel_rfl))) (addsz (catsz (b := 2) (catsz (a := 1) (by decide) BN.out) (by decide)) BM.out (by decide))) ⟨Below.refl _ _, rfl⟩⟩) ?_
      refine .cons (fun f w' hI hs => ⟨wanted_none rfl, _, rfl, .val (rn_add9 rfl ((fr_own rfl rfl).trans (hs 11 (by kernel_rfl))) rfl (addsz (b := 1) (catsz (catsz (b := 2) (catsz (a := 1) (by decide) BN.out) (by decide)) BM.out) (by decide) (by decide))) ⟨Below.refl _ _, rfl⟩⟩) ?_
      refine .cons (fun f w' hI hs => ⟨wanted_none rfl, _, rfl, .val (rn_assign rfl) ⟨Below.refl _ _, ((fr_own rfl rfl).trans (hs 12 (by kernel_rfl)))⟩⟩) .nil
    · intro f w' hI hk
      have h2 : f 2 = .string (txtV n d m e) := hk 2 (by kernel_rfl)
      refine hK _ _ (Met.intro (hJ _ _ ?_))
      (repeat apply Exists.intro)
      refine ⟨?_, rfl⟩
      exact ⟨h2, hI.k⟩
  case rest =>
    obtain ⟨rfl, kf⟩ := hcut
    go_wp2
    go_ret
    exact ⟨kf, rfl⟩
theorem rsign_any (v : Value) (n : Int) (d : Nat) (w : World) (h : Rr w v n d) : Calls Try.prog 34 #[v] w fun e w' => Below w.heap.size w w' ∧ e = .returned (.int .i64 n.sign) := by
  obtain ⟨s, x, p, y, q, rfl⟩ := h.agg
  have HR := Lib.hid ((h.keep (bl1 w (.cells #[.bool s, .int .u64 x, .pointer p, .int .u64 y, .pointer q] 61)) (Nat.le_refl _)).num)
  clear h
  go_enter Try.func34, Try.ntmps34
  go_wp2_with fail
  refine (sign_any _ n _ HR.out).mono ?_
  rintro e w1 ⟨hb1, rfl⟩
  have k1 := Below.thru (bl1 w _) (by simp) hb1
  go_wp2
  go_ret
  exact ⟨k1, rfl⟩
end Go.Proofs.Ytjjomjjgoceklaa
namespace Go.Proofs.Ytjjomjjgoceklaa
open Go.RowKit

/-! the texts of WholeNames -/
theorem nNat_empty {s : ByteArray} (h : s.size = 0) : ¬ NatP s := fun h' => by
  rcases h'.2 with h2 | h2
  · rw [toList_nil.2 h] at h2; cases h2
  · omega
theorem nNat_at {s : ByteArray} (j : Nat) (hj : j < s.size) (hb : byteAt s j < 48 ∨ 57 < byteAt s j) : ¬ NatP s := fun h => by have := h.1 j hj; omega
theorem nNat_zero {s : ByteArray} (h1 : 1 < s.size) (h0 : byteAt s 0 = 48) : ¬ NatP s := fun h => by
  rcases h.2 with h2 | h2
  · rw [ByteArray.toList_eq] at h2
    have h3 : s.data.size = 1 := by rw [← Array.length_toList, h2]; rfl
    have h4 : s.size = s.data.size := rfl
    omega
  · exact h2.2 h0
theorem exSize (s : ByteArray) (a b n : Nat) (hb : b ≤ s.size) (h : b - a = n) : (s.extract a b).size = n := by rw [extract_size s a b hb, h]
theorem exAt (s : ByteArray) (a b j x : Nat) (hb : b ≤ s.size) (hj : a + j < b) (h : byteAt s (a + j) = x) : byteAt (s.extract a b) j = x := by rw [byteAt_extract s a b j hb hj, h]
theorem ltS {s : ByteArray} {n m : Nat} (h : s.size = n) (h2 : m < n) : m < s.size := by omega
theorem leS {s : ByteArray} {n m : Nat} (h : s.size = n) (h2 : n ≤ m) : s.size ≤ m := by omega
theorem atB {s : ByteArray} {j x : Nat} (h : byteAt s j = x) (h2 : x < 48 ∨ 57 < x) : byteAt s j < 48 ∨ 57 < byteAt s j := by omega
theorem atLo {s : ByteArray} {j x : Nat} (h : byteAt s j = x) (h2 : 49 ≤ x) : 49 ≤ byteAt s j := by omega
theorem atHi {s : ByteArray} {j x : Nat} (h : byteAt s j = x) (h2 : x ≤ 57) : byteAt s j ≤ 57 := by omega
theorem dec1 {s : ByteArray} {x n : Nat} (h : s.size = 1) (h1 : byteAt s 0 = x) (hn : x - 48 = n) : dec s s.size = n := by
  rw [h]; simp only [dec]; omega
theorem ex1S {s : ByteArray} (h : s.size = 2) : (s.extract 1 s.size).size = 1 := exSize s 1 s.size 1 (Nat.le_refl _) (by omega)
theorem ex1A {s : ByteArray} {x : Nat} (h : s.size = 2) (h1 : byteAt s 1 = x) : byteAt (s.extract 1 s.size) 0 = x := exAt s 1 s.size 0 x (Nat.le_refl _) (by omega) h1
theorem nmR0 (w : World) : Calls Try.prog 63 #[.string ⟨#[]⟩] w (PZe 0 4 w) := readZ_empty _ w rfl
theorem nmR1 (w : World) : Calls Try.prog 63 #[.string ⟨#[45]⟩] w (PZe 0 4 w) := readZ_minus_bad _ w (by decide) (by decide) (by decide) (nNat_empty (exSize (⟨#[45]⟩ : ByteArray) 1 1 0 (by decide) (by decide)))
theorem nmR2 (w : World) : Calls Try.prog 63 #[.string ⟨#[48, 48, 55]⟩] w (PZe 0 4 w) := readZ_bad _ w (by decide) (by decide) (by decide) (nNat_zero (by decide) (by decide))
theorem nmR3 (w : World) : Calls Try.prog 63 #[.string ⟨#[43, 49]⟩] w (PZe 0 4 w) := readZ_bad _ w (by decide) (by decide) (by decide) (nNat_at 0 (by decide) (by decide))
theorem nmR4 (w : World) : Calls Try.prog 63 #[.string ⟨#[49, 46, 53]⟩] w (PZe 0 4 w) := readZ_bad _ w (by decide) (by decide) (by decide) (nNat_at 1 (by decide) (by decide))
theorem nmR5 (w : World) : Calls Try.prog 63 #[.string ⟨#[45, 45, 49]⟩] w (PZe 0 4 w) := readZ_minus_bad _ w (by decide) (by decide) (by decide) (nNat_at 0 (ltS (exSize (⟨#[45, 45, 49]⟩ : ByteArray) 1 3 2 (by decide) (by decide)) (by decide)) (atB (exAt (⟨#[45, 45, 49]⟩ : ByteArray) 1 3 0 45 (by decide) (by decide) (by decide)) (by decide)))
theorem nmR6 (w : World) : Calls Try.prog 63 #[.string ⟨#[32, 49]⟩] w (PZe 0 4 w) := readZ_bad _ w (by decide) (by decide) (by decide) (nNat_at 0 (by decide) (by decide))
theorem nmR7 (w : World) : Calls Try.prog 63 #[.string ⟨#[49, 32]⟩] w (PZe 0 4 w) := readZ_bad _ w (by decide) (by decide) (by decide) (nNat_at 1 (by decide) (by decide))
theorem nmR8 (w : World) : Calls Try.prog 63 #[.string ⟨#[48, 120, 49]⟩] w (PZe 0 4 w) := readZ_bad _ w (by decide) (by decide) (by decide) (nNat_at 1 (by decide) (by decide))
theorem nmR9 (w : World) : Calls Try.prog 63 #[.string ⟨#[45, 48, 49]⟩] w (PZe 0 4 w) := readZ_minus_bad _ w (by decide) (by decide) (by decide) (nNat_zero (ltS (exSize (⟨#[45, 48, 49]⟩ : ByteArray) 1 3 2 (by decide) (by decide)) (by decide)) (exAt (⟨#[45, 48, 49]⟩ : ByteArray) 1 3 0 48 (by decide) (by decide) (by decide)))
/-- the texts that are no numbers -/
def nmT : Nat → ByteArray
  | 0 => ⟨#[]⟩
  | 1 => ⟨#[45]⟩
  | 2 => ⟨#[48, 48, 55]⟩
  | 3 => ⟨#[43, 49]⟩
  | 4 => ⟨#[49, 46, 53]⟩
  | 5 => ⟨#[45, 45, 49]⟩
  | 6 => ⟨#[32, 49]⟩
  | 7 => ⟨#[49, 32]⟩
  | 8 => ⟨#[48, 120, 49]⟩
  | _ => ⟨#[45, 48, 49]⟩
theorem nmZ : ∀ k, k < 10 → ∀ w : World, Calls Try.prog 32 #[.string (nmT k)] w (PZe 0 4 w)
  | 0, _ => fun w => parseZ_any ⟨#[]⟩ 0 4 w (by decide) nmR0
  | 1, _ => fun w => parseZ_any ⟨#[45]⟩ 0 4 w (by decide) nmR1
  | 2, _ => fun w => parseZ_any ⟨#[48, 48, 55]⟩ 0 4 w (by decide) nmR2
  | 3, _ => fun w => parseZ_any ⟨#[43, 49]⟩ 0 4 w (by decide) nmR3
  | 4, _ => fun w => parseZ_any ⟨#[49, 46, 53]⟩ 0 4 w (by decide) nmR4
  | 5, _ => fun w => parseZ_any ⟨#[45, 45, 49]⟩ 0 4 w (by decide) nmR5
  | 6, _ => fun w => parseZ_any ⟨#[32, 49]⟩ 0 4 w (by decide) nmR6
  | 7, _ => fun w => parseZ_any ⟨#[49, 32]⟩ 0 4 w (by decide) nmR7
  | 8, _ => fun w => parseZ_any ⟨#[48, 120, 49]⟩ 0 4 w (by decide) nmR8
  | 9, _ => fun w => parseZ_any ⟨#[45, 48, 49]⟩ 0 4 w (by decide) nmR9
  | k + 10, h => by omega
theorem nmP : ∀ k, k < 10 → ∀ w : World, Calls Try.prog 33 #[.string (nmT k)] w (PRe 0 1 4 w)
  | 0, _ => fun w => parse_front ⟨#[]⟩ ⟨#[]⟩ ⟨#[]⟩ false 4 w (by decide) (by decide) (fun W => cut_none _ 47 W (by decide)) nmR0
  | 1, _ => fun w => parse_front ⟨#[45]⟩ ⟨#[45]⟩ ⟨#[]⟩ false 4 w (by decide) (by decide) (fun W => cut_none _ 47 W (by decide)) nmR1
  | 2, _ => fun w => parse_front ⟨#[48, 48, 55]⟩ ⟨#[48, 48, 55]⟩ ⟨#[]⟩ false 4 w (by decide) (by decide) (fun W => cut_none _ 47 W (by decide)) nmR2
  | 3, _ => fun w => parse_front ⟨#[43, 49]⟩ ⟨#[43, 49]⟩ ⟨#[]⟩ false 4 w (by decide) (by decide) (fun W => cut_none _ 47 W (by decide)) nmR3
  | 4, _ => fun w => parse_front ⟨#[49, 46, 53]⟩ ⟨#[49, 46, 53]⟩ ⟨#[]⟩ false 4 w (by decide) (by decide) (fun W => cut_none _ 47 W (by decide)) nmR4
  | 5, _ => fun w => parse_front ⟨#[45, 45, 49]⟩ ⟨#[45, 45, 49]⟩ ⟨#[]⟩ false 4 w (by decide) (by decide) (fun W => cut_none _ 47 W (by decide)) nmR5
  | 6, _ => fun w => parse_front ⟨#[32, 49]⟩ ⟨#[32, 49]⟩ ⟨#[]⟩ false 4 w (by decide) (by decide) (fun W => cut_none _ 47 W (by decide)) nmR6
  | 7, _ => fun w => parse_front ⟨#[49, 32]⟩ ⟨#[49, 32]⟩ ⟨#[]⟩ false 4 w (by decide) (by decide) (fun W => cut_none _ 47 W (by decide)) nmR7
  | 8, _ => fun w => parse_front ⟨#[48, 120, 49]⟩ ⟨#[48, 120, 49]⟩ ⟨#[]⟩ false 4 w (by decide) (by decide) (fun W => cut_none _ 47 W (by decide)) nmR8
  | 9, _ => fun w => parse_front ⟨#[45, 48, 49]⟩ ⟨#[45, 48, 49]⟩ ⟨#[]⟩ false 4 w (by decide) (by decide) (fun W => cut_none _ 47 W (by decide)) nmR9
  | k + 10, h => by omega
theorem natP_dig {s : ByteArray} (n : Nat) (h : s.size = n) (h0 : 0 < n) (h1 : byteAt s 0 ≠ 48) (hd : ∀ j, j < n → 48 ≤ byteAt s j ∧ byteAt s j ≤ 57) : NatP s := ⟨fun j hj => hd j (by omega), .inr ⟨by omega, h1⟩⟩
theorem natP_nul {s : ByteArray} (h : s.size = 1) (h1 : byteAt s 0 = 48) : NatP s := by
  refine ⟨fun j hj => by obtain rfl : j = 0 := by omega
                         omega, .inl ?_⟩
  rw [ByteArray.toList_eq]
  have h2 : s.data.toList.length = 1 := h
  obtain ⟨a, ha⟩ := List.length_eq_one_iff.1 h2
  unfold byteAt at h1
  rw [ha] at h1 ⊢
  simp only [List.getD_cons_zero] at h1
  rw [show a = 48 from by apply UInt8.toNat_inj.1; exact h1]
theorem nm_one (W : World) : ∀ s : ByteArray, s.size = 1 → byteAt s 0 = 49 → Calls Try.prog 63 #[.string s] W (PZe 1 0 W) := fun s h1 h2 => by
  have h := readZ_pos s W (by omega) (by omega) (by omega) (natP_one s h1 (by omega) (by omega))
  rw [show (dec s s.size : Int) = 1 by rw [h1]; simp [dec, h2]] at h
  exact h
/-- the texts that are no ratios -/
def nmU : Nat → ByteArray
  | 0 => ⟨#[49, 47, 45, 50]⟩
  | 1 => ⟨#[49, 47]⟩
  | 2 => ⟨#[47, 50]⟩
  | 3 => ⟨#[49, 47, 48, 50]⟩
  | 4 => ⟨#[49, 47, 50, 47, 51]⟩
  | _ => ⟨#[49, 47, 43, 50]⟩
theorem nmQ : ∀ k, k < 6 → ∀ w : World, Calls Try.prog 33 #[.string (nmU k)] w (PRe 0 1 4 w)
  | 0, _ => fun w => parse_back (⟨#[49, 47, 45, 50]⟩ : ByteArray) _ _ 1 w (by decide) (leS (exSize (⟨#[49, 47, 45, 50]⟩ : ByteArray) 2 4 2 (by decide) (by decide)) (by decide)) (nNat_at 0 (ltS (exSize (⟨#[49, 47, 45, 50]⟩ : ByteArray) 2 4 2 (by decide) (by decide)) (by decide)) (atB (exAt (⟨#[49, 47, 45, 50]⟩ : ByteArray) 2 4 0 45 (by decide) (by decide) (by decide)) (by decide))) (fun W => cut_one (⟨#[49, 47, 45, 50]⟩ : ByteArray) 47 1 W (by decide) (by decide) (by decide)) (fun W => nm_one W _ (exSize (⟨#[49, 47, 45, 50]⟩ : ByteArray) 0 1 1 (by decide) (by decide)) (exAt (⟨#[49, 47, 45, 50]⟩ : ByteArray) 0 1 0 49 (by decide) (by decide) (by decide)))
  | 1, _ => fun w => parse_back (⟨#[49, 47]⟩ : ByteArray) _ _ 1 w (by decide) (leS (exSize (⟨#[49, 47]⟩ : ByteArray) 2 2 0 (by decide) (by decide)) (by decide)) (nNat_empty (exSize (⟨#[49, 47]⟩ : ByteArray) 2 2 0 (by decide) (by decide))) (fun W => cut_one (⟨#[49, 47]⟩ : ByteArray) 47 1 W (by decide) (by decide) (by decide)) (fun W => nm_one W _ (exSize (⟨#[49, 47]⟩ : ByteArray) 0 1 1 (by decide) (by decide)) (exAt (⟨#[49, 47]⟩ : ByteArray) 0 1 0 49 (by decide) (by decide) (by decide)))
  | 2, _ => fun w => parse_front (⟨#[47, 50]⟩ : ByteArray) _ _ true 4 w (by decide) (by decide) (fun W => cut_one (⟨#[47, 50]⟩ : ByteArray) 47 0 W (by decide) (by decide) (by decide)) (fun W => readZ_empty _ W (exSize (⟨#[47, 50]⟩ : ByteArray) 0 0 0 (by decide) (by decide)))
  | 3, _ => fun w => parse_back (⟨#[49, 47, 48, 50]⟩ : ByteArray) _ _ 1 w (by decide) (leS (exSize (⟨#[49, 47, 48, 50]⟩ : ByteArray) 2 4 2 (by decide) (by decide)) (by decide)) (nNat_zero (ltS (exSize (⟨#[49, 47, 48, 50]⟩ : ByteArray) 2 4 2 (by decide) (by decide)) (by decide)) (exAt (⟨#[49, 47, 48, 50]⟩ : ByteArray) 2 4 0 48 (by decide) (by decide) (by decide))) (fun W => cut_one (⟨#[49, 47, 48, 50]⟩ : ByteArray) 47 1 W (by decide) (by decide) (by decide)) (fun W => nm_one W _ (exSize (⟨#[49, 47, 48, 50]⟩ : ByteArray) 0 1 1 (by decide) (by decide)) (exAt (⟨#[49, 47, 48, 50]⟩ : ByteArray) 0 1 0 49 (by decide) (by decide) (by decide)))
  | 4, _ => fun w => parse_back (⟨#[49, 47, 50, 47, 51]⟩ : ByteArray) _ _ 1 w (by decide) (leS (exSize (⟨#[49, 47, 50, 47, 51]⟩ : ByteArray) 2 5 3 (by decide) (by decide)) (by decide)) (nNat_at 1 (ltS (exSize (⟨#[49, 47, 50, 47, 51]⟩ : ByteArray) 2 5 3 (by decide) (by decide)) (by decide)) (atB (exAt (⟨#[49, 47, 50, 47, 51]⟩ : ByteArray) 2 5 1 47 (by decide) (by decide) (by decide)) (by decide))) (fun W => cut_one (⟨#[49, 47, 50, 47, 51]⟩ : ByteArray) 47 1 W (by decide) (by decide) (by decide)) (fun W => nm_one W _ (exSize (⟨#[49, 47, 50, 47, 51]⟩ : ByteArray) 0 1 1 (by decide) (by decide)) (exAt (⟨#[49, 47, 50, 47, 51]⟩ : ByteArray) 0 1 0 49 (by decide) (by decide) (by decide)))
  | 5, _ => fun w => parse_back (⟨#[49, 47, 43, 50]⟩ : ByteArray) _ _ 1 w (by decide) (leS (exSize (⟨#[49, 47, 43, 50]⟩ : ByteArray) 2 4 2 (by decide) (by decide)) (by decide)) (nNat_at 0 (ltS (exSize (⟨#[49, 47, 43, 50]⟩ : ByteArray) 2 4 2 (by decide) (by decide)) (by decide)) (atB (exAt (⟨#[49, 47, 43, 50]⟩ : ByteArray) 2 4 0 43 (by decide) (by decide) (by decide)) (by decide))) (fun W => cut_one (⟨#[49, 47, 43, 50]⟩ : ByteArray) 47 1 W (by decide) (by decide) (by decide)) (fun W => nm_one W _ (exSize (⟨#[49, 47, 43, 50]⟩ : ByteArray) 0 1 1 (by decide) (by decide)) (exAt (⟨#[49, 47, 43, 50]⟩ : ByteArray) 0 1 0 49 (by decide) (by decide) (by decide)))
  | k + 6, h => by omega
theorem nm10 (w : World) : Calls Try.prog 33 #[.string ⟨#[49, 47, 48]⟩] w (PRe 0 1 9 w) :=
  parse_slash (⟨#[49, 47, 48]⟩ : ByteArray) _ _ 1 0 9 0 1 w (by decide) (fun W => cut_one (⟨#[49, 47, 48]⟩ : ByteArray) 47 1 W (by decide) (by decide) (by decide)) (fun W => nm_one W _ (exSize (⟨#[49, 47, 48]⟩ : ByteArray) 0 1 1 (by decide) (by decide)) (exAt (⟨#[49, 47, 48]⟩ : ByteArray) 0 1 0 49 (by decide) (by decide) (by decide))) (leS (exSize (⟨#[49, 47, 48]⟩ : ByteArray) 2 3 1 (by decide) (by decide)) (by decide)) (natP_nul (exSize (⟨#[49, 47, 48]⟩ : ByteArray) 2 3 1 (by decide) (by decide)) (exAt (⟨#[49, 47, 48]⟩ : ByteArray) 2 3 0 48 (by decide) (by decide) (by decide)))
    (dec1 (exSize (⟨#[49, 47, 48]⟩ : ByteArray) 2 3 1 (by decide) (by decide)) (exAt (⟨#[49, 47, 48]⟩ : ByteArray) 2 3 0 48 (by decide) (by decide) (by decide)) (by decide)) (fun W v1 v2 h1 h2 => ofZ_zero v1 v2 1 W h1 h2)
theorem nm_ratio (w : World) : Calls Try.prog 35 #[.int .i64 1, .int .i64 0] w (PRe 0 1 9 w) := ratio_any 1 0 0 9 1 w (by unfold I64; omega) (by unfold I64; omega) fun W v1 v2 h1 h2 => ofZ_zero v1 v2 1 W h1 h2
theorem nm_minus (s : ByteArray) (n : Nat) (b : Nat) (w : World) (h : s.size = 2) (h0 : byteAt s 0 = 45) (h1 : byteAt s 1 = b) (hb : NatP (s.extract 1 s.size)) (hn : b - 48 = n) : Calls Try.prog 63 #[.string s] w (PZe (-(n : Int)) 0 w) := by
  have hh := readZ_minus s w (by omega) (by omega) h0 hb
  rw [show dec (s.extract 1 s.size) (s.extract 1 s.size).size = n by
    rw [h, exSize s 1 2 1 (by omega) (by omega)]; simp only [dec]; rw [exAt s 1 2 0 b (by omega) (by omega) h1]; omega] at hh
  exact hh
theorem nmZ0 (w : World) : Calls Try.prog 38 #[.string ⟨#[45, 48]⟩] w (PZ 0 w) := z_any _ 0 0 w fun W => parseZ_any _ 0 0 W (by decide) fun W => nm_minus (⟨#[45, 48]⟩ : ByteArray) 0 48 W rfl (by decide) (by decide) (natP_nul (exSize (⟨#[45, 48]⟩ : ByteArray) 1 2 1 (by decide) (by decide)) (exAt (⟨#[45, 48]⟩ : ByteArray) 1 2 0 48 (by decide) (by decide) (by decide))) (by decide)
theorem nmR07 (w : World) : Calls Try.prog 40 #[.string ⟨#[45, 48, 47, 55]⟩] w (PR (0) 1 w) := r_any _ (0) 1 0 w fun W =>
  parse_slash (⟨#[45, 48, 47, 55]⟩ : ByteArray) _ _ (-(0 : Nat)) (0) 0 7 1 W (by decide) (fun W => cut_one (⟨#[45, 48, 47, 55]⟩ : ByteArray) 47 2 W (by decide) (by decide) (by decide)) (fun W => nm_minus ((⟨#[45, 48, 47, 55]⟩ : ByteArray).extract 0 2) 0 48 W (exSize (⟨#[45, 48, 47, 55]⟩ : ByteArray) 0 2 2 (by decide) (by decide)) (exAt (⟨#[45, 48, 47, 55]⟩ : ByteArray) 0 2 0 45 (by decide) (by decide) (by decide)) (exAt (⟨#[45, 48, 47, 55]⟩ : ByteArray) 0 2 1 48 (by decide) (by decide) (by decide)) (natP_nul (ex1S (exSize (⟨#[45, 48, 47, 55]⟩ : ByteArray) 0 2 2 (by decide) (by decide))) (ex1A (exSize (⟨#[45, 48, 47, 55]⟩ : ByteArray) 0 2 2 (by decide) (by decide)) (exAt (⟨#[45, 48, 47, 55]⟩ : ByteArray) 0 2 1 48 (by decide) (by decide) (by decide)))) (by decide)) (leS (exSize (⟨#[45, 48, 47, 55]⟩ : ByteArray) 3 4 1 (by decide) (by decide)) (by decide)) (natP_one _ (exSize (⟨#[45, 48, 47, 55]⟩ : ByteArray) 3 4 1 (by decide) (by decide)) (atLo (exAt (⟨#[45, 48, 47, 55]⟩ : ByteArray) 3 4 0 55 (by decide) (by decide) (by decide)) (by decide)) (atHi (exAt (⟨#[45, 48, 47, 55]⟩ : ByteArray) 3 4 0 55 (by decide) (by decide) (by decide)) (by decide)))
    (dec1 (exSize (⟨#[45, 48, 47, 55]⟩ : ByteArray) 3 4 1 (by decide) (by decide)) (exAt (⟨#[45, 48, 47, 55]⟩ : ByteArray) 3 4 0 55 (by decide) (by decide) (by decide)) (by decide)) fun W v1 v2 h1 h2 => by
      have h := ofZ_pos v1 v2 (-(0 : Nat)) 7 W h1 h2 (by decide)
      have hr := ratC_small 0 7 (wd_lit _ (by decide)) (wd_lit _ (by decide)) (by decide)
      exact h hr.1 hr.2.1 hr.2.2
theorem nmR72 (w : World) : Calls Try.prog 40 #[.string ⟨#[45, 55, 47, 50]⟩] w (PR (-7) 2 w) := r_any _ (-7) 2 0 w fun W =>
  parse_slash (⟨#[45, 55, 47, 50]⟩ : ByteArray) _ _ (-(7 : Nat)) (-7) 0 2 2 W (by decide) (fun W => cut_one (⟨#[45, 55, 47, 50]⟩ : ByteArray) 47 2 W (by decide) (by decide) (by decide)) (fun W => nm_minus ((⟨#[45, 55, 47, 50]⟩ : ByteArray).extract 0 2) 7 55 W (exSize (⟨#[45, 55, 47, 50]⟩ : ByteArray) 0 2 2 (by decide) (by decide)) (exAt (⟨#[45, 55, 47, 50]⟩ : ByteArray) 0 2 0 45 (by decide) (by decide) (by decide)) (exAt (⟨#[45, 55, 47, 50]⟩ : ByteArray) 0 2 1 55 (by decide) (by decide) (by decide)) (natP_one _ (ex1S (exSize (⟨#[45, 55, 47, 50]⟩ : ByteArray) 0 2 2 (by decide) (by decide))) (atLo (ex1A (exSize (⟨#[45, 55, 47, 50]⟩ : ByteArray) 0 2 2 (by decide) (by decide)) (exAt (⟨#[45, 55, 47, 50]⟩ : ByteArray) 0 2 1 55 (by decide) (by decide) (by decide))) (by decide)) (atHi (ex1A (exSize (⟨#[45, 55, 47, 50]⟩ : ByteArray) 0 2 2 (by decide) (by decide)) (exAt (⟨#[45, 55, 47, 50]⟩ : ByteArray) 0 2 1 55 (by decide) (by decide) (by decide))) (by decide))) (by decide)) (leS (exSize (⟨#[45, 55, 47, 50]⟩ : ByteArray) 3 4 1 (by decide) (by decide)) (by decide)) (natP_one _ (exSize (⟨#[45, 55, 47, 50]⟩ : ByteArray) 3 4 1 (by decide) (by decide)) (atLo (exAt (⟨#[45, 55, 47, 50]⟩ : ByteArray) 3 4 0 50 (by decide) (by decide) (by decide)) (by decide)) (atHi (exAt (⟨#[45, 55, 47, 50]⟩ : ByteArray) 3 4 0 50 (by decide) (by decide) (by decide)) (by decide)))
    (dec1 (exSize (⟨#[45, 55, 47, 50]⟩ : ByteArray) 3 4 1 (by decide) (by decide)) (exAt (⟨#[45, 55, 47, 50]⟩ : ByteArray) 3 4 0 50 (by decide) (by decide) (by decide)) (by decide)) fun W v1 v2 h1 h2 => by
      have h := ofZ_pos v1 v2 (-(7 : Nat)) 2 W h1 h2 (by decide)
      have hr := ratC_small 7 2 (wd_lit _ (by decide)) (wd_lit _ (by decide)) (by decide)
      exact h hr.1 hr.2.1 hr.2.2
theorem nmZ9 (w : World) : Calls Try.prog 38 #[.string ⟨#[57, 57, 57, 57, 57, 57, 57, 57, 54, 55]⟩] w (PZ 9999999967 w) := z_any _ 9999999967 0 w fun W => parseZ_any _ 9999999967 0 W (by decide) fun W => by
  have h := readZ_pos (⟨#[57, 57, 57, 57, 57, 57, 57, 57, 54, 55]⟩ : ByteArray) W (by decide) (by decide) (by decide) (natP_dig 10 rfl (by decide) (by decide) (by decide))
  rw [show (dec (⟨#[57, 57, 57, 57, 57, 57, 57, 57, 54, 55]⟩ : ByteArray) (⟨#[57, 57, 57, 57, 57, 57, 57, 57, 54, 55]⟩ : ByteArray).size : Int) = 9999999967 by decide] at h
  exact h
end Go.Proofs.Ytjjomjjgoceklaa
namespace Go.Proofs.Ytjjomjjgoceklaa
open Go.RowKit

section
variable {P : Program} {ops : Array Oper} {Q : Exit → Act → World → Prop}
/-- the same, and the operations at the end may write slots too -/
theorem wp_region_alg {id : Nat} {a0 : Act} {w : World} (D : Nat → Bool) (tab : Nat → Kd) (al : Nat → Bool) (m : Nat) (I : Nat → (Nat → Value) → World → Prop) (hm : P.follows .mixedOrders = true) (hback : backB .any ops = true) (hu : uniqB ops = true) (hch : tailB ops m = true) (hms : m ≤ ops.size)
    (hD : (ops.toList.filterMap (·.dst)).all D = true) (hI : ∀ i f f' w w', I i f w → Below w.heap.size w w' → (i = m ∨ ∀ d, al d = true → f' d = f d) → I i f' w') (ham : alB ops al m = true) (h0 : ∀ f, I m f { w with drawn := w.drawn + 1 })
    (hstep : AllFrom (fun i o => ∀ s f w, (∀ j, m ≤ j → j < s → (edgesOf ops j).contains i = false) → I s f w → (∀ d, (predD ops i).contains d = true → kd (tab d) (f d) w) →
      Region.wanted o (yielded ops (fr a0 D f).tmps) = true ∧ ∃ d, o.dst = some d ∧ OpR P o (fr a0 D f) w fun v w' => (Below w.heap.size w w' ∧ kd (tab d) v w') ∧ (al d = true → v = .pointer (some ⟨w.heap.size, 0, none⟩) ∧ w.heap.size < w'.heap.size)) 0 (ops.toList.take m))
    (htail : AllFrom (fun i o => ∀ f w, I i f w → (∀ d, (predD ops i).contains d = true → kd (tab d) (f d) w) → (∀ d d', (predD ops i).contains d = true → (predD ops i).contains d' = true → al d = true → al d' = true → d ≠ d' → f d ≠ f d') →
      Region.wanted o (yielded ops (fr a0 D f).tmps) = true ∧ OpR P o (fr a0 D f) w fun v w' => (I (i + 1) (updo f o.dst v) w' ∧ (∀ d v, kd (tab d) v w → kd (tab d) v w') ∧ ∀ d, o.dst = some d → al d = false ∧ kd (tab d) v w') ∧ w.heap.size ≤ w'.heap.size) m (ops.toList.drop m))
    (hend : ∀ f w, I ops.size f w → (∀ d, (ops.toList.filterMap (·.dst)).contains d = true → kd (tab d) (f d) w) → Q .normal (fr a0 D f) w) : (Code.region id ops true).wp P Q a0 w := by
  let J : (Nat → Bool) → (Nat → Value) → World → Prop := fun L f w => Closed ops L ∧ ∃ i, (m ≤ i ∧ i ≤ ops.size) ∧ (∀ j, m ≤ j → j < i → L j = true) ∧ (∀ j, i ≤ j → L j = false) ∧ I i f w ∧ KdAll tab ops L f w ∧ Als al ops L f w
  have hclosed : ∀ (L : Nat → Bool) (n : Nat), Closed ops L → (∀ j ∈ edgesOf ops n, L j = true) → Closed ops (dn L n) := by
    intro L n hcl hedge i hi j hj
    unfold dn at hi ⊢
    by_cases e : i = n
    · subst e
      split
      · rfl
      · exact hedge j hj
    · rw [if_neg e] at hi
      split
      · rfl
      · exact hcl i hi j hj
  refine wp_region_fr D J hm hback hD ⟨_, fr_self a0 D, (by intro i h; cases h), m, ⟨Nat.le_refl _, hms⟩, fun j h1 h2 => by omega, fun _ _ => rfl, h0 _, (by intro i o d _ h; cases h), ⟨(by intro i o d _ h; cases h), (by intro i j oi oj d d' _ _ h; cases h)⟩⟩ ?_ ?_
  · refine .of fun n o ho => ?_
    rw [Nat.zero_add]
    rintro L f w ⟨hcl, i, ⟨hi1, hi2⟩, hdone, hfar, hIw, hk, hals⟩ hL hdep
    have ho : ops[n]? = some o := by simpa using ho
    have hn : n < ops.size := (Array.getElem?_eq_some_iff.1 ho).1
    have hedge : ∀ j ∈ edgesOf ops n, L j = true := by
      intro j hj
      unfold edgesOf at hj
      rw [ho] at hj
      obtain ⟨e, he, rfl⟩ := List.mem_map.1 hj
      obtain ⟨he1, he2⟩ := List.mem_filter.1 he
      exact hdep e (by simpa using he1) he2
    have hpr := predGo_ok hcl n _ hedge
    have hpre : ∀ d, (predD ops n).contains d = true → kd (tab d) (f d) w := by
      intro d hd
      unfold predD at hd
      obtain ⟨j, hj, hjd⟩ := List.mem_filterMap.1 (List.contains_iff_mem.1 hd)
      obtain ⟨oj, hoj, hdj⟩ := Option.bind_eq_some_iff.1 hjd
      exact hk j oj d hoj (hpr j hj) hdj
    rcases Nat.lt_or_ge n m with hnm | hnm
    · have hg := hstep.get (i := n) (o := o) (by rw [List.getElem?_take_of_lt hnm]; simpa using ho)
      rw [Nat.zero_add] at hg
      obtain ⟨hw, d, hd, hr⟩ := hg i f w (fun j h1 h2 => by
        cases hc : (edgesOf ops j).contains n with
        | false => rfl
        | true => rw [hcl j (hdone j h1 h2) n (List.contains_iff_mem.1 hc)] at hL; cases hL) hIw hpre
      refine ⟨hw, ?_⟩
      have him : ∀ d, o.dst = some d → ∀ v, i = m ∨ ∀ d', al d' = true → updo f o.dst v d' = f d' := by
        intro d hd v
        rcases Nat.lt_or_ge m i with hmi | hmi
        · right
          intro d' had
          rw [hd]
          simp only [updo, upd]
          rw [if_neg]
          intro e
          subst e
          have := hcl m (hdone m (Nat.le_refl _) hmi) n (alB_spec ham ho hd had)
          rw [this] at hL
          cases hL
        · left; omega
      have step : ∀ v w', ((Below w.heap.size w w' ∧ kd (tab d) v w') ∧ (al d = true → v = .pointer (some ⟨w.heap.size, 0, none⟩) ∧ w.heap.size < w'.heap.size)) → J (dn L n) (updo f o.dst v) w' := by
        rintro v w' ⟨⟨hb, hkd⟩, hal⟩
        refine ⟨hclosed _ _ hcl hedge, i, ⟨hi1, hi2⟩, fun j h1 h2 => by unfold dn; rw [if_neg (by omega)]; exact hdone j h1 h2, fun j hj => by unfold dn; rw [if_neg (by omega)]; exact hfar j hj, hI _ _ _ _ _ hIw hb (him d hd v), ?_, hals.step hu ho hd hb.size hal⟩
        intro i' p d' hp hi' hd'
        rw [hd]
        unfold dn at hi'
        by_cases e : i' = n
        · subst e
          rw [ho] at hp
          cases hp
          rw [hd] at hd'
          cases hd'
          simpa [updo, upd] using hkd
        · rw [if_neg e] at hi'
          have hne : d' ≠ d := fun he => e (uniq_spec hu hp ho (he ▸ hd') hd)
          simp only [updo, upd, if_neg hne]
          exact (hk i' p d' hp hi' hd').keep hb
      rcases hr with ⟨v, w', h1, h2⟩ | ⟨w', h1, h2⟩ | ⟨g, args, h1, h2⟩
      · exact .inl ⟨v, w', h1, step _ _ h2⟩
      · exact .inr (.inl ⟨w', h1, step _ _ h2⟩)
      · exact .inr (.inr ⟨g, args, h1, h2.mono fun e w' ⟨v, he, hr⟩ => ⟨v, he, step _ _ hr⟩⟩)
    · have hin : i = n := by
        rcases Nat.lt_trichotomy i n with h | h | h
        · have h1 := hedge _ (tail_spec hch hn (by omega))
          rw [hfar (n - 1) (by omega)] at h1
          cases h1
        · exact h
        · have := hdone n hnm h; rw [this] at hL; cases hL
      subst hin
      have hg := htail.get (i := i - m) (o := o) (by rw [List.getElem?_drop, show m + (i - m) = i by omega]; simpa using ho)
      rw [show m + (i - m) = i by omega] at hg
      obtain ⟨hw, hr⟩ := hg f w hIw hpre (fun d d' h1 h2 => by
        unfold predD at h1 h2
        obtain ⟨j, hj, hjd⟩ := List.mem_filterMap.1 (List.contains_iff_mem.1 h1)
        obtain ⟨oj, hoj, hdj⟩ := Option.bind_eq_some_iff.1 hjd
        obtain ⟨j', hj', hjd'⟩ := List.mem_filterMap.1 (List.contains_iff_mem.1 h2)
        obtain ⟨oj', hoj', hdj'⟩ := Option.bind_eq_some_iff.1 hjd'
        exact hals.2 j j' oj oj' d d' hoj hoj' (hpr j hj) (hpr j' hj') hdj hdj')
      refine ⟨hw, ?_⟩
      have step : ∀ v w', ((I (i + 1) (updo f o.dst v) w' ∧ (∀ d v, kd (tab d) v w → kd (tab d) v w') ∧ ∀ d, o.dst = some d → al d = false ∧ kd (tab d) v w') ∧ w.heap.size ≤ w'.heap.size) → J (dn L i) (updo f o.dst v) w' := by
        rintro v w' ⟨⟨hI', hkk, hdd⟩, hsz⟩
        have hals' : Als al ops (dn L i) (updo f o.dst v) w' := by
          cases hdn : o.dst with
          | none => exact hals.tail ho hdn hsz
          | some d => rw [← hdn]; exact hals.step hu ho hdn hsz (fun h => by rw [(hdd d hdn).1] at h; cases h)
        refine ⟨hclosed _ _ hcl hedge, i + 1, ⟨by omega, hn⟩, fun j h1 h2 => by unfold dn; split; rfl; exact hdone j h1 (by omega), fun j hj => by unfold dn; rw [if_neg (by omega)]; exact hfar j (by omega), hI', ?_, hals'⟩
        intro i' p d' hp hi' hd'
        unfold dn at hi'
        by_cases e : i' = i
        · subst e
          rw [ho] at hp
          cases hp
          rw [hd']
          simpa [updo, upd] using (hdd d' hd').2
        · rw [if_neg e] at hi'
          cases hdn : o.dst with
          | none => exact hkk _ _ (hk i' p d' hp hi' hd')
          | some d =>
            have hne : d' ≠ d := fun he => e (uniq_spec hu hp ho (he ▸ hd') hdn)
            simp only [updo, upd, if_neg hne]
            exact hkk _ _ (hk i' p d' hp hi' hd')
      rcases hr with ⟨v, w', h1, h2⟩ | ⟨w', h1, h2⟩ | ⟨g, args, h1, h2⟩
      · exact .inl ⟨v, w', h1, step _ _ h2⟩
      · exact .inr (.inl ⟨w', h1, step _ _ h2⟩)
      · exact .inr (.inr ⟨g, args, h1, h2.mono fun e w' ⟨v, he, hr⟩ => ⟨v, he, step _ _ hr⟩⟩)
  · rintro L f w ⟨_, i, ⟨hi1, hi2⟩, _, hfar, hIw, hk, _⟩ hall
    have hie : i = ops.size := by
      rcases Nat.lt_or_ge i ops.size with h | h
      · have := hfar i (Nat.le_refl _); rw [hall i h] at this; cases this
      · omega
    subst hie
    refine hend f w hIw fun d hd => ?_
    obtain ⟨o, ho, hod⟩ := List.mem_filterMap.1 (List.contains_iff_mem.1 hd)
    obtain ⟨i, hi⟩ := List.getElem?_of_mem ho
    have hi' : ops[i]? = some o := by simpa using hi
    exact hk i o d hi' (hall i (Array.getElem?_eq_some_iff.1 hi').1) hod
end
end Go.Proofs.Ytjjomjjgoceklaa
namespace Go.Proofs.Ytjjomjjgoceklaa
open Go.RowKit

/-! the numbers and texts of WholeNames -/
def fac : Nat → Int
  | 0 => 1
  | n + 1 => fac n * ((n : Int) + 1)
def q9 : Int := fac 25 / 9999999967
def m9 : Int := fac 25 % 9999999967
theorem fac_wb : ∀ k, k < 26 → (fac k).natAbs < WB ^ 2 := by decide +kernel
theorem fac_sz (k : Nat) (hk : k < 26) : Sz (fac k).natAbs := ⟨2, by omega, fac_wb k hk⟩
theorem q9_sz : Sz q9.natAbs := ⟨2, by omega, by decide +kernel⟩
theorem q9d_sz : Sz (q9 * 9999999967).natAbs := ⟨2, by omega, by decide +kernel⟩
theorem m9_sz : Sz m9.natAbs := ⟨2, by omega, by decide +kernel⟩
theorem d9_sz : Sz (9999999967 : Int).natAbs := ⟨1, by omega, by decide +kernel⟩
theorem qm9 : q9 * 9999999967 + m9 = fac 25 := by unfold q9 m9; omega
theorem m9_sgn : decide (m9.sign < 0) = false := by decide +kernel
theorem m9_cmp : decide (sgnZ m9 9999999967 ≥ 0) = false := by decide +kernel
theorem qm9_cmp : sgnZ (q9 * 9999999967 + m9) (fac 25) = 0 := by decide +kernel
theorem tx25 : txt (fac 25) = ⟨#[49, 53, 53, 49, 49, 50, 49, 48, 48, 52, 51, 51, 51, 48, 57, 56, 53, 57, 56, 52, 48, 48, 48, 48, 48, 48]⟩ := by
  unfold txt txtL decL
  rw [show (fac 25).natAbs = 15511210043330985984000000 by decide +kernel, ← nd_unique (k := 26) (n := 15511210043330985984000000) (by decide) (by decide +kernel) (.inr (by decide +kernel)), if_neg (by decide +kernel)]
  kernel_rfl
theorem tx0' : txt 0 = ⟨#[48]⟩ := by unfold txt txtL; rw [show (0 : Int).natAbs = 0 from rfl, decL_small (by decide)]; rfl
theorem tx3m : txt (-3) = ⟨#[45, 51]⟩ := by unfold txt txtL; rw [show (-3 : Int).natAbs = 3 from rfl, decL_small (by decide)]; rfl
theorem tx4p : txt 4 = ⟨#[52]⟩ := by unfold txt txtL; rw [show (4 : Int).natAbs = 4 from rfl, decL_small (by decide)]; rfl
theorem tx5p : txt 5 = ⟨#[53]⟩ := by unfold txt txtL; rw [show (5 : Int).natAbs = 5 from rfl, decL_small (by decide)]; rfl
theorem tx2m : txt (-2) = ⟨#[45, 50]⟩ := by unfold txt txtL; rw [show (-2 : Int).natAbs = 2 from rfl, decL_small (by decide)]; rfl
theorem tx2p : txt 2 = ⟨#[50]⟩ := by unfold txt txtL; rw [show (2 : Int).natAbs = 2 from rfl, decL_small (by decide)]; rfl
theorem tx11p : txt 11 = ⟨#[49, 49]⟩ := by
  unfold txt txtL decL
  rw [show (11 : Int).natAbs = 11 from rfl, ← nd_unique (k := 2) (n := 11) (by decide) (by decide) (.inr (by decide))]
  kernel_rfl
theorem txr {n : Int} {b : ByteArray} (h : txt n = b) : txtR n 1 = b := by unfold txtR; rw [if_pos rfl]; exact h
theorem txS (v : Value) (z : Int) (w : World) (b : ByteArray) (h : Zr w v z) (sz : Sz z.natAbs) (hb : txt z = b) : Calls Try.prog 39 #[v] w (PSt b w) := (text_any v z w h (grC_any _ sz) (sz_nd sz)).mono fun _ _ ⟨a, c⟩ => ⟨a, by rw [c, hb]⟩
theorem txR (v : Value) (z : Int) (w : World) (b : ByteArray) (h : Rr w v z 1) (sz : Sz z.natAbs) (hb : txt z = b) : Calls Try.prog 41 #[v] w (PSt b w) :=
  (rtext_any v z 1 w h (grC_any _ sz) (sz_nd sz) (grC_ten (by decide)) (nd_le (by decide))).mono fun _ _ ⟨a, c⟩ => ⟨a, by rw [c, txr hb]⟩
theorem quoM {a b q r : Int} (va vd : Value) (w : World) (ha : Zr w va a) (hb : Zr w vd b) (h0 : b ≠ 0) (sa : Sz a.natAbs) (sb : Sz b.natAbs) (hq : a / b = q) (hr : a % b = r) : Calls Try.prog 30 #[va, vd] w (PQ q r 0 w) := by
  subst hq; subst hr
  exact quotient_any va vd a b w ha hb h0 (over_all _ _ sa (by omega)) sa sb
theorem quo25 (va vd : Value) (w : World) (ha : Zr w va (fac 25)) (hb : Zr w vd 9999999967) : Calls Try.prog 30 #[va, vd] w (PQ q9 m9 0 w) :=
  quoM (a := fac 25) (b := 9999999967) (q := q9) (r := m9) va vd w ha hb (by decide) (fac_sz 25 (by decide)) d9_sz (by unfold q9; rfl) (by unfold m9; rfl)
theorem text25 (v : Value) (w : World) (h : Zr w v (fac 25)) : Calls Try.prog 39 #[v] w (PSt ⟨#[49, 53, 53, 49, 49, 50, 49, 48, 48, 52, 51, 51, 51, 48, 57, 56, 53, 57, 56, 52, 48, 48, 48, 48, 48, 48]⟩ w) := txS v (fac 25) w _ h (fac_sz 25 (by decide)) tx25
theorem cmp25 (va vb : Value) (w : World) (ha : Zr w va (q9 * 9999999967 + m9)) (hb : Zr w vb (fac 25)) : Calls Try.prog 25 #[va, vb] w fun e w' => Below w.heap.size w w' ∧ e = .returned (.int .i64 0) :=
  (zcmp_any va vb _ _ w ha hb).mono fun _ _ ⟨a, b⟩ => ⟨a, by rw [b, qm9_cmp]⟩
theorem gcd05 (va vb : Value) (w : World) (ha : Zr w va 0) (hb : Zr w vb (-5)) : Calls Try.prog 28 #[va, vb] w (PZ 5 w) := gcd_any va vb 0 (-5) w ha hb (common_all 0 5 (sz_lit _ (by decide)) (sz_lit _ (by decide)))
theorem floor72 (v : Value) (w : World) (h : Rr w v (-7) 2) : Calls Try.prog 42 #[v] w (PZ (-4) w) := floor_any v (-7) 2 w h (over_all 7 2 (sz_lit _ (by decide)) (by decide)) (sz_lit _ (by decide)) (sz_lit _ (by decide))
theorem ceil72 (v : Value) (w : World) (h : Rr w v (-7) 2) : Calls Try.prog 43 #[v] w (PZ (-3) w) := ceil_any v (-7) 2 w h (over_all 7 2 (sz_lit _ (by decide)) (by decide)) (sz_lit _ (by decide)) (sz_lit _ (by decide))
theorem i64low (v : Value) (w : World) (h : Zr w v (-9223372036854775808)) : Calls Try.prog 9 #[v] w fun e w' => Below w.heap.size w w' ∧ e = .returned (.tuple #[.int .i64 (-9223372036854775808), .bool true]) :=
  (int64_any v _ w h).mono fun _ _ ⟨a, b⟩ => ⟨a, by rw [b, show i64v (-9223372036854775808) = -9223372036854775808 by decide, show i64b (-9223372036854775808) = true by decide]⟩
theorem i64no (v : Value) (w : World) (h : Zr w v (9223372036854775807 + 1)) : Calls Try.prog 9 #[v] w fun e w' => Below w.heap.size w w' ∧ e = .returned (.tuple #[.int .i64 0, .bool false]) :=
  (int64_any v _ w h).mono fun _ _ ⟨a, b⟩ => ⟨a, by rw [b, show i64v (9223372036854775807 + 1) = 0 by decide, show i64b (9223372036854775807 + 1) = false by decide]⟩
theorem sign0 (v : Value) (w : World) (h : Zr w v 0) : Calls Try.prog 24 #[v] w fun e w' => Below w.heap.size w w' ∧ e = .returned (.int .i64 0) := (sign_any v 0 w h).mono fun _ _ ⟨a, b⟩ => ⟨a, b⟩
theorem rsign0 (v : Value) (d : Nat) (w : World) (h : Rr w v 0 d) : Calls Try.prog 34 #[v] w fun e w' => Below w.heap.size w w' ∧ e = .returned (.int .i64 0) := (rsign_any v 0 d w h).mono fun _ _ ⟨a, b⟩ => ⟨a, b⟩
/-- products of small whole ratios -/
theorem mul1 (a b : Int) (sa : Sz a.natAbs) (sb : Sz b.natAbs) (W : World) (v1 v2 : Value) (h1 : Rr W v1 a 1) (h2 : Rr W v2 b 1) : Calls Try.prog 71 #[v1, v2] W (PR (a * b) 1 W) := by
  have h := rmul_any v1 v2 a b 1 1 W h1 h2 sa sb (sz_lit _ (by decide)) (sz_lit _ (by decide))
  rw [Nat.gcd_one_right, Nat.gcd_one_right] at h
  simpa using h
theorem add_d : AddOK (4, 1) (-6, 1) (-2, 1) := addOK_small 4 (-6) 1 1 (-2) (by decide) (by decide) (by decide) (by decide) (by decide) (by decide) (by decide) _ (by decide)
theorem add_e : AddOK (3, 1) (8, 1) (11, 1) := addOK_small 3 8 1 1 11 (by decide) (by decide) (by decide) (by decide) (by decide) (by decide) (by decide) _ (by decide)
theorem txV12 : txtV 1 1 2 1 = ⟨#[40, 49, 44, 32, 50, 41]⟩ := by unfold txtV; rw [txr tx1, txr tx2p]; kernel_rfl
/-- the two vectors' functions, at (1, 2) and (3, 4) -/
def V2 (w : World) (v : Value) (x z : Int) : Prop := ∃ (a1 a6 : Bool) (a2 a4 a7 a9 : Int) (a3 a5 a8 a10 : Option Addr), v = .agg #[.bool a1, .int .u64 a2, .pointer a3, .int .u64 a4, .pointer a5, .bool a6, .int .u64 a7, .pointer a8, .int .u64 a9, .pointer a10] ∧
  Rr w (.agg #[.bool a1, .int .u64 a2, .pointer a3, .int .u64 a4, .pointer a5]) x 1 ∧ Rr w (.agg #[.bool a6, .int .u64 a7, .pointer a8, .int .u64 a9, .pointer a10]) z 1
theorem cross12 (u v : Value) (w : World) (hu : V2 w u 1 2) (hv : V2 w v 3 4) : Calls Try.prog 44 #[u, v] w (PR (-2) 1 w) := by
  obtain ⟨a1, a6, a2, a4, a7, a9, a3, a5, a8, a10, rfl, h1, h2⟩ := hu
  obtain ⟨b1, b6, b2, b4, b7, b9, b3, b5, b8, b10, rfl, h3, h4⟩ := hv
  exact vcross_any a1 b1 a2 a4 a7 a9 b2 b4 b7 b9 a6 b6 a3 a5 a8 a10 b3 b5 b8 b10 1 3 2 4 4 6 (-2) 1 1 1 1 1 1 1 w h1 h2 h3 h4
    (mul1 1 4 (sz_lit _ (by decide)) (sz_lit _ (by decide))) (mul1 2 3 (sz_lit _ (by decide)) (sz_lit _ (by decide)))
    (fun W v1 v2 g1 g2 => rsub_any v1 v2 4 6 (-2) 1 1 1 W g1 g2 fun W v1 v2 g1 g2 => add_d v1 v2 W g1 g2)
theorem dot12 (u v : Value) (w : World) (hu : V2 w u 1 2) (hv : V2 w v 3 4) : Calls Try.prog 45 #[u, v] w (PR 11 1 w) := by
  obtain ⟨a1, a6, a2, a4, a7, a9, a3, a5, a8, a10, rfl, h1, h2⟩ := hu
  obtain ⟨b1, b6, b2, b4, b7, b9, b3, b5, b8, b10, rfl, h3, h4⟩ := hv
  exact vdot_any a1 b1 a2 a4 a7 a9 b2 b4 b7 b9 a6 b6 a3 a5 a8 a10 b3 b5 b8 b10 1 3 2 4 3 8 11 1 1 1 1 1 1 1 w h1 h2 h3 h4
    (mul1 1 3 (sz_lit _ (by decide)) (sz_lit _ (by decide))) (mul1 2 4 (sz_lit _ (by decide)) (sz_lit _ (by decide)))
    (fun W v1 v2 g1 g2 => add_e v1 v2 W g1 g2)
theorem vtext12 (u : Value) (w : World) (hu : V2 w u 1 2) : Calls Try.prog 46 #[u] w (PSt ⟨#[40, 49, 44, 32, 50, 41]⟩ w) := by
  obtain ⟨a1, a6, a2, a4, a7, a9, a3, a5, a8, a10, rfl, h1, h2⟩ := hu
  rw [← txV12]
  exact vtext_any a1 a6 a2 a4 a7 a9 a3 a5 a8 a10 1 2 1 1 w h1 h2 (grC_ten (by decide)) (nd_le (by decide)) (grC_ten (by decide)) (nd_le (by decide)) (grC_ten (by decide)) (nd_le (by decide)) (grC_ten (by decide)) (nd_le (by decide))
end Go.Proofs.Ytjjomjjgoceklaa
namespace Go.Proofs.Ytjjomjjgoceklaa
open Go.RowKit Go.Shelf

/-! the law WholeNames -/
theorem kst0 {w w1 w2 : World} (k : Below w.heap.size w w1) (hb : Below w1.heap.size w1 w2) : Below w.heap.size w w2 := Below.thru k k.size hb
theorem kal {w w1 : World} (k : Below w.heap.size w w1) (o : Obj) : Below w.heap.size w (w1.alloc o) := k.alloc k.size o
theorem nt_new (w : World) (c : Array Value) (t : TypeId) (n : Nat) (f : Nat → Value) (h : ∀ k, k < n → c[k]? = some (f k)) : ∀ k, k < n → (w.alloc (.cells c t)).cell? ⟨w.heap.size, k, none⟩ = some (f k) := fun k hk => (cell_blk (Go.Deep.blk_alloc_new w (.cells c t))).trans (h k hk)
theorem nmC : ∀ k, k < 10 → (#[.string ⟨#[]⟩, .string ⟨#[45]⟩, .string ⟨#[48, 48, 55]⟩, .string ⟨#[43, 49]⟩, .string ⟨#[49, 46, 53]⟩, .string ⟨#[45, 45, 49]⟩, .string ⟨#[32, 49]⟩, .string ⟨#[49, 32]⟩, .string ⟨#[48, 120, 49]⟩, .string ⟨#[45, 48, 49]⟩] : Array Value)[k]? = some (.string (nmT k))
  | 0, _ => rfl
  | 1, _ => rfl
  | 2, _ => rfl
  | 3, _ => rfl
  | 4, _ => rfl
  | 5, _ => rfl
  | 6, _ => rfl
  | 7, _ => rfl
  | 8, _ => rfl
  | 9, _ => rfl
  | k + 10, h => by omega
theorem nmCU : ∀ k, k < 6 → (#[.string ⟨#[49, 47, 45, 50]⟩, .string ⟨#[49, 47]⟩, .string ⟨#[47, 50]⟩, .string ⟨#[49, 47, 48, 50]⟩, .string ⟨#[49, 47, 50, 47, 51]⟩, .string ⟨#[49, 47, 43, 50]⟩] : Array Value)[k]? = some (.string (nmU k))
  | 0, _ => rfl
  | 1, _ => rfl
  | 2, _ => rfl
  | 3, _ => rfl
  | 4, _ => rfl
  | 5, _ => rfl
  | k + 6, h => by omega
theorem hz_two {w : World} {y z : Int} {s : Bool} {x : Int} {p : Option Addr} {s' : Bool} {x' : Int} {p' : Option Addr} (h1 : Zr w (.agg #[.bool s, .int .u64 x, .pointer p]) y) (h2 : Zr w (.agg #[.bool s', .int .u64 x', .pointer p']) z) :
    Hz w.heap.size y ((w.alloc (.cells #[.bool s, .int .u64 x, .pointer p] 29)).alloc (.cells #[.bool s', .int .u64 x', .pointer p'] 29)) ∧ Hz (w.heap.size + 1) z ((w.alloc (.cells #[.bool s, .int .u64 x, .pointer p] 29)).alloc (.cells #[.bool s', .int .u64 x', .pointer p'] 29)) := by
  refine ⟨(Hz.new h1).keep (bl1 _ _), ?_⟩
  have h := Hz.new (h2.keep (bl1 w (.cells #[.bool s, .int .u64 x, .pointer p] 29)) (Nat.le_refl _))
  rw [World.size_alloc] at h
  exact h
/-- the four boxes of the quotients -/
def F4 (A B C D : Nat) (w : World) : Prop := Hz A (-3) w ∧ Hz B 1 w ∧ Hz C 4 w ∧ Hz D 1 w
theorem F4.keep {A B C D : Nat} {w w' : World} (h : F4 A B C D w) (hb : Below w.heap.size w w') : F4 A B C D w' := ⟨h.1.keep hb, h.2.1.keep hb, h.2.2.1.keep hb, h.2.2.2.keep hb⟩
theorem PSt.kd {b : ByteArray} {w : World} {g : FuncId} {args : Array Value} (h : Calls Try.prog g args w (PSt b w)) : Calls Try.prog g args w fun e w' => ∃ v, e = .returned v ∧ (Below w.heap.size w w' ∧ Go.Proofs.Ytjjomjjgoceklaa.kd (.v (.string b)) v w') := h.mono fun _ _ ⟨hb, he⟩ => ⟨_, he, hb, rfl⟩
theorem PSi0.kd {n : Int} {w : World} {g : FuncId} {args : Array Value} (h : Calls Try.prog g args w fun e w' => Below w.heap.size w w' ∧ e = .returned (.int .i64 n)) : Calls Try.prog g args w fun e w' => ∃ v, e = .returned v ∧ (Below w.heap.size w w' ∧ Go.Proofs.Ytjjomjjgoceklaa.kd (ki n) v w') := h.mono fun _ _ ⟨hb, he⟩ => ⟨_, he, hb, rfl⟩
theorem OpR.callc {o : Oper} {a0 : Act} {D : Nat → Bool} {f : Nat → Value} {w : World} {R : Value → World → Prop} {n : FuncId} {x : Value} {ts : Array TypeId} (ho : o.op = .call { callee := .value (.func n), args := #[.const x], argTypes := ts }) (hcf : CF n)
    (h : Calls Try.prog n #[x] w fun e w' => ∃ v, e = .returned v ∧ R v w') : OpR Try.prog o (fr a0 D f) w R := .inr (.inr ⟨n, _, rn_call1 ho rfl hcf, h⟩)
theorem cf38 : CF 38 := fun W args => by go_simp
theorem cf30 : CF 30 := fun W args => by go_simp
section
variable {ρ : Operand → Value} {o : Oper} {w : World} {t : Operand}
theorem rn_ext3_0 {x y z : Value} (ho : o.op = .extract t 0) (he : ρ t = .tuple #[x, y, z]) : (execOp ρ o).run Try.prog w = .ok (.value x) w := by
  unfold execOp; rw [ho]; simp [go_sem, he]
theorem rn_ext3_1 {x y z : Value} (ho : o.op = .extract t 1) (he : ρ t = .tuple #[x, y, z]) : (execOp ρ o).run Try.prog w = .ok (.value y) w := by
  unfold execOp; rw [ho]; simp [go_sem, he]
theorem rn_ext3_2 {x y z : Value} (ho : o.op = .extract t 2) (he : ρ t = .tuple #[x, y, z]) : (execOp ρ o).run Try.prog w = .ok (.value z) w := by
  unfold execOp; rw [ho]; simp [go_sem, he]
theorem rn_neqO (ho : o.op = .binOp .neq 51 t (.const (.int .i64 0)) 51) (h1 : ρ t = .int .i64 0) (h2 : ρ (.const (.int .i64 0)) = .int .i64 0 := by rfl) : (execOp ρ o).run Try.prog w = .ok (.value (.bool false)) w := by
  unfold execOp; rw [ho]; simp [go_sem, h1, h2]
theorem rn_geqS {c : Operand} {n m : Int} {r : Bool} (ho : o.op = .binOp .geq 3 t c 3) (h1 : ρ t = .int .i64 n) (h2 : ρ c = .int .i64 m) (hc : decide (m ≤ n) = r) : (execOp ρ o).run Try.prog w = .ok (.value (.bool r)) w := by
  unfold execOp; rw [ho]; simp [go_sem, h1, h2, ← hc]
theorem rn_neqS {c : Operand} {s : ByteArray} (ho : o.op = .binOp .neq 9 t c 9) (h1 : ρ t = .string s) (h2 : ρ c = .string s) : (execOp ρ o).run Try.prog w = .ok (.value (.bool false)) w := by
  unfold execOp; rw [ho]; simp [go_sem, h1, h2]
end
theorem V2.keep {w w' : World} {v : Value} {x z : Int} (h : V2 w v x z) (hb : Below w.heap.size w w') : V2 w' v x z := by
  obtain ⟨a1, a6, a2, a4, a7, a9, a3, a5, a8, a10, e, h1, h2⟩ := h
  exact ⟨a1, a6, a2, a4, a7, a9, a3, a5, a8, a10, e, h1.keep hb (Nat.le_refl _), h2.keep hb (Nat.le_refl _)⟩
structure GN (w0 : World) (T26 T U : Nat) (P q m : Int) (w : World) : Prop where
  k : Below w0.heap.size w0 w
  p : Hz T26 P w
  q : Hz T q w
  m : Hz U m w
theorem GN.keep {w0 w w' : World} {T26 T U : Nat} {P q m : Int} (h : GN w0 T26 T U P q m w) (hb : Below w.heap.size w w') : GN w0 T26 T U P q m w' := ⟨Below.thru h.k h.k.size hb, h.p.keep hb, h.q.keep hb, h.m.keep hb⟩
def kq3 (a b er : Int) : Kd := .c (fun v w => ∃ x y, v = .tuple #[x, y, .int .i64 er] ∧ Zr w x a ∧ Zr w y b) (fun _ _ _ ⟨x, y, h1, h2, h3⟩ hb => ⟨x, y, h1, h2.keep hb (Nat.le_refl _), h3.keep hb (Nat.le_refl _)⟩)
theorem Ks3.kq3 {a b er : Int} : Ks3 (kq3 a b er) := fun hT ⟨x, y, h1, h2, h3⟩ => ⟨x, y, h1, h2.store hT.odd (grown3 _ _ _ _ _ _ _ _), h3.store hT.odd (grown3 _ _ _ _ _ _ _ _)⟩
def DN30 (t : Nat) : Bool := match t with | 197 => true | 198 => true | 199 => true | 200 => true | _ => false
def tabN30 (k : Nat) (t : Nat) : Kd := [.z (fac k), .v (.int .i64 ((k : Int) + 1)), .z ((k : Int) + 1), .z (fac (k + 1))].getD (t - 197) .any
def DN31 (t : Nat) : Bool := (Nat.ble 28 t && Nat.ble t 30) || (Nat.ble 201 t && Nat.ble t 207)
def alN31 (t : Nat) : Bool := Nat.beq t 28 || Nat.beq t 29
def tabN31 (B : Nat) (P q m : Int) (t : Nat) : Kd := if t < 31 then [kbz B, kbz B, .v (.int .i64 0)].getD (t - 28) .any else [kq3 q m 0, .z P, .z 9999999967, kq3 q m 0, .z q, .z m, .v (.int .i64 0)].getD (t - 201) .any
theorem kN31 {B : Nat} {P q m : Int} (t : Nat) : Ks3 (tabN31 B P q m t) := by
  unfold tabN31
  split
  · exact Ks3.getD (by simp only [List.forall_mem_cons]; exact ⟨Ks3.kbz, Ks3.kbz, Ks3.v, fun _ h => by cases h⟩) _
  · exact Ks3.getD (by simp only [List.forall_mem_cons]; exact ⟨Ks3.kq3, Ks3.z, Ks3.z, Ks3.kq3, Ks3.z, Ks3.z, Ks3.v, fun _ h => by cases h⟩) _
def DN32 (t : Nat) : Bool := Nat.ble 208 t && Nat.ble t 235
def kF : Kd := .v (.bool false)
def lit25 : ByteArray := ⟨#[49, 53, 53, 49, 49, 50, 49, 48, 48, 52, 51, 51, 51, 48, 57, 56, 53, 57, 56, 52, 48, 48, 48, 48, 48, 48]⟩
def tabN32 (P q m : Int) (t : Nat) : Kd := [.v (.int .i64 0), kF, kF, .z P, .v (.string lit25), kF, kF, kF, .z q, .z 9999999967, .z (q * 9999999967), .z m, .z (q * 9999999967 + m), .z P, ki 0, kF, kF, kF, .z m, ki m.sign, kF, kF, kF, .z m, .z 9999999967, ki (sgnZ m 9999999967), kF, kF].getD (t - 208) .any
theorem F2keep {A B : Nat} {y z : Int} {w w' : World} (h : Hz A y w ∧ Hz B z w) (hb : Below w.heap.size w w') : Hz A y w' ∧ Hz B z w' := ⟨h.1.keep hb, h.2.keep hb⟩
set_option maxRecDepth 100000 in
set_option maxHeartbeats 6400000 in
theorem names_any (w : World) : Calls Try.prog 5 #[] w (PB true w) := by
  go_enter Try.func5, Try.ntmps5
  go_wp2
  go_loopw [39] (fun i wr => ∃ k : Nat, k ≤ 10 ∧ i = .int .i64 k ∧ Below w.heap.size w wr ∧ w.heap.size < wr.heap.size ∧ ∀ j, j < 10 → wr.cell? ⟨w.heap.size, j, none⟩ = some (.string (nmT j))) (fun i _ => 10 - (intOf i).toNat)
  case atStart => exact ⟨0, by decide, rfl, bl1 _ _, by simp, nt_new _ _ _ _ _ nmC⟩
  case round =>
    obtain ⟨k, hk, rfl, hbel, hz, hn⟩ := hrel
    by_cases hlt : k < 10
    · have c := hn k hlt
      have hlt' : (k : Int) < 10 := by omega
      have ZZ := Lib.hid (nmZ k hlt); have PP := Lib.hid (nmP k hlt); have HN := Lib.hid hn
      generalize nmT k = str at c ZZ PP
      clear hn
      go_wp2_with fail
      refine (ZZ.out _).mono ?_
      rintro e w1 ⟨hb1, v1, rfl, h1⟩
      obtain ⟨s1, x1, p1, rfl, _⟩ := h1.dg
      have k1 := kst0 hbel hb1
      have z1 : w.heap.size < w1.heap.size := Nat.lt_of_lt_of_le hz hb1.size
      have HN := Lib.hid (fun j hj => (hb1.cell (p := ⟨w.heap.size, j, none⟩) hz).trans (HN.out j hj))
      have H1 := Lib.hid (h1.al (.cells #[.bool s1, .int .u64 x1, .pointer p1] 29))
      clear h1 hb1 c ZZ
      go_wp2_with fail
      refine (PP.out _).mono ?_
      rintro e w2 ⟨hb2, v2, rfl, h2⟩
      obtain ⟨s2, x2, p2, y2, r2, rfl⟩ := h2.agg
      have k2 := kst0 (kal k1 _) hb2
      have z2 : w1.heap.size < w2.heap.size := Nat.lt_of_lt_of_le (by simp) hb2.size
      have HN := Lib.hid (fun j hj => (hb2.cell (p := ⟨w.heap.size, j, none⟩) (by simp; omega)).trans ((World.cell?_alloc_old _ _ _ (show w.heap.size ≠ _ by omega)).trans (HN.out j hj)))
      have a0 : w2.cell? ⟨w1.heap.size, 0, none⟩ = some (.bool s1) := (hb2.cell (p := ⟨w1.heap.size, 0, none⟩) (by simp)).trans (by simp [go_sem])
      have a1 : w2.cell? ⟨w1.heap.size, 1, none⟩ = some (.int .u64 x1) := (hb2.cell (p := ⟨w1.heap.size, 1, none⟩) (by simp)).trans (by simp [go_sem])
      have a2 : w2.cell? ⟨w1.heap.size, 2, none⟩ = some (.pointer p1) := (hb2.cell (p := ⟨w1.heap.size, 2, none⟩) (by simp)).trans (by simp [go_sem])
      have H1 := Lib.hid ((H1.out.keep hb2 (Nat.le_refl _)).al (.cells #[.bool s2, .int .u64 x2, .pointer p2, .int .u64 y2, .pointer r2] 61))
      have H2 := Lib.hid (h2.keep (bl1 _ (.cells #[.bool s2, .int .u64 x2, .pointer p2, .int .u64 y2, .pointer r2] 61)) (Nat.le_refl _))
      clear h2 hb2 PP k1
      go_wp2_with fail
      refine (sign0 _ _ H1.out).mono ?_
      rintro e w3 ⟨hb3, rfl⟩
      have k3 := kst0 (kal k2 _) hb3
      have HN := Lib.hid (fun j hj => (hb3.cell (p := ⟨w.heap.size, j, none⟩) (by simp; omega)).trans ((World.cell?_alloc_old _ _ _ (show w.heap.size ≠ _ by omega)).trans (HN.out j hj)))
      have z3 : w2.heap.size < w3.heap.size := Nat.lt_of_lt_of_le (by simp) hb3.size
      have b0 : w3.cell? ⟨w2.heap.size, 0, none⟩ = some (.bool s2) := (hb3.cell (p := ⟨w2.heap.size, 0, none⟩) (by simp)).trans (by simp [go_sem])
      have b1 : w3.cell? ⟨w2.heap.size, 1, none⟩ = some (.int .u64 x2) := (hb3.cell (p := ⟨w2.heap.size, 1, none⟩) (by simp)).trans (by simp [go_sem])
      have b2 : w3.cell? ⟨w2.heap.size, 2, none⟩ = some (.pointer p2) := (hb3.cell (p := ⟨w2.heap.size, 2, none⟩) (by simp)).trans (by simp [go_sem])
      have b3 : w3.cell? ⟨w2.heap.size, 3, none⟩ = some (.int .u64 y2) := (hb3.cell (p := ⟨w2.heap.size, 3, none⟩) (by simp)).trans (by simp [go_sem])
      have b4 : w3.cell? ⟨w2.heap.size, 4, none⟩ = some (.pointer r2) := (hb3.cell (p := ⟨w2.heap.size, 4, none⟩) (by simp)).trans (by simp [go_sem])
      have H2 := Lib.hid (H2.out.keep hb3 (Nat.le_refl _))
      clear hb3 k2 a0 a1 a2 H1
      go_wp2_with fail
      refine (rsign0 _ 1 _ H2.out).mono ?_
      rintro e w4 ⟨hb4, rfl⟩
      have k4 := kst0 k3 hb4
      have HN := Lib.hid (fun j hj => (hb4.cell (p := ⟨w.heap.size, j, none⟩) (show w.heap.size < _ by omega)).trans (HN.out j hj))
      have z4 : w.heap.size < w4.heap.size := by have := hb4.size; omega
      clear hb4 k3 b0 b1 b2 b3 b4 H2
      go_wp2
      go_roundw
      case rel => exact ⟨k + 1, by omega, by go_num, k4, z4, HN.out⟩
      case measure => simp [intOf]; omega
    · obtain rfl : k = 10 := by omega
      rw [show ((10 : Nat) : Int) = 10 from rfl]
      obtain ⟨wL, hwL⟩ : ∃ x, x = wr := ⟨_, rfl⟩
      subst hwL
      clear hn hz hlt hk
      go_wp2
      go_loopw [72] (fun i wr => ∃ k : Nat, k ≤ 6 ∧ i = .int .i64 k ∧ Below w.heap.size w wr ∧ wL.heap.size < wr.heap.size ∧ ∀ j, j < 6 → wr.cell? ⟨wL.heap.size, j, none⟩ = some (.string (nmU j))) (fun i _ => 6 - (intOf i).toNat)
      case atStart => exact ⟨0, by decide, rfl, kal hbel _, by simp, nt_new _ _ _ _ _ nmCU⟩
      case round =>
        obtain ⟨k, hk, rfl, hbel2, hz, hn⟩ := hrel
        by_cases hlt : k < 6
        · have c := hn k hlt
          have hlt' : (k : Int) < 6 := by omega
          have PP := Lib.hid (nmQ k hlt); have HN := Lib.hid hn
          generalize nmU k = str at c PP
          clear hn
          go_wp2_with fail
          refine (PP.out _).mono ?_
          rintro e w2 ⟨hb2, v2, rfl, h2⟩
          obtain ⟨s2, x2, p2, y2, r2, rfl⟩ := h2.agg
          have k2 := kst0 hbel2 hb2
          have z2 : wL.heap.size < w2.heap.size := Nat.lt_of_lt_of_le hz hb2.size
          have HN := Lib.hid (fun j hj => (hb2.cell (p := ⟨wL.heap.size, j, none⟩) hz).trans (HN.out j hj))
          clear h2 hb2 PP c
          go_wp2
          go_roundw
          case rel => exact ⟨k + 1, by omega, by go_num, kal k2 _, by simp; omega, fun j hj => (World.cell?_alloc_old _ _ _ (show wL.heap.size ≠ _ by omega)).trans (HN.out j hj)⟩
          case measure => simp [intOf]; omega
        · obtain rfl : k = 6 := by omega
          rw [show ((6 : Nat) : Int) = 6 from rfl]
          obtain ⟨wA, hwA⟩ : ∃ x, x = wr := ⟨_, rfl⟩
          subst hwA
          clear hn hz hlt hk hbel
          go_wp2_with fail
          refine (nm10 _).mono ?_
          rintro e w1 ⟨hb1, v1, rfl, h1⟩
          obtain ⟨s1, x1, p1, y1, r1, rfl⟩ := h1.agg
          have k1 := kst0 hbel2 hb1
          clear h1 hb1 hbel2
          go_wp2_with fail
          refine (nm_ratio _).mono ?_
          rintro e w2 ⟨hb2, v2, rfl, h2⟩
          obtain ⟨s2, x2, p2, y2, r2, rfl⟩ := h2.agg
          have k2 := kst0 (kal k1 _) hb2
          clear h2 hb2 k1
          go_wp2_with fail
          refine (of_any 1 _ (by unfold I64; omega)).mono ?_
          rintro e w3 ⟨hb3, v3, rfl, h3⟩
          have H3 := Lib.hid h3
          have k3 := kst0 (kal k2 _) hb3
          clear h3 hb3 k2
          go_wp2_with fail
          refine (rdiv_zero v3 _ 1 1 1 _ H3.out (Rr.zero _)).mono ?_
          rintro e w4 ⟨hb4, v4, rfl, h4⟩
          obtain ⟨s4, x4, p4, y4, r4, rfl⟩ := h4.agg
          have k4 := kst0 k3 hb4
          clear h4 hb4 k3 H3
          go_wp2_with fail
          refine (int_any 1 _ (by unfold I64; omega)).mono ?_
          rintro e w5 ⟨hb5, v5, rfl, h5⟩
          have H5 := Lib.hid h5
          have k5 := kst0 (kal k4 _) hb5
          clear h5 hb5 k4
          go_wp2_with fail
          refine (quotient_zero v5 _ 1 _ H5.out (Zr.zero _)).mono ?_
          rintro e w6 ⟨hb6, u6, v6, rfl, h6, h6'⟩
          obtain ⟨s6, x6, p6, rfl, _⟩ := h6.dg
          obtain ⟨s7, x7, p7, rfl, _⟩ := h6'.dg
          have k6 := kst0 k5 hb6
          clear h6 h6' hb6 k5 H5
          go_wp2_with fail
          refine (awake_any _).mono ?_
          rintro e w7 ⟨hb7, rfl⟩
          have k7 := kst0 (kal (kal k6 _) _) hb7
          clear hb7 k6
          go_wp2_with fail
          refine (nmZ0 _).mono ?_
          rintro e w8 ⟨hb8, v8, rfl, h8⟩
          have H8 := Lib.hid h8
          have k8 := kst0 k7 hb8
          clear h8 hb8 k7
          go_wp2_with fail
          refine (txS _ 0 _ ⟨#[48]⟩ H8.out (sz_lit _ (by decide)) tx0').mono ?_
          rintro e w9 ⟨hb9, rfl⟩
          have k9 := kst0 k8 hb9
          clear hb9 k8 H8
          go_wp2_with fail
          refine (nmR07 _).mono ?_
          rintro e w10 ⟨hb10, v10, rfl, h10⟩
          have H10 := Lib.hid h10
          have k10 := kst0 k9 hb10
          clear h10 hb10 k9
          go_wp2_with fail
          refine (txR _ 0 _ ⟨#[48]⟩ H10.out (sz_lit _ (by decide)) tx0').mono ?_
          rintro e w11 ⟨hb11, rfl⟩
          have k11 := kst0 k10 hb11
          clear hb11 k10 H10
          go_wp2_with fail
          refine (int_any (7) _ (by unfold I64; omega)).mono ?_
          rintro e wa ⟨hba, va, rfl, ha⟩
          have HA := Lib.hid ha
          have ka := kst0 k11 hba
          clear ha hba
          go_wp2_with fail
          refine (int_any (-2) _ (by unfold I64; omega)).mono ?_
          rintro e wb ⟨hbb, vb, rfl, hb'⟩
          have HA := Lib.hid (HA.out.keep hbb (Nat.le_refl _))
          have HB := Lib.hid hb'
          have kb := kst0 ka hbb
          clear hb' hbb ka
          go_wp2_with fail
          refine (quoM (q := -3) (r := 1) va vb _ HA.out HB.out (by decide) (sz_lit _ (by decide)) (sz_lit _ (by decide)) (by decide) (by decide)).mono ?_
          rintro e wq0 ⟨hbq, u0, v0, rfl, hu, hv⟩
          obtain ⟨s0, x0, p0, rfl, _⟩ := hu.dg
          obtain ⟨s0', x0', p0', rfl, _⟩ := hv.dg
          have kq0 := kst0 kb hbq
          have F := hz_two hu hv
          clear hu hv hbq kb HA HB k11
          have F := (⟨F.1, F.2⟩ : Hz wq0.heap.size (-3) _ ∧ Hz (wq0.heap.size + 1) 1 _)
          go_wp2_with fail
          refine (int_any (-7) _ (by unfold I64; omega)).mono ?_
          rintro e wa ⟨hba, va, rfl, ha⟩
          have HA := Lib.hid ha
          have ka := kst0 (kal (kal kq0 _) _) hba
          have F := Lib.hid (F2keep F hba)
          clear ha hba
          go_wp2_with fail
          refine (int_any (-2) _ (by unfold I64; omega)).mono ?_
          rintro e wb ⟨hbb, vb, rfl, hb'⟩
          have HA := Lib.hid (HA.out.keep hbb (Nat.le_refl _))
          have HB := Lib.hid hb'
          have kb := kst0 ka hbb
          have F := Lib.hid (F2keep F.out hbb)
          clear hb' hbb ka
          go_wp2_with fail
          refine (quoM (q := 4) (r := 1) va vb _ HA.out HB.out (by decide) (sz_lit _ (by decide)) (sz_lit _ (by decide)) (by decide) (by decide)).mono ?_
          rintro e wq1 ⟨hbq, u1, v1, rfl, hu, hv⟩
          obtain ⟨s1, x1, p1, rfl, _⟩ := hu.dg
          obtain ⟨s1', x1', p1', rfl, _⟩ := hv.dg
          have kq1 := kst0 kb hbq
          have F := Lib.hid (F2keep F.out hbq)
          have G := hz_two hu hv
          have F := Lib.hid (show F4 wq0.heap.size (wq0.heap.size + 1) wq1.heap.size (wq1.heap.size + 1) _ from ⟨(F.out.1.keep (bl1 _ _)).keep (bl1 _ _), (F.out.2.keep (bl1 _ _)).keep (bl1 _ _), G.1, G.2⟩)
          have k12 := kal (kal kq1 (.cells #[.bool s1, .int .u64 x1, .pointer p1] 29)) (.cells #[.bool s1', .int .u64 x1', .pointer p1'] 29)
          clear hu hv hbq kb HA HB kq0 kq1 G
          obtain ⟨sa, xa, pa, ca, za⟩ := F.out.1
          obtain ⟨i1, i2, i3⟩ := b3_blk ca
          have ZA := Lib.hid za
          clear ca za
          go_wp2_with fail
          refine (txS _ (-3) _ ⟨#[45, 51]⟩ ZA.out (sz_lit _ (by decide)) tx3m).mono ?_
          rintro e w13 ⟨hb, rfl⟩
          have k13 := kst0 k12 hb
          have F := Lib.hid (F.out.keep hb)
          clear i1 i2 i3 hb ZA k12
          obtain ⟨sa, xa, pa, ca, za⟩ := F.out.2.1
          obtain ⟨i1, i2, i3⟩ := b3_blk ca
          have ZA := Lib.hid za
          clear ca za
          go_wp2_with fail
          refine (txS _ (1) _ ⟨#[49]⟩ ZA.out (sz_lit _ (by decide)) tx1).mono ?_
          rintro e w14 ⟨hb, rfl⟩
          have k14 := kst0 k13 hb
          have F := Lib.hid (F.out.keep hb)
          clear i1 i2 i3 hb ZA k13
          obtain ⟨sa, xa, pa, ca, za⟩ := F.out.2.2.1
          obtain ⟨i1, i2, i3⟩ := b3_blk ca
          have ZA := Lib.hid za
          clear ca za
          go_wp2_with fail
          refine (txS _ (4) _ ⟨#[52]⟩ ZA.out (sz_lit _ (by decide)) tx4p).mono ?_
          rintro e w15 ⟨hb, rfl⟩
          have k15 := kst0 k14 hb
          have F := Lib.hid (F.out.keep hb)
          clear i1 i2 i3 hb ZA k14
          obtain ⟨sa, xa, pa, ca, za⟩ := F.out.2.2.2
          obtain ⟨i1, i2, i3⟩ := b3_blk ca
          have ZA := Lib.hid za
          clear ca za
          go_wp2_with fail
          refine (txS _ (1) _ ⟨#[49]⟩ ZA.out (sz_lit _ (by decide)) tx1).mono ?_
          rintro e w16 ⟨hb, rfl⟩
          have k16 := kst0 k15 hb
          have F := Lib.hid (F.out.keep hb)
          clear i1 i2 i3 hb ZA k15
          clear F
          go_wp2_with fail
          refine (int_any (-5) _ (by unfold I64; omega)).mono ?_
          rintro e w17 ⟨hb, va, rfl, ha⟩
          have k17 := kst0 k16 hb
          have HA := Lib.hid ha
          clear ha hb k16
          go_wp2_with fail
          refine (gcd05 _ _ _ (Zr.zero _) HA.out).mono ?_
          rintro e w18 ⟨hb, va, rfl, ha⟩
          have k18 := kst0 k17 hb
          have HA := Lib.hid ha
          clear ha hb k17
          go_wp2_with fail
          refine (txS _ 5 _ ⟨#[53]⟩ HA.out (sz_lit _ (by decide)) tx5p).mono ?_
          rintro e w19 ⟨hb, rfl⟩
          have k19 := kst0 k18 hb
          clear hb HA k18
          go_wp2_with fail
          refine (nmR72 _).mono ?_
          rintro e w20 ⟨hb, va, rfl, ha⟩
          have k20 := kst0 k19 hb
          have HA := Lib.hid ha
          clear ha hb k19
          go_wp2_with fail
          refine (floor72 _ _ HA.out).mono ?_
          rintro e w21 ⟨hb, va, rfl, ha⟩
          have k21 := kst0 k20 hb
          have HA := Lib.hid ha
          clear ha hb k20
          go_wp2_with fail
          refine (txS _ (-4) _ ⟨#[45, 52]⟩ HA.out (sz_lit _ (by decide)) tx4).mono ?_
          rintro e w22 ⟨hb, rfl⟩
          have k22 := kst0 k21 hb
          clear hb HA k21
          go_wp2_with fail
          refine (nmR72 _).mono ?_
          rintro e w23 ⟨hb, va, rfl, ha⟩
          have k23 := kst0 k22 hb
          have HA := Lib.hid ha
          clear ha hb k22
          go_wp2_with fail
          refine (ceil72 _ _ HA.out).mono ?_
          rintro e w24 ⟨hb, va, rfl, ha⟩
          have k24 := kst0 k23 hb
          have HA := Lib.hid ha
          clear ha hb k23
          go_wp2_with fail
          refine (txS _ (-3) _ ⟨#[45, 51]⟩ HA.out (sz_lit _ (by decide)) tx3m).mono ?_
          rintro e w25 ⟨hb, rfl⟩
          have k25 := kst0 k24 hb
          clear hb HA k24
          go_wp2_with fail
          refine (int_any 1 _ (by unfold I64; omega)).mono ?_
          rintro e w26 ⟨hb, va, rfl, ha⟩
          obtain ⟨sp, xp, pp, rfl, _⟩ := ha.dg
          have HP := Lib.hid (show Hz w26.heap.size (fac 0) _ from Hz.new ha)
          have K25 := Lib.hid (kst0 k25 hb).size
          have k26 := kal (kst0 k25 hb) (.cells #[.bool sp, .int .u64 xp, .pointer pp] 29)
          clear hb ha k25
          have LT := Lib.hid (show w.heap.size ≤ w26.heap.size from Nat.le_trans K25.out (Nat.le_refl _))
          go_wp2
          go_loopw [27] (fun i wr => ∃ k : Nat, k ≤ 25 ∧ i = .int .i64 ((k : Int) + 1) ∧ Below w.heap.size w wr ∧ Hz w26.heap.size (fac k) wr) (fun i _ => 26 - (intOf i).toNat)
          case atStart => exact ⟨0, by decide, rfl, k26, HP.out⟩
          case round =>
            obtain ⟨k, hk, rfl, hbel, hP⟩ := hrel
            have lT : w.heap.size ≤ w26.heap.size := LT.out
            by_cases hlt : k < 25
            · have hlt' : (k : Int) + 1 ≤ 25 := by omega
              have HP := Lib.hid hP
              have FS := Lib.hid (fac_sz k (by omega))
              have K0 := Lib.hid hbel
              clear hP hbel
              go_upto_region 30 with fail
              focus
                refine wp_region_two DN30 (tabN30 k) (fun w' => Below w.heap.size w w' ∧ Hz w26.heap.size (fac k) w') 4 (fun _ _ we => Below w.heap.size w we ∧ Hz w26.heap.size (fac (k + 1)) we) (by kernel_rfl) (by kernel_rfl) (by kernel_rfl) (by kernel_rfl) (by decide) (by kernel_rfl) (fun _ _ h hb => ⟨Below.thru h.1 h.1.size hb, h.2.keep hb⟩) ⟨K0.out.drew, HP.out.keep (Below.refl _ _).drew⟩ ?_ ?_ ?_
                · refine .cons (fun f w' hI hs => ?_) ?_
                  · obtain ⟨s, x, p, h1, h2⟩ := hI.2
                    exact ⟨wanted_none rfl, _, rfl, .val (rn_load29 rfl (fr_old rfl rfl) (b3_blk h1)) ⟨Below.refl _ _, h2⟩⟩
                  refine .cons (fun f w' hI hs => ⟨wanted_none rfl, _, rfl, .val (rn_move rfl) ⟨Below.refl _ _, fr_old rfl rfl⟩⟩) ?_
                  refine .cons (fun f w' hI hs => ⟨wanted_none rfl, _, rfl, .call1 rfl cf12 rfl rfl (by rw [show f 198 = Value.int .i64 ((k : Int) + 1) from (hs 198 (by kernel_rfl))]; exact PZ.kd (int_any _ _ (by unfold I64; omega)))⟩) ?_
                  exact .cons (fun f w' hI hs => ⟨wanted_none rfl, _, rfl, .call2 rfl cf18 rfl rfl rfl rfl (PZ.kd (zmul_any _ _ (fac k) ((k : Int) + 1) _ (hs 197 (by kernel_rfl)) (hs 199 (by kernel_rfl)) FS.out (sz_lit _ (by omega))))⟩) .nil
                · refine .cons (fun f w' h => ⟨wanted_none rfl, ?_⟩) .nil
                  obtain ⟨hI, hs⟩ := (if_pos rfl) ▸ h
                  have h1 : Zr w' (f 200) (fac (k + 1)) := hs 200 (by kernel_rfl)
                  obtain ⟨s, x, p, _, e, _⟩ := id h1
                  rw [e] at h1
                  exact .skip (rn_store29 rfl (fr_old rfl rfl) ((fr_own rfl rfl).trans e) hI.2.rz) ⟨below3 hI.1 lT _ _ _, Hz.stored hI.2.rz h1⟩
                · intro f w' h
                  have HC := Lib.hid h
                  clear h HP K0
                  go_step
                  simp only [fr, over, DN30, Nat.reduceAdd]
                  go_wp2
                  go_roundw
                  case rel => exact ⟨k + 1, by omega, by go_num, HC.out.1, HC.out.2⟩
                  case measure => simp [intOf]; omega
            · obtain rfl : k = 25 := by omega
              rw [show ((25 : Nat) : Int) + 1 = 26 from rfl]
              obtain ⟨wB, hwB⟩ : ∃ x, x = wr := ⟨_, rfl⟩
              subst hwB
              have HP := Lib.hid hP
              clear hP hlt hk
              have Q25 := Lib.hid quo25; have T25 := Lib.hid text25; have C25 := Lib.hid cmp25; have SQ := Lib.hid q9_sz; have SQD := Lib.hid q9d_sz; have SM := Lib.hid m9_sz; have MS := Lib.hid m9_sgn; have MC := Lib.hid m9_cmp
              generalize fac 25 = P at HP Q25 T25 C25
              generalize q9 = q at Q25 C25 SQ SQD
              generalize m9 = m at Q25 C25 SM MS MC
              go_upto_region 31 with fail
              go_cut [28, 29, 30] (fun a b c we => ∃ T U, a = .pointer (some ⟨T, 0, none⟩) ∧ b = .pointer (some ⟨U, 0, none⟩) ∧ c = .int .i64 0 ∧ Hz T q we ∧ Hz U m we ∧ Below wB.heap.size wB we)
              case first =>
                rename_i J K' hJ hK
                refine wp_region_alg DN31 (tabN31 wB.heap.size P q m) alN31 9 (fun i f w' => Below wB.heap.size wB w' ∧ (10 ≤ i → ∃ T, f 28 = .pointer (some ⟨T, 0, none⟩) ∧ Hz T q w') ∧ (11 ≤ i → ∃ T, f 29 = .pointer (some ⟨T, 0, none⟩) ∧ Hz T m w')) (by kernel_rfl) (by kernel_rfl) (by kernel_rfl) (by kernel_rfl) (by decide) (by kernel_rfl) (fun i f f' w' w'' hI hb he => ⟨Below.thru hI.1 hI.1.size hb, fun h => by
                    obtain ⟨T, h1, h2⟩ := hI.2.1 h
                    rcases he with he | he
                    · omega
                    · exact ⟨T, (he 28 rfl).trans h1, h2.keep hb⟩, fun h => by
                    obtain ⟨T, h1, h2⟩ := hI.2.2 h
                    rcases he with he | he
                    · omega
                    · exact ⟨T, (he 29 rfl).trans h1, h2.keep hb⟩⟩) (by kernel_rfl) (fun f => ⟨(Below.refl _ _).drew, fun h => absurd h (by decide), fun h => absurd h (by decide)⟩) ?_ ?_ ?_
                · refine .cons (fun j f w' hj hI hs => ?_) ?_
                  · obtain ⟨s, x, p, h1, h2⟩ := HP.out.keep hI.1
                    exact ⟨wanted_none rfl, _, rfl, .val (rn_load29 rfl (fr_old rfl rfl) (b3_blk h1)) ⟨⟨Below.refl _ _, h2⟩, (fun h => by cases h)⟩⟩
                  refine .cons (fun j f w' hj hI hs => ⟨wanted_none rfl, _, rfl, .callc rfl cf38 ((PZ.kd (nmZ9 _)).mono fun _ _ ⟨v, he, hr⟩ => ⟨v, he, hr, (fun h => by cases h)⟩)⟩) ?_
                  refine .cons (fun j f w' hj hI hs => ⟨wanted_none rfl, _, rfl, .call2 rfl cf30 rfl rfl rfl rfl ((Q25.out _ _ _ (hs 202 (by kernel_rfl)) (hs 203 (by kernel_rfl))).mono fun _ _ ⟨hb, u, v, he, h1, h2⟩ => ⟨_, he, ⟨hb, u, v, rfl, h1, h2⟩, (fun h => by cases h)⟩)⟩) ?_
                  refine .cons (fun j f w' hj hI hs => ⟨wanted_none rfl, _, rfl, .val (rn_move rfl) ⟨⟨Below.refl _ _, by have := (hs 204 (by kernel_rfl)); rw [fr_own rfl rfl]; exact this⟩, (fun h => by cases h)⟩⟩) ?_
                  refine .cons (fun j f w' hj hI hs => ?_) ?_
                  · obtain ⟨u, v, e, h1, h2⟩ : ∃ u v, f 201 = .tuple #[u, v, .int .i64 0] ∧ Zr w' u q ∧ Zr w' v m := (hs 201 (by kernel_rfl))
                    exact ⟨wanted_none rfl, _, rfl, .val (rn_ext3_0 rfl ((fr_own rfl rfl).trans e)) ⟨⟨Below.refl _ _, h1⟩, (fun h => by cases h)⟩⟩
                  refine .cons (fun j f w' hj hI hs => ?_) ?_
                  · obtain ⟨u, v, e, h1, h2⟩ : ∃ u v, f 201 = .tuple #[u, v, .int .i64 0] ∧ Zr w' u q ∧ Zr w' v m := (hs 201 (by kernel_rfl))
                    exact ⟨wanted_none rfl, _, rfl, .val (rn_ext3_1 rfl ((fr_own rfl rfl).trans e)) ⟨⟨Below.refl _ _, h2⟩, (fun h => by cases h)⟩⟩
                  refine .cons (fun j f w' hj hI hs => ?_) ?_
                  · obtain ⟨u, v, e, h1, h2⟩ : ∃ u v, f 201 = .tuple #[u, v, .int .i64 0] ∧ Zr w' u q ∧ Zr w' v m := (hs 201 (by kernel_rfl))
                    exact ⟨wanted_none rfl, _, rfl, .val (rn_ext3_2 rfl ((fr_own rfl rfl).trans e)) ⟨⟨Below.refl _ _, rfl⟩, (fun h => by cases h)⟩⟩
                  refine .cons (fun j f w' hj hI hs => ⟨wanted_none rfl, _, rfl, .val (rn_alloc29 rfl) ⟨⟨bl1 _ _, _, rfl, hI.1.size, _, _, _, Go.Deep.blk_alloc_new _ _⟩, fun _ => ⟨rfl, by simp⟩⟩⟩) ?_
                  refine .cons (fun j f w' hj hI hs => ⟨wanted_none rfl, _, rfl, .val (rn_alloc29 rfl) ⟨⟨bl1 _ _, _, rfl, hI.1.size, _, _, _, Go.Deep.blk_alloc_new _ _⟩, fun _ => ⟨rfl, by simp⟩⟩⟩) .nil
                · refine .cons (fun f w' hI hs hne => ⟨wanted_none rfl, ?_⟩) ?_
                  · have h1 : Zr w' (f 205) q := (hs 205 (by kernel_rfl))
                    obtain ⟨T, e, hB, hz⟩ : ∃ T, f 28 = .pointer (some ⟨T, 0, none⟩) ∧ wB.heap.size ≤ T ∧ Rz T w' := (hs 28 (by kernel_rfl))
                    obtain ⟨s1, x1, p1, n1, e1, _⟩ := id h1
                    rw [e1] at h1
                    exact .skip (rn_store29 rfl ((fr_own rfl rfl).trans e) ((fr_own rfl rfl).trans e1) hz) ⟨⟨⟨below3 hI.1 hB _ _ _, fun _ => ⟨T, e, Hz.stored hz h1⟩, fun h => absurd h (by decide)⟩, fun t v => (kN31 t) hz, fun d h => by cases h⟩, by simp [World.setCell]⟩
                  refine .cons (fun f w' hI hs hne => ⟨wanted_none rfl, ?_⟩) ?_
                  · have h1 : Zr w' (f 206) m := (hs 206 (by kernel_rfl))
                    obtain ⟨T, e, hB, hz⟩ : ∃ T, f 29 = .pointer (some ⟨T, 0, none⟩) ∧ wB.heap.size ≤ T ∧ Rz T w' := (hs 29 (by kernel_rfl))
                    obtain ⟨T5, e5, h5⟩ := hI.2.1 (by decide)
                    have hne2 : T5 ≠ T := by
                      intro e'
                      have := hne 28 29 (by kernel_rfl) (by kernel_rfl) rfl rfl (by decide)
                      rw [e5, e, e'] at this
                      exact this rfl
                    obtain ⟨s1, x1, p1, n1, e1, _⟩ := id h1
                    rw [e1] at h1
                    exact .skip (rn_store29 rfl ((fr_own rfl rfl).trans e) ((fr_own rfl rfl).trans e1) hz) ⟨⟨⟨below3 hI.1 hB _ _ _, fun _ => ⟨T5, e5, h5.st hz.odd (grown3 _ _ _ _ _ _ _ _) hne2⟩, fun _ => ⟨T, e, Hz.stored hz h1⟩⟩, fun t v => (kN31 t) hz, fun d h => by cases h⟩, by simp [World.setCell]⟩
                  refine .cons (fun f w' hI hs hne => ⟨wanted_none rfl, ?_⟩) .nil
                  obtain ⟨T5, e5, h5⟩ := hI.2.1 (by decide)
                  obtain ⟨T6, e6, h6⟩ := hI.2.2 (by decide)
                  exact .val (rn_assign rfl) ⟨⟨⟨hI.1, fun _ => ⟨T5, e5, h5⟩, fun _ => ⟨T6, e6, h6⟩⟩, fun d v h => h, fun d h => by cases h; exact ⟨rfl, (fr_own rfl rfl).trans (hs 207 (by kernel_rfl))⟩⟩, Nat.le_refl _⟩
                · intro f w' hI hk
                  obtain ⟨T, h1, h2⟩ := hI.2.1 (by decide)
                  obtain ⟨U, h3, h4⟩ := hI.2.2 (by decide)
                  have h5 : f 30 = .int .i64 0 := hk 30 (by kernel_rfl)
                  refine hK _ _ (Met.intro (hJ _ _ ?_))
                  (repeat apply Exists.intro)
                  refine ⟨?_, rfl⟩
                  exact ⟨T, U, h1, h3, h5, h2, h4, hI.1⟩
              case rest =>
                obtain ⟨T, U, rfl, rfl, rfl, hQ, hM, kB⟩ := hcut
                have G0 := Lib.hid (show GN w w26.heap.size T U P q m wc from ⟨Below.thru hbel hbel.size kB, HP.out.keep kB, hQ, hM⟩)
                clear hQ hM kB hbel HP
                go_upto_region 32 with fail
                go_cut [235] (fun v we => v = .bool false ∧ Below w.heap.size w we)
                case first =>
                  rename_i J K' hJ hK
                  refine wp_region_kd DN32 (tabN32 P q m) (GN w w26.heap.size T U P q m) (by kernel_rfl) (by kernel_rfl) (by kernel_rfl) (by kernel_rfl) (fun _ _ h hb => h.keep hb) (G0.out.keep (Below.refl _ _).drew) ?_ ?_
                  · refine .cons (fun f w' hI hs => ⟨wanted_none rfl, _, rfl, .val (rn_move rfl) ⟨Below.refl _ _, (fr_old rfl rfl)⟩⟩) ?_
                    refine .cons (fun f w' hI hs => ⟨wanted_none rfl, _, rfl, .val (rn_neqO rfl ((fr_own rfl rfl).trans (hs 208 (by kernel_rfl)))) ⟨Below.refl _ _, rfl⟩⟩) ?_
                    refine .cons (fun f w' hI hs => ⟨wanted_none rfl, _, rfl, .val (rn_move rfl) ⟨Below.refl _ _, ((fr_own rfl rfl).trans (hs 209 (by kernel_rfl)))⟩⟩) ?_
                    refine .cons (fun f w' hI hs => ?_) ?_
                    · obtain ⟨s, x, p, h1, h2⟩ := hI.p
                      exact ⟨wanted_some rfl (by kernel_rfl) rfl rfl (hs 210 (by kernel_rfl)), _, rfl, .val (rn_load29 rfl (fr_old rfl rfl) (b3_blk h1)) ⟨Below.refl _ _, h2⟩⟩
                    refine .cons (fun f w' hI hs => ⟨wanted_some rfl (by kernel_rfl) rfl rfl (hs 210 (by kernel_rfl)), _, rfl, .call1 rfl cf39 rfl rfl (PSt.kd (T25.out _ _ (hs 211 (by kernel_rfl))))⟩) ?_
                    refine .cons (fun f w' hI hs => ⟨wanted_some rfl (by kernel_rfl) rfl rfl (hs 210 (by kernel_rfl)), _, rfl, .val (rn_neqS rfl ((fr_own rfl rfl).trans (hs 212 (by kernel_rfl))) rfl) ⟨Below.refl _ _, rfl⟩⟩) ?_
                    refine .cons (fun f w' hI hs => ⟨wanted_none rfl, _, rfl, .val (rn_pick_f rfl ((fr_own rfl rfl).trans (hs 210 (by kernel_rfl)))) ⟨Below.refl _ _, ((fr_own rfl rfl).trans (hs 213 (by kernel_rfl)))⟩⟩) ?_
                    refine .cons (fun f w' hI hs => ⟨wanted_none rfl, _, rfl, .val (rn_move rfl) ⟨Below.refl _ _, ((fr_own rfl rfl).trans (hs 214 (by kernel_rfl)))⟩⟩) ?_
                    refine .cons (fun f w' hI hs => ?_) ?_
                    · obtain ⟨s, x, p, h1, h2⟩ := hI.q
                      exact ⟨wanted_some rfl (by kernel_rfl) rfl rfl (hs 215 (by kernel_rfl)), _, rfl, .val (rn_load29 rfl (fr_old rfl rfl) (b3_blk h1)) ⟨Below.refl _ _, h2⟩⟩
                    refine .cons (fun f w' hI hs => ⟨wanted_some rfl (by kernel_rfl) rfl rfl (hs 215 (by kernel_rfl)), _, rfl, .callc rfl cf38 (PZ.kd (nmZ9 _))⟩) ?_
                    refine .cons (fun f w' hI hs => ⟨wanted_some rfl (by kernel_rfl) rfl rfl (hs 215 (by kernel_rfl)), _, rfl, .call2 rfl cf18 rfl rfl rfl rfl (PZ.kd (zmul_any _ _ q 9999999967 _ (hs 216 (by kernel_rfl)) (hs 217 (by kernel_rfl)) SQ.out d9_sz))⟩) ?_
                    refine .cons (fun f w' hI hs => ?_) ?_
                    · obtain ⟨s, x, p, h1, h2⟩ := hI.m
                      exact ⟨wanted_some rfl (by kernel_rfl) rfl rfl (hs 215 (by kernel_rfl)), _, rfl, .val (rn_load29 rfl (fr_old rfl rfl) (b3_blk h1)) ⟨Below.refl _ _, h2⟩⟩
                    refine .cons (fun f w' hI hs => ⟨wanted_some rfl (by kernel_rfl) rfl rfl (hs 215 (by kernel_rfl)), _, rfl, .call2 rfl cf14 rfl rfl rfl rfl (PZ.kd (zadd_any _ _ (q * 9999999967) m _ (hs 218 (by kernel_rfl)) (hs 219 (by kernel_rfl)) SQD.out SM.out))⟩) ?_
                    refine .cons (fun f w' hI hs => ?_) ?_
                    · obtain ⟨s, x, p, h1, h2⟩ := hI.p
                      exact ⟨wanted_some rfl (by kernel_rfl) rfl rfl (hs 215 (by kernel_rfl)), _, rfl, .val (rn_load29 rfl (fr_old rfl rfl) (b3_blk h1)) ⟨Below.refl _ _, h2⟩⟩
                    refine .cons (fun f w' hI hs => ⟨wanted_some rfl (by kernel_rfl) rfl rfl (hs 215 (by kernel_rfl)), _, rfl, .call2 rfl cf25 rfl rfl rfl rfl (PSi0.kd (C25.out _ _ _ (hs 220 (by kernel_rfl)) (hs 221 (by kernel_rfl))))⟩) ?_
                    refine .cons (fun f w' hI hs => ⟨wanted_some rfl (by kernel_rfl) rfl rfl (hs 215 (by kernel_rfl)), _, rfl, .val (rn_neq rfl ((fr_own rfl rfl).trans (hs 222 (by kernel_rfl))) rfl) ⟨Below.refl _ _, rfl⟩⟩) ?_
                    refine .cons (fun f w' hI hs => ⟨wanted_none rfl, _, rfl, .val (rn_pick_f rfl ((fr_own rfl rfl).trans (hs 215 (by kernel_rfl)))) ⟨Below.refl _ _, ((fr_own rfl rfl).trans (hs 223 (by kernel_rfl)))⟩⟩) ?_
                    refine .cons (fun f w' hI hs => ⟨wanted_none rfl, _, rfl, .val (rn_move rfl) ⟨Below.refl _ _, ((fr_own rfl rfl).trans (hs 224 (by kernel_rfl)))⟩⟩) ?_
                    refine .cons (fun f w' hI hs => ?_) ?_
                    · obtain ⟨s, x, p, h1, h2⟩ := hI.m
                      exact ⟨wanted_some rfl (by kernel_rfl) rfl rfl (hs 225 (by kernel_rfl)), _, rfl, .val (rn_load29 rfl (fr_old rfl rfl) (b3_blk h1)) ⟨Below.refl _ _, h2⟩⟩
                    refine .cons (fun f w' hI hs => ⟨wanted_some rfl (by kernel_rfl) rfl rfl (hs 225 (by kernel_rfl)), _, rfl, .call1 rfl cf24 rfl rfl (PSi.kdn (sign_any _ m _ (hs 226 (by kernel_rfl))))⟩) ?_
                    refine .cons (fun f w' hI hs => ⟨wanted_some rfl (by kernel_rfl) rfl rfl (hs 225 (by kernel_rfl)), _, rfl, .val (rn_lss3 rfl ((fr_own rfl rfl).trans (hs 227 (by kernel_rfl))) rfl MS.out) ⟨Below.refl _ _, rfl⟩⟩) ?_
                    refine .cons (fun f w' hI hs => ⟨wanted_none rfl, _, rfl, .val (rn_pick_f rfl ((fr_own rfl rfl).trans (hs 225 (by kernel_rfl)))) ⟨Below.refl _ _, ((fr_own rfl rfl).trans (hs 228 (by kernel_rfl)))⟩⟩) ?_
                    refine .cons (fun f w' hI hs => ⟨wanted_none rfl, _, rfl, .val (rn_move rfl) ⟨Below.refl _ _, ((fr_own rfl rfl).trans (hs 229 (by kernel_rfl)))⟩⟩) ?_
                    refine .cons (fun f w' hI hs => ?_) ?_
                    · obtain ⟨s, x, p, h1, h2⟩ := hI.m
                      exact ⟨wanted_some rfl (by kernel_rfl) rfl rfl (hs 230 (by kernel_rfl)), _, rfl, .val (rn_load29 rfl (fr_old rfl rfl) (b3_blk h1)) ⟨Below.refl _ _, h2⟩⟩
                    refine .cons (fun f w' hI hs => ⟨wanted_some rfl (by kernel_rfl) rfl rfl (hs 230 (by kernel_rfl)), _, rfl, .callc rfl cf38 (PZ.kd (nmZ9 _))⟩) ?_
                    refine .cons (fun f w' hI hs => ⟨wanted_some rfl (by kernel_rfl) rfl rfl (hs 230 (by kernel_rfl)), _, rfl, .call2 rfl cf25 rfl rfl rfl rfl (PSg.kdn (zcmp_any _ _ m 9999999967 _ (hs 231 (by kernel_rfl)) (hs 232 (by kernel_rfl))))⟩) ?_
                    refine .cons (fun f w' hI hs => ⟨wanted_some rfl (by kernel_rfl) rfl rfl (hs 230 (by kernel_rfl)), _, rfl, .val (rn_geqS rfl ((fr_own rfl rfl).trans (hs 233 (by kernel_rfl))) rfl MC.out) ⟨Below.refl _ _, rfl⟩⟩) ?_
                    refine .cons (fun f w' hI hs => ⟨wanted_none rfl, _, rfl, .val (rn_pick_f rfl ((fr_own rfl rfl).trans (hs 230 (by kernel_rfl)))) ⟨Below.refl _ _, ((fr_own rfl rfl).trans (hs 234 (by kernel_rfl)))⟩⟩) .nil
                  · intro f w' hI hk
                    have h5 : f 235 = .bool false := hk 235 (by kernel_rfl)
                    refine hK _ _ (Met.intro (hJ _ _ ?_))
                    (repeat apply Exists.intro)
                    refine ⟨?_, rfl⟩
                    exact ⟨h5, hI.k⟩
                case rest =>
                  obtain ⟨rfl, k0⟩ := hcut
                  clear G0
                  go_wp2_with fail
                  refine (int_any (-9223372036854775808) _ (by unfold I64; omega)).mono ?_
                  rintro e w1 ⟨hb, va, rfl, ha⟩
                  have k1 := kst0 k0 hb
                  have HA := Lib.hid ha
                  clear ha hb k0
                  go_wp2_with fail
                  refine (i64low _ _ HA.out).mono ?_
                  rintro e w2 ⟨hb, rfl⟩
                  have k2 := kst0 k1 hb
                  clear hb HA k1
                  go_wp2_with fail
                  refine (int_any 9223372036854775807 _ (by unfold I64; omega)).mono ?_
                  rintro e w3 ⟨hb, va, rfl, ha⟩
                  have k3 := kst0 k2 hb
                  have HA := Lib.hid ha
                  clear ha hb k2
                  go_wp2_with fail
                  refine (int_any 1 _ (by unfold I64; omega)).mono ?_
                  rintro e w4 ⟨hb, vb, rfl, hb'⟩
                  have k4 := kst0 k3 hb
                  have HA := Lib.hid (HA.out.keep hb (Nat.le_refl _))
                  have HB := Lib.hid hb'
                  clear hb' hb k3
                  go_wp2_with fail
                  refine (zadd_any _ _ 9223372036854775807 1 _ HA.out HB.out ⟨1, by omega, by decide +kernel⟩ (sz_lit _ (by decide))).mono ?_
                  rintro e w5 ⟨hb, va, rfl, ha⟩
                  have k5 := kst0 k4 hb
                  have HA := Lib.hid ha
                  clear ha hb k4 HB
                  go_wp2_with fail
                  refine (i64no _ _ HA.out).mono ?_
                  rintro e w6 ⟨hb, rfl⟩
                  have k6 := kst0 k5 hb
                  clear hb HA k5
                  --M1
                  go_wp2_with fail
                  refine (of_any 1 _ (by unfold I64; omega)).mono ?_
                  rintro e w7 ⟨hB, va, rfl, ha⟩
                  obtain ⟨sa, xa, pa, ya, qa, rfl⟩ := ha.agg
                  have k7 := kst0 k6 hB
                  have Ha := Lib.hid ha
                  clear ha hB k6
                  --Ma
                  go_wp2_with fail
                  refine (of_any 2 _ (by unfold I64; omega)).mono ?_
                  rintro e w8 ⟨hB, vb, rfl, hb⟩
                  obtain ⟨sb, xb, pb, yb, qb, rfl⟩ := hb.agg
                  have k8 := kst0 k7 hB
                  have Hb := Lib.hid hb
                  have Ha := Lib.hid (Ha.out.keep hB (Nat.le_refl _))
                  clear hb hB k7
                  --Mb
                  go_wp2_with fail
                  refine (of_any 3 _ (by unfold I64; omega)).mono ?_
                  rintro e w9 ⟨hB, vc, rfl, hc⟩
                  obtain ⟨sc, xc, pc, yc, qc, rfl⟩ := hc.agg
                  have k9 := kst0 k8 hB
                  have Hc := Lib.hid hc
                  have Ha := Lib.hid (Ha.out.keep hB (Nat.le_refl _))
                  have Hb := Lib.hid (Hb.out.keep hB (Nat.le_refl _))
                  clear hc hB k8
                  --Mc
                  go_wp2_with fail
                  refine (of_any 4 _ (by unfold I64; omega)).mono ?_
                  rintro e w10 ⟨hB, vd, rfl, hd⟩
                  obtain ⟨sd, xd, pd, yd, qd, rfl⟩ := hd.agg
                  have k10 := kst0 k9 hB
                  have Hd := Lib.hid hd
                  have Ha := Lib.hid (Ha.out.keep hB (Nat.le_refl _))
                  have Hb := Lib.hid (Hb.out.keep hB (Nat.le_refl _))
                  have Hc := Lib.hid (Hc.out.keep hB (Nat.le_refl _))
                  clear hd hB k9
                  --Md
                  have kW := bl2 w10 (.cells #[.bool sa, .int .u64 xa, .pointer pa, .int .u64 ya, .pointer qa, .bool sb, .int .u64 xb, .pointer pb, .int .u64 yb, .pointer qb] 71) (.cells #[.bool sc, .int .u64 xc, .pointer pc, .int .u64 yc, .pointer qc, .bool sd, .int .u64 xd, .pointer pd, .int .u64 yd, .pointer qd] 71)
                  have VU := Lib.hid (show V2 ((w10.alloc (.cells #[.bool sa, .int .u64 xa, .pointer pa, .int .u64 ya, .pointer qa, .bool sb, .int .u64 xb, .pointer pb, .int .u64 yb, .pointer qb] 71)).alloc (.cells #[.bool sc, .int .u64 xc, .pointer pc, .int .u64 yc, .pointer qc, .bool sd, .int .u64 xd, .pointer pd, .int .u64 yd, .pointer qd] 71)) (.agg #[.bool sa, .int .u64 xa, .pointer pa, .int .u64 ya, .pointer qa, .bool sb, .int .u64 xb, .pointer pb, .int .u64 yb, .pointer qb]) 1 2 from ⟨sa, sb, xa, ya, xb, yb, pa, qa, pb, qb, rfl, Ha.out.keep kW (Nat.le_refl _), Hb.out.keep kW (Nat.le_refl _)⟩)
                  have VV := Lib.hid (show V2 ((w10.alloc (.cells #[.bool sa, .int .u64 xa, .pointer pa, .int .u64 ya, .pointer qa, .bool sb, .int .u64 xb, .pointer pb, .int .u64 yb, .pointer qb] 71)).alloc (.cells #[.bool sc, .int .u64 xc, .pointer pc, .int .u64 yc, .pointer qc, .bool sd, .int .u64 xd, .pointer pd, .int .u64 yd, .pointer qd] 71)) (.agg #[.bool sc, .int .u64 xc, .pointer pc, .int .u64 yc, .pointer qc, .bool sd, .int .u64 xd, .pointer pd, .int .u64 yd, .pointer qd]) 3 4 from ⟨sc, sd, xc, yc, xd, yd, pc, qc, pd, qd, rfl, Hc.out.keep kW (Nat.le_refl _), Hd.out.keep kW (Nat.le_refl _)⟩)
                  have bU := Lib.hid (blk_keep (Go.Deep.blk_alloc_new w10 (.cells #[.bool sa, .int .u64 xa, .pointer pa, .int .u64 ya, .pointer qa, .bool sb, .int .u64 xb, .pointer pb, .int .u64 yb, .pointer qb] 71)) (bl1 _ (.cells #[.bool sc, .int .u64 xc, .pointer pc, .int .u64 yc, .pointer qc, .bool sd, .int .u64 xd, .pointer pd, .int .u64 yd, .pointer qd] 71)))
                  have bV := Lib.hid (Go.Deep.blk_alloc_new (w10.alloc (.cells #[.bool sa, .int .u64 xa, .pointer pa, .int .u64 ya, .pointer qa, .bool sb, .int .u64 xb, .pointer pb, .int .u64 yb, .pointer qb] 71)) (.cells #[.bool sc, .int .u64 xc, .pointer pc, .int .u64 yc, .pointer qc, .bool sd, .int .u64 xd, .pointer pd, .int .u64 yd, .pointer qd] 71))
                  rw [World.size_alloc] at bV
                  have k11 := kal (kal k10 (.cells #[.bool sa, .int .u64 xa, .pointer pa, .int .u64 ya, .pointer qa, .bool sb, .int .u64 xb, .pointer pb, .int .u64 yb, .pointer qb] 71)) (.cells #[.bool sc, .int .u64 xc, .pointer pc, .int .u64 yc, .pointer qc, .bool sd, .int .u64 xd, .pointer pd, .int .u64 yd, .pointer qd] 71)
                  clear Ha Hb Hc Hd kW k10
                  --M2
                  go_wp2_with fail
                  refine (cross12 _ _ _ VU.out VV.out).mono ?_
                  rintro e w12 ⟨hb, va, rfl, ha⟩
                  have HA := Lib.hid ha
                  have k12 := kst0 k11 hb
                  have VU := Lib.hid (V2.keep VU.out hb)
                  have VV := Lib.hid (V2.keep VV.out hb)
                  have bU := Lib.hid (blk_keep bU.out hb)
                  have bV := Lib.hid (blk_keep bV.out hb)
                  clear hb k11
                  clear ha
                  go_wp2_with fail
                  refine (txR _ (-2) _ ⟨#[45, 50]⟩ HA.out (sz_lit _ (by decide)) tx2m).mono ?_
                  rintro e w13 ⟨hb, rfl⟩
                  have k13 := kst0 k12 hb
                  have VU := Lib.hid (V2.keep VU.out hb)
                  have VV := Lib.hid (V2.keep VV.out hb)
                  have bU := Lib.hid (blk_keep bU.out hb)
                  have bV := Lib.hid (blk_keep bV.out hb)
                  clear hb k12
                  clear HA
                  --M3
                  have cu0 := cell_blk (i := 0) bU.out
                  have cu1 := cell_blk (i := 1) bU.out
                  have cu2 := cell_blk (i := 2) bU.out
                  have cu3 := cell_blk (i := 3) bU.out
                  have cu4 := cell_blk (i := 4) bU.out
                  have cu5 := cell_blk (i := 5) bU.out
                  have cu6 := cell_blk (i := 6) bU.out
                  have cu7 := cell_blk (i := 7) bU.out
                  have cu8 := cell_blk (i := 8) bU.out
                  have cu9 := cell_blk (i := 9) bU.out
                  have cv0 := cell_blk (i := 0) bV.out
                  have cv1 := cell_blk (i := 1) bV.out
                  have cv2 := cell_blk (i := 2) bV.out
                  have cv3 := cell_blk (i := 3) bV.out
                  have cv4 := cell_blk (i := 4) bV.out
                  have cv5 := cell_blk (i := 5) bV.out
                  have cv6 := cell_blk (i := 6) bV.out
                  have cv7 := cell_blk (i := 7) bV.out
                  have cv8 := cell_blk (i := 8) bV.out
                  have cv9 := cell_blk (i := 9) bV.out
                  go_wp2_with fail
                  refine (dot12 _ _ _ VU.out VV.out).mono ?_
                  rintro e w14 ⟨hb, va, rfl, ha⟩
                  clear cu0 cv0 cu1 cv1 cu2 cv2 cu3 cv3 cu4 cv4 cu5 cv5 cu6 cv6 cu7 cv7 cu8 cv8 cu9 cv9
                  have HA := Lib.hid ha
                  have k14 := kst0 k13 hb
                  have VU := Lib.hid (V2.keep VU.out hb)
                  have VV := Lib.hid (V2.keep VV.out hb)
                  have bU := Lib.hid (blk_keep bU.out hb)
                  have bV := Lib.hid (blk_keep bV.out hb)
                  clear hb k13
                  clear ha
                  go_wp2_with fail
                  refine (txR _ 11 _ ⟨#[49, 49]⟩ HA.out (sz_lit _ (by decide)) tx11p).mono ?_
                  rintro e w15 ⟨hb, rfl⟩
                  have k15 := kst0 k14 hb
                  have VU := Lib.hid (V2.keep VU.out hb)
                  have VV := Lib.hid (V2.keep VV.out hb)
                  have bU := Lib.hid (blk_keep bU.out hb)
                  have bV := Lib.hid (blk_keep bV.out hb)
                  clear hb k14
                  clear HA
                  have cu0 := cell_blk (i := 0) bU.out
                  have cu1 := cell_blk (i := 1) bU.out
                  have cu2 := cell_blk (i := 2) bU.out
                  have cu3 := cell_blk (i := 3) bU.out
                  have cu4 := cell_blk (i := 4) bU.out
                  have cu5 := cell_blk (i := 5) bU.out
                  have cu6 := cell_blk (i := 6) bU.out
                  have cu7 := cell_blk (i := 7) bU.out
                  have cu8 := cell_blk (i := 8) bU.out
                  have cu9 := cell_blk (i := 9) bU.out
                  go_wp2_with fail
                  refine (vtext12 _ _ VU.out).mono ?_
                  rintro e w16 ⟨hb, rfl⟩
                  have k16 := kst0 k15 hb
                  clear hb k15 VU VV bU bV cu0 cu1 cu2 cu3 cu4 cu5 cu6 cu7 cu8 cu9
                  go_wp2
                  go_ret
                  exact ⟨k16, rfl⟩
end Go.Proofs.Ytjjomjjgoceklaa
