import Derived.Test.YtjjomjjgoceklaaU
namespace Go.Proofs.Ytjjomjjgoceklaa
open Go.RowKit

@[reducible] def Cz (G : Nat) (s : Bool) (x : Int) (p : Option Addr) (w' : World) : Prop :=
  w'.cell? ⟨G, 0, none⟩ = some (.bool s) ∧ w'.cell? ⟨G, 1, none⟩ = some (.int .u64 x) ∧ w'.cell? ⟨G, 2, none⟩ = some (.pointer p)
theorem Cz.keep {G C : Nat} {s : Bool} {x : Int} {p : Option Addr} {w w' : World} (h : Cz G s x p w) (hb : Below C w w') (hG : G < C) : Cz G s x p w' :=
  ⟨(hb.cell (p := ⟨G, 0, none⟩) hG).trans h.1, (hb.cell (p := ⟨G, 1, none⟩) hG).trans h.2.1, (hb.cell (p := ⟨G, 2, none⟩) hG).trans h.2.2⟩
theorem Cz.st {G T : Nat} {s : Bool} {x : Int} {p : Option Addr} {w : World} (h : Cz G s x p w) (hG : G ≠ T) (a b c d e : Value) : Cz G s x p (st5 w T a b c d e) :=
  ⟨(cell_st5 w hG _ _ _ _ _ _).trans h.1, (cell_st5 w hG _ _ _ _ _ _).trans h.2.1, (cell_st5 w hG _ _ _ _ _ _).trans h.2.2⟩
/-- what is asked of two numbers so that their ratio can be made -/
def RatC (n d : Nat) : Prop := CommonC n d ∧ (Nat.gcd n d ≠ 1 → OverC n (Nat.gcd n d)) ∧ (Nat.gcd n d ≠ 1 → OverC d (Nat.gcd n d))
theorem ratC_small (n d : Nat) (hn : Wd n) (hd : Wd d) (h0 : 0 < d) : RatC n d :=
  ⟨common_small n d hn hd, fun _ => over_small n _ hn (gcd_wd hn hd) (by have := Nat.gcd_pos_of_pos_right n h0; omega), fun _ => over_small d _ hd (gcd_wd hn hd) (by have := Nat.gcd_pos_of_pos_right n h0; omega)⟩

theorem ofZ_nat (vn vd : Value) (a b : Nat) (w : World) (hn : Zr w vn (a : Int)) (hd : Zr w vd (b : Int)) (hb0 : 0 < b) (hr : RatC a b) : Calls Try.prog 67 #[vn, vd] w (PRe (Int.tdiv a (Nat.gcd a b : Nat)) (b / Nat.gcd a b) 0 w) := by
  have h := ofZ_pos vn vd a b w hn hd hb0
  rw [Int.natAbs_natCast] at h
  exact h hr.1 hr.2.1 hr.2.2
set_option maxRecDepth 100000 in
set_option maxHeartbeats 1600000 in
theorem parse_pos (s : ByteArray) (i a b : Nat) (w : World) (hs : s.size ≤ 1000) (hi : Lib.indexByte s.data.toList 47 = (i : Int)) (hlt : i < s.size) (h0 : 0 < i) (h45 : byteAt s 0 ≠ 45)
    (hna : NatP (s.extract 0 i)) (hnb : NatP (s.extract (i + 1) s.size)) (ha : dec (s.extract 0 i) i = a) (hb : dec (s.extract (i + 1) s.size) (s.size - (i + 1)) = b) (hb0 : 0 < b) (hr : RatC a b) :
    Calls Try.prog 33 #[.string s] w (PRe (Int.tdiv a (Nat.gcd a b : Nat)) (b / Nat.gcd a b) 0 w) := by
  have e1 := extract_size s 0 i (by omega)
  have e2 := extract_size s (i + 1) s.size (Nat.le_refl _)
  have e3 : byteAt (s.extract 0 i) 0 = byteAt s 0 := by rw [byteAt_extract s 0 i 0 (by omega) (by omega)]
  have HZ := Lib.hid (fun W => readZ_pos (s.extract 0 i) W (by omega) (by omega) (by rw [e3]; exact h45) hna)
  rw [e1, Nat.sub_zero, ha] at HZ
  have HB := Lib.hid (fun W => nat_yes (s.extract (i + 1) s.size) W (by omega) hnb)
  have HD := Lib.hid (fun W => readDigits_any (s.extract (i + 1) s.size) W (by omega) hnb.dig)
  rw [e2, hb] at HD
  have HI := Lib.hid hi
  have HR := Lib.hid hr
  clear hi hna hnb ha hb h45 e1 e2 e3 hr
  go_enter Try.func33, Try.ntmps33
  go_wp2_with fail
  refine (cut_one s 47 i _ (by omega) HI.out hlt).mono ?_
  rintro e w1 ⟨hb1, rfl⟩
  have t1 : Rq w.heap.size w1 := Rq.keep (rq_new _ rfl) hb1 (by simp)
  have k1 := Below.thru (bl1 w _) (by simp) hb1
  have z1 : w.heap.size + 1 ≤ w1.heap.size := Nat.le_trans (by simp) hb1.size
  go_wp2_with fail
  refine (HZ.out w1).mono ?_
  rintro e w2 ⟨hb2, v2, rfl, h2⟩
  have h2' := h2
  obtain ⟨s2, x2, p2, rfl, _, hneg, _⟩ := h2'.dg
  obtain rfl : s2 = false := by
    cases s2 with
    | false => rfl
    | true => have := hneg rfl; omega
  clear hneg
  have H2 := Lib.hid h2
  have t2 := t1.keep hb2 (by omega)
  have k2 := Below.thru k1 k1.size hb2
  have z2 : w.heap.size + 1 ≤ w2.heap.size := Nat.le_trans z1 hb2.size
  clear h2 hb1 t1 hb2 k1
  go_wp2_with fail
  refine (HB.out _).mono ?_
  rintro e w3 ⟨hb3, rfl⟩
  have k2' := Below.thru k2 k2.size (bl1 w2 (.cells #[.bool false, .int .u64 x2, .pointer p2] 29))
  have k3 := Below.thru k2' k2'.size hb3
  have q3 : Cz w2.heap.size false x2 p2 w3 := Cz.keep (by refine ⟨?_, ?_, ?_⟩ <;> simp [go_sem]) hb3 (by simp)
  have t3 := (t2.alloc (.cells #[.bool false, .int .u64 x2, .pointer p2] 29)).keep hb3 (by simp; omega)
  have z3 : w2.heap.size + 1 ≤ w3.heap.size := Nat.le_trans (by simp) hb3.size
  have H3 := Lib.hid ((H2.out.keep (bl1 w2 (.cells #[.bool false, .int .u64 x2, .pointer p2] 29)) (Nat.le_refl _)).keep hb3 (Nat.le_refl _))
  clear hb3 k2' t2
  go_wp2
  have q0 : Cz w2.heap.size false x2 p2 w3.drew := q3
  have t0 : Rq w.heap.size w3.drew := t3
  have k0 : Below w.heap.size w w3.drew := k3.drew
  have z0 : w2.heap.size + 1 ≤ w3.drew.heap.size := z3
  have hz0 : Zr w3.drew (.agg #[.bool false, .int .u64 x2, .pointer p2]) a := H3.out.keep (B := w3.heap.size) (Below.refl _ _).drew (Nat.le_refl _)
  go_region_held3 (fun w' => w'.cell? ⟨w2.heap.size, 0, none⟩ = some (.bool false) ∧ w'.cell? ⟨w2.heap.size, 1, none⟩ = some (.int .u64 x2) ∧ w'.cell? ⟨w2.heap.size, 2, none⟩ = some (.pointer p2))
    (first | (with_reducible exact q7) | (with_reducible exact q6) | (with_reducible exact q5) | (with_reducible exact q4) | (with_reducible exact q0))
    (first
      | (go_at_call 68; (with_reducible refine (HD.out w3.drew).mono ?_); rintro e w4 ⟨hb4, v4, rfl, h4⟩
         have q4 := Cz.keep q0 hb4 (by omega); have t4 := Rq.keep t0 hb4 (by omega); have k4 := Below.thru k0 k0.size hb4; have z4 : w2.heap.size + 1 ≤ w4.heap.size := Nat.le_trans z0 hb4.size; have hz4 := hz0.keep hb4 (Nat.le_refl _))
      | (go_at_call 51; (with_reducible refine (signed_any v4 _ false w4 h4).mono ?_); rintro e w5 ⟨hb5, v5, rfl, h5⟩; have h5 : Zr w5 v5 (b : Int) := h5
         have q5 := Cz.keep q4 hb5 (by omega); have t5 := Rq.keep t4 hb5 (by omega); have k5 := Below.thru k4 k4.size hb5; have z5 : w2.heap.size + 1 ≤ w5.heap.size := Nat.le_trans z4 hb5.size; have hz5 := hz4.keep hb5 (Nat.le_refl _))
      | (go_at_call 67; (with_reducible refine (ofZ_nat _ v5 a b w5 hz5 h5 hb0 HR.out).mono ?_); rintro e w6 ⟨hb6, v6, rfl, h6⟩
         have q6 := Cz.keep q5 hb6 (by omega); have t6 := Rq.keep t5 hb6 (by omega); have k6 := Below.thru k5 k5.size hb6; obtain ⟨s7, x7, p7, y7, r7, rfl⟩ := h6.agg; obtain ⟨_, _, _, _, _, m1, m2, m3, m4, m5, m6, m7, m8, m9, m10⟩ := t6.cells
         have q7 := Cz.st q6 (T := w.heap.size) (by omega) (.bool s7) (.int .u64 x7) (.pointer p7) (.int .u64 y7) (.pointer r7)))
  obtain ⟨n1, n2, n3, n4, n5⟩ := five_cells m1 m2 m3 m4 m5 (.bool s7) (.int .u64 x7) (.pointer p7) (.int .u64 y7) (.pointer r7)
  unfold st5 at n1 n2 n3 n4 n5
  have H6 := Lib.hid h6
  clear h6 q0 q4 q5 q6 q7
  go_wp2
  exact bodyPost_ret (v := .tuple #[.agg #[.bool s7, .int .u64 x7, .pointer p7, .int .u64 y7, .pointer r7], .int .i64 0]) (by simp [results, Try.results33, go_sem, n1, n2, n3, n4, n5]) rfl ⟨below5 k6 (Nat.le_refl _) _ _ _ _ _, _, rfl, H6.out.store t6.odd (grown5 _ _ _ _ _ _ _)⟩
end Go.Proofs.Ytjjomjjgoceklaa
