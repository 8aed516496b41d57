import Derived.Test.YtjjomjjgoceklaaT
namespace Go.Proofs.Ytjjomjjgoceklaa
open Go.RowKit

theorem nat_yes (s : ByteArray) (w : World) (hs : s.size ≤ 2000) (h : NatP s) : Calls Try.prog 66 #[.string s] w (PB true w) := isNatural_any s w hs true (by simp [h])
theorem nat_no (s : ByteArray) (w : World) (hs : s.size ≤ 2000) (h : ¬ NatP s) : Calls Try.prog 66 #[.string s] w (PB false w) := isNatural_any s w hs false (by simp [h])
theorem NatP.dig {s : ByteArray} (h : NatP s) : ∀ j, j < s.size → 48 ≤ byteAt s j ∧ byteAt s j ≤ 57 := h.1
/-- readZ of a text without a minus sign -/
def PZe (z : Int) (er : Int) (w : World) (e : Ending) (w' : World) : Prop := Below w.heap.size w w' ∧ ∃ v, e = .returned (.tuple #[v, .int .i64 er]) ∧ Zr w' v z
set_option maxRecDepth 100000 in
theorem readZ_pos (s : ByteArray) (w : World) (hs : s.size ≤ 1000) (h0 : 0 < s.size) (h1 : byteAt s 0 ≠ 45) (hn : NatP s) : Calls Try.prog 63 #[.string s] w (PZe (dec s s.size : Int) 0 w) := by
  have g1 : (((s[0]).toNat : Int) == 45) = false := by rw [← byteAt_get h0, beq_eq_false_iff_ne]; omega
  have HN := Lib.hid hn
  clear h1 hn
  go_enter Try.func63, Try.ntmps63
  go_wp2_with fail
  refine (nat_yes s _ (by omega) HN.out).mono ?_
  rintro e w1 ⟨hb1, rfl⟩
  have t1 : Rz w.heap.size w1 := Rz.keep (rz_new _ rfl) hb1 (by simp)
  have k1 := Below.thru (bl1 w _) (by simp) hb1
  have z1 : w.heap.size + 1 ≤ w1.heap.size := Nat.le_trans (by simp) hb1.size
  go_wp2_with fail
  refine (readDigits_any s w1 hs HN.out.dig).mono ?_
  rintro e w2 ⟨hb2, v2, rfl, h2⟩
  have t2 := t1.keep hb2 (by omega)
  have k2 := Below.thru k1 k1.size hb2
  have z2 : w.heap.size + 1 ≤ w2.heap.size := Nat.le_trans z1 hb2.size
  go_wp2_with fail
  refine (signed_any v2 _ false w2 h2).mono ?_
  rintro e w3 ⟨hb3, v3, rfl, h3⟩
  have t3 := t2.keep hb3 (by omega)
  have k3 := Below.thru k2 k2.size hb3
  obtain ⟨s4, x4, p4, n4, rfl, h4⟩ := h3
  have H4 := Lib.hid h4
  clear h4 hb1 hb2 hb3 t1 t2
  obtain ⟨_, _, _, m1, m2, m3, m4, m5, m6⟩ := t3.cells
  obtain ⟨g1, g2, g3⟩ := three_cells m1 m2 m3 (.bool s4) (.int .u64 x4) (.pointer p4)
  have Z4 : Zr w3 (.agg #[.bool s4, .int .u64 x4, .pointer p4]) _ := ⟨s4, x4, p4, n4, rfl, H4.out⟩
  go_wp2
  exact bodyPost_ret (v := .tuple #[.agg #[.bool s4, .int .u64 x4, .pointer p4], .int .i64 0]) (by simp [results, Try.results63, go_sem, g1, g2, g3]) rfl ⟨below3 k3 (Nat.le_refl _) _ _ _, _, rfl, (Z4.store t3.odd (grown3 _ _ _ _ _ _ _ _)).cast (by simp)⟩

/-- strings.Cut at one byte that stands in the text -/
theorem slCut_one (s : ByteArray) (c : UInt8) (i : Nat) (w : World) (hs : s.size ≤ 2000) (hi : Lib.indexByte s.data.toList c = (i : Int)) (hlt : i < s.size) :
    Calls Try.prog 89 #[.string s, .string ⟨#[c]⟩] w fun e w' => Below w.heap.size w w' ∧ e = .returned (.tuple #[.string (s.extract 0 i), .string (s.extract (i + 1) s.size), .bool true]) := by
  go_enter Try.func89, Try.ntmps89
  go_wp2_with fail
  refine (Try.stringslite_Index_one s c _).mono ?_
  rintro e w1 ⟨rfl, rfl⟩
  rw [hi]
  have HI := Lib.hid hi
  clear hi
  go_wp2
  go_quiet (fail)
  go_wp2
  refine bodyPost_ret (v := .tuple #[.string (s.extract 0 i), .string (s.extract (i + 1) s.size), .bool true]) (by simp [results, Try.results89, go_sem]) rfl ⟨below_drewN (Below.refl _ _) _, rfl⟩
theorem cut_one (s : ByteArray) (c : UInt8) (i : Nat) (w : World) (hs : s.size ≤ 2000) (hi : Lib.indexByte s.data.toList c = (i : Int)) (hlt : i < s.size) :
    Calls Try.prog 64 #[.string s, .string ⟨#[c]⟩] w fun e w' => Below w.heap.size w w' ∧ e = .returned (.tuple #[.string (s.extract 0 i), .string (s.extract (i + 1) s.size), .bool true]) := by
  have HI := Lib.hid hi
  clear hi
  go_enter Try.func64, Try.ntmps64
  go_wp2_with fail
  refine (slCut_one s c i _ hs HI.out hlt).mono ?_
  rintro e w1 ⟨hb1, rfl⟩
  go_wp2
  exact bodyPost_ret (v := .tuple #[.string (s.extract 0 i), .string (s.extract (i + 1) s.size), .bool true]) (by simp [results, Try.results64, go_sem]) rfl ⟨hb1, rfl⟩

def PRe (n : Int) (d : Nat) (er : Int) (w : World) (e : Ending) (w' : World) : Prop := Below w.heap.size w w' ∧ ∃ v, e = .returned (.tuple #[v, .int .i64 er]) ∧ Rr w' v n d
set_option maxRecDepth 100000 in
set_option maxHeartbeats 800000 in
theorem ofZ_pos (vn vd : Value) (n : Int) (d : Nat) (w : World) (hn : Zr w vn n) (hd : Zr w vd (d : Int)) (hd0 : 0 < d) (hc : CommonC n.natAbs d)
    (ho1 : Nat.gcd n.natAbs d ≠ 1 → OverC n.natAbs (Nat.gcd n.natAbs d)) (ho2 : Nat.gcd n.natAbs d ≠ 1 → OverC d (Nat.gcd n.natAbs d)) :
    Calls Try.prog 67 #[vn, vd] w (PRe (Int.tdiv n (Nat.gcd n.natAbs d : Nat)) (d / Nat.gcd n.natAbs d) 0 w) := by
  have hn' := hn
  obtain ⟨s, xa, pa, m, rfl, _⟩ := hn'
  obtain ⟨sd, xd, pd, rfl, hdd, h1, h2⟩ := hd.dg
  have : sd = false := by
    cases sd with
    | false => rfl
    | true => have := h1 rfl; omega
  subst this
  have hdd := hdd.cast (Int.natAbs_natCast d)
  have HN := Lib.hid hn; have HD := Lib.hid hdd
  have hz : d ≠ 0 := by omega
  have HZ := Lib.hid hz
  have HRED := Lib.hid (fun (W : World) (a : Zr W _ n) (b : Dg W _ d) => reduced_any (.agg #[.bool s, .int .u64 xa, .pointer pa]) (.agg #[.int .u64 xd, .pointer pd]) n d W a b hd0 hc ho1 ho2)
  clear hn hd hdd h1 h2 hz hc ho1 ho2
  cases s with
  | false =>
    go_enter Try.func67, Try.ntmps67
    go_wp2_with (go_at_call 57; refine (isZero_no _ (HD.out.keep (bl3 _ _ _ _) (Nat.le_refl _)) HZ.out).mono ?_; rintro e w1 ⟨rfl, c1, t1, rfl⟩)
    have k0 : Below w.heap.size w _ := Below.thru (bl3 w (.cells #[.bool false, .int .u64 xa, .pointer pa] 29) (.cells #[.bool false, .int .u64 xd, .pointer pd] 29) (.cells #[.bool false, .int .u64 0, .pointer none, .int .u64 0, .pointer none] 61)) (by simp <;> omega) (bl2 _ (.cells c1 t1) (.cells c1 t1))
    refine (HRED.out _ (HN.out.keep k0 (Nat.le_refl _)) (HD.out.keep k0 (Nat.le_refl _))).mono ?_
    rintro e w3 ⟨hb3, v3, rfl, h3⟩
    have r3 : Rq (w.heap.size + 1 + 1) w3 := Rq.keep (((rq_new _ (by simp)).alloc _).alloc _) hb3 (by simp <;> omega)
    have k3 := Below.thru k0 k0.size hb3
    obtain ⟨s5, x5, p5, y5, q5, rfl⟩ := h3.agg
    obtain ⟨_, _, _, _, _, m1, m2, m3, m4, m5, m6, m7, m8, m9, m10⟩ := r3.cells
    obtain ⟨n1, n2, n3, n4, n5⟩ := five_cells m1 m2 m3 m4 m5 (.bool s5) (.int .u64 x5) (.pointer p5) (.int .u64 y5) (.pointer q5)
    have H3 := Lib.hid h3
    clear hb3 k0 h3
    unfold st5 at n1 n2 n3 n4 n5
    go_wp2
    exact bodyPost_ret (v := .tuple #[.agg #[.bool s5, .int .u64 x5, .pointer p5, .int .u64 y5, .pointer q5], .int .i64 0]) (by simp [results, Try.results67, go_sem, n1, n2, n3, n4, n5]) rfl ⟨below5 k3 (by omega) _ _ _ _ _, _, rfl, H3.out.store r3.odd (grown5 _ _ _ _ _ _ _)⟩
  | true =>
    go_enter Try.func67, Try.ntmps67
    go_wp2_with (go_at_call 57; refine (isZero_no _ (HD.out.keep (bl3 _ _ _ _) (Nat.le_refl _)) HZ.out).mono ?_; rintro e w1 ⟨rfl, c1, t1, rfl⟩)
    have k0 : Below w.heap.size w _ := Below.thru (bl3 w (.cells #[.bool true, .int .u64 xa, .pointer pa] 29) (.cells #[.bool false, .int .u64 xd, .pointer pd] 29) (.cells #[.bool false, .int .u64 0, .pointer none, .int .u64 0, .pointer none] 61)) (by simp <;> omega) (bl2 _ (.cells c1 t1) (.cells c1 t1))
    refine (HRED.out _ (HN.out.keep k0 (Nat.le_refl _)) (HD.out.keep k0 (Nat.le_refl _))).mono ?_
    rintro e w3 ⟨hb3, v3, rfl, h3⟩
    have r3 : Rq (w.heap.size + 1 + 1) w3 := Rq.keep (((rq_new _ (by simp)).alloc _).alloc _) hb3 (by simp <;> omega)
    have k3 := Below.thru k0 k0.size hb3
    obtain ⟨s5, x5, p5, y5, q5, rfl⟩ := h3.agg
    obtain ⟨_, _, _, _, _, m1, m2, m3, m4, m5, m6, m7, m8, m9, m10⟩ := r3.cells
    obtain ⟨n1, n2, n3, n4, n5⟩ := five_cells m1 m2 m3 m4 m5 (.bool s5) (.int .u64 x5) (.pointer p5) (.int .u64 y5) (.pointer q5)
    have H3 := Lib.hid h3
    clear hb3 k0 h3
    unfold st5 at n1 n2 n3 n4 n5
    go_wp2
    exact bodyPost_ret (v := .tuple #[.agg #[.bool s5, .int .u64 x5, .pointer p5, .int .u64 y5, .pointer q5], .int .i64 0]) (by simp [results, Try.results67, go_sem, n1, n2, n3, n4, n5]) rfl ⟨below5 k3 (by omega) _ _ _ _ _, _, rfl, H3.out.store r3.odd (grown5 _ _ _ _ _ _ _)⟩
end Go.Proofs.Ytjjomjjgoceklaa
