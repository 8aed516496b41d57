import Derived.Test.YtjjomjjgoceklaaGreatWp
import Derived.Test.YtjjomjjgoceklaaGreatWo
import Derived.Deep.RegionHeld3
namespace Go.Proofs.YtjjomjjgoceklaaGreat
set_option maxRecDepth 100000
open Go.RowKit

/-! ZParse of a text with or without a minus sign; Parse of the reference -/
/-- the integer of a text -/
def pzi (s : ByteArray) : Int := if 0 < s.size ∧ byteAt s 0 = 45 then -(dec (s.extract 1 s.size) (s.extract 1 s.size).size : Int) else (dec s s.size : Int)
/-- at most 1000 decimal digits -/
def Tn (n : Nat) : Prop := ∃ k, k ≤ 1000 ∧ n < 10 ^ k
theorem pzi_tn {s : ByteArray} (hs : s.size ≤ 1000) (h : IntP s) : Tn (pzi s).natAbs := by
  unfold pzi
  rcases h with ⟨h0, h1, h2⟩ | ⟨h0, h2⟩
  · rw [if_pos ⟨h0, h1⟩, Int.natAbs_neg, Int.natAbs_natCast]
    exact ⟨_, by rw [ByteArray.size_extract]; omega, dec_lt _ _ h2.dig⟩
  · rw [if_neg h0, Int.natAbs_natCast]
    exact ⟨_, hs, dec_lt _ _ h2.dig⟩
theorem ten_pow {n k m : Nat} (h : n < 10 ^ k) (hk : k ≤ m) : n < 10 ^ m := Nat.lt_of_lt_of_le h (Nat.pow_le_pow_right (by decide) hk)
theorem Tn.sr {z : Int} (h : Tn z.natAbs) : Sr z := by
  obtain ⟨k, hk, h⟩ := h
  obtain ⟨m, hm⟩ : ∃ m, m = 250 := ⟨_, rfl⟩
  refine ⟨m, by omega, ?_⟩
  have := ten_pow h (show k ≤ 4 * m by omega)
  rw [Nat.pow_mul] at this
  exact this
theorem Tn.wbm {n m : Nat} (h : Tn n) (hm : 60 ≤ m) : n < WB ^ m := by
  obtain ⟨k, hk, h⟩ := h
  have h1 : (10 : Nat) ^ 19 ≤ WB := by unfold WB; decide
  have := ten_pow h (show k ≤ 19 * m by omega)
  rw [Nat.pow_mul] at this
  exact Nat.lt_of_lt_of_le this (Nat.pow_le_pow_left h1 m)
theorem Tn.wb {n : Nat} (h : Tn n) : n < WB ^ 60 := h.wbm (Nat.le_refl _)
theorem Tn.sz {n : Nat} (h : Tn n) : Sz n := ⟨60, by omega, h.wb⟩
theorem Tn.bd9 {q : Rat} (h1 : Tn q.num.natAbs) (h2 : Tn q.den) : Bd9 60 q := ⟨h1.wb, h2.wb⟩
set_option maxHeartbeats 1000000 in
theorem zparse_minus (s : ByteArray) (w : World) (hs : s.size ≤ 1000) (h0 : 0 < s.size) (h1 : byteAt s 0 = 45) (hn : NatP (s.extract 1 s.size)) : Calls Tryz.prog 18 #[.string s] w (PRZ (-(dec (s.extract 1 s.size) (s.extract 1 s.size).size : Int)) w) := by
  have e2 : ¬ s.toList = [] := fun e => by have := toList_nil.1 e; omega
  have e3 : s.toList.isEmpty = false := by simp [e2]
  have hx := byteAt_get h0
  have g2 : (((s[0]).toNat : Int) == 45) = true := by rw [← hx, h1]; rfl
  have HN := Lib.hid (fun W => zparseN_any (s.extract 1 s.size) W (by rw [ByteArray.size_extract]; omega) hn)
  generalize (dec (s.extract 1 s.size) (s.extract 1 s.size).size : Int) = z at *
  clear hx hn h1
  go_enter Tryz.func18, Tryz.ntmps18
  go_wp2_with fail
  refine (HN.out _).mono ?_
  rintro e w1 ⟨hb1, v1, rfl, hv1⟩
  have k1 := Below.thru (bl1 w (.cells #[.int .i64 0, .slice none 0 0] 41)) (by simp) hb1
  have hz1 : w.heap.size < w1.heap.size := Nat.lt_of_lt_of_le (by simp) hb1.size
  obtain ⟨p1, l1, c1, rfl⟩ := hv1.agg
  have HV1 := Lib.hid hv1
  clear hv1
  go_wp2_with fail
  refine (znegr_any _ z _ HV1.out).mono ?_
  rintro e w2 ⟨hb2, v2, rfl, hv2⟩
  have k2 := Below.thru k1 k1.size hb2
  have hZ := Lib.hid hv2
  obtain ⟨p2, l2, c2, rfl⟩ := hv2.agg
  have r0 : w2.cell? ⟨w.heap.size, 0, none⟩ = some (.int .i64 0) := (hb2.cell (p := ⟨w.heap.size, 0, none⟩) hz1).trans ((hb1.cell (p := ⟨w.heap.size, 0, none⟩) (by simp)).trans (by simp [go_sem]))
  have r1 : w2.cell? ⟨w.heap.size, 1, none⟩ = some (.slice none 0 0) := (hb2.cell (p := ⟨w.heap.size, 1, none⟩) hz1).trans ((hb1.cell (p := ⟨w.heap.size, 1, none⟩) (by simp)).trans (by simp [go_sem]))
  have f0 : w2.frozen? ⟨w.heap.size, 0, none⟩ = false := (hb2.frozen (p := ⟨w.heap.size, 0, none⟩) hz1).trans ((hb1.frozen (p := ⟨w.heap.size, 0, none⟩) (by simp)).trans (by simp [go_sem]))
  have f1 : w2.frozen? ⟨w.heap.size, 1, none⟩ = false := (hb2.frozen (p := ⟨w.heap.size, 1, none⟩) hz1).trans ((hb1.frozen (p := ⟨w.heap.size, 1, none⟩) (by simp)).trans (by simp [go_sem]))
  have nI2 : NoI w2 w.heap.size := ⟨_, 41, _, (hb2.block _ hz1).trans ((hb1.block _ (by simp)).trans (Go.Deep.blk_alloc_new w (.cells #[.int .i64 0, .slice none 0 0] 41))), by decide⟩
  obtain ⟨g1, g2⟩ := two_cells r0 r1 (.int .i64 (-z).sign) (.slice p2 l2 c2)
  have HF := Lib.hid (hZ.out.store nI2 (grown2 w2 w.heap.size 0 1 (.int .i64 (-z).sign) (.slice p2 l2 c2)))
  generalize (-z).sign = sg at *
  clear hb1 hb2 hv2
  go_wp2
  exact bodyPost_ret (v := .agg #[.int .i64 sg, .slice p2 l2 c2]) (by simp [results, Tryz.results18, go_sem, g1, g2]) rfl ⟨(k2.setCell (Nat.le_refl _) _).setCell (Nat.le_refl _) _, _, rfl, HF.out⟩
theorem zparse_any (s : ByteArray) (w : World) (hs : s.size ≤ 1000) (h : IntP s) : Calls Tryz.prog 18 #[.string s] w (PRZ (pzi s) w) := by
  unfold pzi
  rcases h with ⟨h0, h1, h2⟩ | ⟨h0, h2⟩
  · rw [if_pos ⟨h0, h1⟩]; exact zparse_minus s w hs h0 h1 h2
  · rw [if_neg h0]; exact zparseN_any s w hs h2
end Go.Proofs.YtjjomjjgoceklaaGreat
