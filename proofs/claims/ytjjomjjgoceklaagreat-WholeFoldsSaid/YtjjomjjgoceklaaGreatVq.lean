import Derived.Test.YtjjomjjgoceklaaGreatVp
namespace Go.Proofs.YtjjomjjgoceklaaGreat
set_option maxRecDepth 100000
open Go.RowKit

/-! Sum, Min and Max of any row of ratios -/
theorem SlR.keep {w w' : World} {b n : Nat} {l : Nat → Int × Nat} (h : SlR w b n l) (hb : Below w.heap.size w w') : SlR w' b n l :=
  ⟨Nat.lt_of_lt_of_le h.1 hb.size, fun i hi => by
    obtain ⟨s, x, p, y, q, d1, d2, d3, d4, d5, hr⟩ := h.2 i hi
    exact ⟨s, x, p, y, q, (hb.cell (p := ⟨b, i * 5, none⟩) h.1).trans d1, (hb.cell (p := ⟨b, i * 5 + 1, none⟩) h.1).trans d2, (hb.cell (p := ⟨b, i * 5 + 2, none⟩) h.1).trans d3, (hb.cell (p := ⟨b, i * 5 + 3, none⟩) h.1).trans d4, (hb.cell (p := ⟨b, i * 5 + 4, none⟩) h.1).trans d5, hr.keep hb (Nat.le_refl _)⟩⟩
/-- a row of ratios, or none -/
def SQ (w : World) (v : Value) (n : Nat) (l : Nat → Rat) : Prop := (v = .slice none 0 0 ∧ n = 0) ∨ ∃ b cap, v = .slice (some ⟨b, 0, none⟩) n cap ∧ SlR w b n fun i => ((l i).num, (l i).den)
theorem SQ.keep {w w' : World} {v : Value} {n : Nat} {l : Nat → Rat} (h : SQ w v n l) (hb : Below w.heap.size w w') : SQ w' v n l := by
  rcases h with h | ⟨b, cap, e, h⟩
  · exact .inl h
  · exact .inr ⟨b, cap, e, h.keep hb⟩
theorem sum_nil (w : World) : Calls Tryz.prog 54 #[.slice none 0 0] w (PR 0 1 w) := by
  have kk := bl2 w (.cells #[.bool false, .int .u64 0, .pointer none, .int .u64 0, .pointer none] 33) (.cells #[.bool false, .int .u64 0, .pointer none, .int .u64 0, .pointer none] 33)
  have R0 := (rq_new w rfl).alloc (.cells #[.bool false, .int .u64 0, .pointer none, .int .u64 0, .pointer none] 33)
  obtain ⟨w1, hw1⟩ : ∃ w1, w1 = (w.alloc (.cells #[.bool false, .int .u64 0, .pointer none, .int .u64 0, .pointer none] 33)).alloc (.cells #[.bool false, .int .u64 0, .pointer none, .int .u64 0, .pointer none] 33) := ⟨_, rfl⟩
  have hq : Rq w.heap.size w1 := by rw [hw1]; exact R0
  have kb : Below w.heap.size w w1 := by rw [hw1]; exact kk
  have hn : w1.heap[w.heap.size + 1]? = some (.cells #[.bool false, .int .u64 0, .pointer none, .int .u64 0, .pointer none] 33) := by
    have := Go.Deep.blk_alloc_new (w.alloc (.cells #[.bool false, .int .u64 0, .pointer none, .int .u64 0, .pointer none] 33)) (.cells #[.bool false, .int .u64 0, .pointer none, .int .u64 0, .pointer none] 33)
    rw [World.size_alloc] at this
    rw [hw1]; exact this
  have HW := Lib.hid hw1; have HQ := Lib.hid hq; have KB := Lib.hid kb; have HN := Lib.hid hn
  clear R0 kk hw1 hq kb hn
  go_enter Tryz.func54, Tryz.ntmps54
  go_wp2
  go_loopw [8] (fun i wr => i = .int .i64 0 ∧ wr = w1) (fun _ _ => 0)
  case atStart => exact ⟨rfl, HW.out.symm⟩
  case round =>
    obtain ⟨rfl, rfl⟩ := hrel
    have d1 := cell_blk (i := 0) HN.out
    have d2 := cell_blk (i := 1) HN.out
    have d3 := cell_blk (i := 2) HN.out
    have d4 := cell_blk (i := 3) HN.out
    have d5 := cell_blk (i := 4) HN.out
    obtain ⟨_, _, _, _, _, m1, m2, m3, m4, m5, m6, m7, m8, m9, m10⟩ := HQ.out.cells
    obtain ⟨i1, i2, i3, i4, i5⟩ := five_cells m1 m2 m3 m4 m5 (.bool false) (.int .u64 0) (.pointer none) (.int .u64 0) (.pointer none)
    unfold st5 at i1 i2 i3 i4 i5
    go_wp2
    exact bodyPost_ret (v := .agg #[.bool false, .int .u64 0, .pointer none, .int .u64 0, .pointer none]) (by simp [results, Tryz.results54, go_sem, i1, i2, i3, i4, i5]) rfl ⟨below5 KB.out (Nat.le_refl _) _ _ _ _ _, _, rfl, Rr.zero _⟩
theorem foremost_nil (w : World) (f : Value) : Calls Tryz.prog 136 #[.slice none 0 0, f] w (PR 0 1 w) := by
  have kk := bl2 w (.cells #[.bool false, .int .u64 0, .pointer none, .int .u64 0, .pointer none] 33) (.cells #[.bool false, .int .u64 0, .pointer none, .int .u64 0, .pointer none] 33)
  have R0 := (rq_new w rfl).alloc (.cells #[.bool false, .int .u64 0, .pointer none, .int .u64 0, .pointer none] 33)
  obtain ⟨w1, hw1⟩ : ∃ w1, w1 = (w.alloc (.cells #[.bool false, .int .u64 0, .pointer none, .int .u64 0, .pointer none] 33)).alloc (.cells #[.bool false, .int .u64 0, .pointer none, .int .u64 0, .pointer none] 33) := ⟨_, rfl⟩
  have hq : Rq w.heap.size w1 := by rw [hw1]; exact R0
  have kb : Below w.heap.size w w1 := by rw [hw1]; exact kk
  have hn : w1.heap[w.heap.size + 1]? = some (.cells #[.bool false, .int .u64 0, .pointer none, .int .u64 0, .pointer none] 33) := by
    have := Go.Deep.blk_alloc_new (w.alloc (.cells #[.bool false, .int .u64 0, .pointer none, .int .u64 0, .pointer none] 33)) (.cells #[.bool false, .int .u64 0, .pointer none, .int .u64 0, .pointer none] 33)
    rw [World.size_alloc] at this
    rw [hw1]; exact this
  have HW := Lib.hid hw1; have HQ := Lib.hid hq; have KB := Lib.hid kb; have HN := Lib.hid hn
  clear R0 kk hw1 hq kb hn
  go_enter Tryz.func136, Tryz.ntmps136
  go_wp2
  go_loopw [10] (fun i wr => i = .int .i64 0 ∧ wr = w1) (fun _ _ => 0)
  case atStart => exact ⟨rfl, HW.out.symm⟩
  case round =>
    obtain ⟨rfl, rfl⟩ := hrel
    have d1 := cell_blk (i := 0) HN.out
    have d2 := cell_blk (i := 1) HN.out
    have d3 := cell_blk (i := 2) HN.out
    have d4 := cell_blk (i := 3) HN.out
    have d5 := cell_blk (i := 4) HN.out
    obtain ⟨_, _, _, _, _, m1, m2, m3, m4, m5, m6, m7, m8, m9, m10⟩ := HQ.out.cells
    obtain ⟨i1, i2, i3, i4, i5⟩ := five_cells m1 m2 m3 m4 m5 (.bool false) (.int .u64 0) (.pointer none) (.int .u64 0) (.pointer none)
    unfold st5 at i1 i2 i3 i4 i5
    go_wp2
    exact bodyPost_ret (v := .agg #[.bool false, .int .u64 0, .pointer none, .int .u64 0, .pointer none]) (by simp [results, Tryz.results136, go_sem, i1, i2, i3, i4, i5]) rfl ⟨below5 KB.out (Nat.le_refl _) _ _ _ _ _, _, rfl, Rr.zero _⟩
/-- the sum of the first ones -/
def sumq (l : Nat → Rat) : Nat → Rat
  | 0 => 0
  | k + 1 => sumq l k + l k
theorem sumq_bd {l : Nat → Rat} {n : Nat} (h : ∀ i, i < n → Bd9 1 (l i)) : ∀ k, k ≤ n → Bd9 (2 * k + 1) (sumq l k)
  | 0, _ => bd_zero
  | k + 1, hk => Bd9.mono (Bd9.add (sumq_bd h k (by omega)) (h k (by omega))) (by omega)
theorem sum_sq (v : Value) (n : Nat) (l : Nat → Rat) (w : World) (h : SQ w v n l) (bd : ∀ i, i < n → Bd9 1 (l i)) (hn : n ≤ 30) : Calls Tryz.prog 54 #[v] w (PRq (sumq l n) w) := by
  rcases h with ⟨rfl, rfl⟩ | ⟨b, cap, rfl, h⟩
  · exact sum_nil w
  · exact sum_any b n cap _ (fun k => ((sumq l k).num, (sumq l k).den)) w h (by omega) rfl fun k hk va vb W h1 h2 =>
      raddR (a := sumq l k) (b := l k) h1 h2 (sumq_bd bd k (by omega)) (bd k hk) (by omega)
theorem foremost_sq (v : Value) (n : Nat) (l : Nat → Rat) (w : World) (Ts : Nat) (side : Int) (h : SQ w v n l) (hs : w.heap[Ts]? = some (.cells #[.int .i64 side] 3 (0, 0))) (bd : ∀ i, i < n → Bd9 1 (l i)) (hn : n ≤ 30) :
    Calls Tryz.prog 136 #[v, .func (.func 137) #[] #[.pointer (some ⟨Ts, 0, none⟩)]] w (PRq (bst side l n) w) := by
  rcases h with ⟨rfl, rfl⟩ | ⟨b, cap, rfl, h⟩
  · exact foremost_nil w _
  · exact foremost_any b n cap l w Ts side h hs bd (by omega)
set_option maxHeartbeats 800000 in
theorem extreme_any (v : Value) (n : Nat) (l : Nat → Rat) (w : World) (side : Int) (h : SQ w v n l) (bd : ∀ i, i < n → Bd9 1 (l i)) (hn : n ≤ 30) : Calls Tryz.prog 115 #[v, .int .i64 side] w (PRq (bst side l n) w) := by
  have kk := bl2 w (.cells #[.int .i64 side] 3) (.cells #[.bool false, .int .u64 0, .pointer none, .int .u64 0, .pointer none] 33)
  have H1 := Lib.hid (h.keep kk)
  have S1 : Hid (((w.alloc (.cells #[.int .i64 side] 3)).alloc (.cells #[.bool false, .int .u64 0, .pointer none, .int .u64 0, .pointer none] 33)).heap[w.heap.size]? = some (.cells #[.int .i64 side] 3 (0, 0))) := blk_al (Go.Deep.blk_alloc_new w _) _
  have R1 : Hid (Rq (w.heap.size + 1) ((w.alloc (.cells #[.int .i64 side] 3)).alloc (.cells #[.bool false, .int .u64 0, .pointer none, .int .u64 0, .pointer none] 33))) := rq_new _ (by simp)
  have KK := Lib.hid kk
  clear h kk
  have hmf : ∀ (fn : Fn) (first cap : Array Value) (w : World), (Instr.makeFunc fn first cap).run Tryz.prog w = .ok (.func fn first cap) w := fun _ _ _ _ => rfl
  go_enter Tryz.func115, Tryz.ntmps115
  go_wp2_with fail
  refine (foremost_sq v n l _ w.heap.size side H1.out S1.out bd hn).mono ?_
  rintro e w1 ⟨hb, u, rfl, hu⟩
  obtain ⟨s1, x1, p1, y1, q1, rfl⟩ := hu.agg
  have k1 := Below.thru KK.out KK.out.size hb
  have t1 := R1.out.keep hb (by simp)
  have HU := Lib.hid hu; have K1 := Lib.hid k1; have T1 := Lib.hid t1
  obtain ⟨_, _, _, _, _, m1, m2, m3, m4, m5, m6, m7, m8, m9, m10⟩ := t1.cells
  obtain ⟨i1, i2, i3, i4, i5⟩ := five_cells m1 m2 m3 m4 m5 (.bool s1) (.int .u64 x1) (.pointer p1) (.int .u64 y1) (.pointer q1)
  unfold st5 at i1 i2 i3 i4 i5
  clear hb hu k1 t1 H1 S1 R1 KK
  go_wp2
  exact bodyPost_ret (v := .agg #[.bool s1, .int .u64 x1, .pointer p1, .int .u64 y1, .pointer q1]) (by simp [results, Tryz.results115, go_sem, i1, i2, i3, i4, i5]) rfl ⟨below5 K1.out (by omega) _ _ _ _ _, _, rfl, HU.out.store T1.out.odd (grown5 _ _ _ _ _ _ _)⟩
theorem min_any (v : Value) (n : Nat) (l : Nat → Rat) (w : World) (h : SQ w v n l) (bd : ∀ i, i < n → Bd9 1 (l i)) (hn : n ≤ 30) : Calls Tryz.prog 56 #[v] w (PRq (bst (-1) l n) w) := by
  have kk := bl1 w (.cells #[.bool false, .int .u64 0, .pointer none, .int .u64 0, .pointer none] 33)
  have H1 := Lib.hid (h.keep kk)
  have R1 : Hid (Rq w.heap.size (w.alloc (.cells #[.bool false, .int .u64 0, .pointer none, .int .u64 0, .pointer none] 33))) := rq_new _ rfl
  have KK := Lib.hid kk
  clear h kk
  go_enter Tryz.func56, Tryz.ntmps56
  go_wp2_with fail
  refine (extreme_any v n l _ (-1) H1.out bd hn).mono ?_
  rintro e w1 ⟨hb, u, rfl, hu⟩
  obtain ⟨s1, x1, p1, y1, q1, rfl⟩ := hu.agg
  have k1 := Below.thru KK.out KK.out.size hb
  have t1 := R1.out.keep hb (by simp)
  have HU := Lib.hid hu; have K1 := Lib.hid k1; have T1 := Lib.hid t1
  obtain ⟨_, _, _, _, _, m1, m2, m3, m4, m5, m6, m7, m8, m9, m10⟩ := t1.cells
  obtain ⟨i1, i2, i3, i4, i5⟩ := five_cells m1 m2 m3 m4 m5 (.bool s1) (.int .u64 x1) (.pointer p1) (.int .u64 y1) (.pointer q1)
  unfold st5 at i1 i2 i3 i4 i5
  clear hb hu k1 t1 H1 R1 KK
  go_wp2
  exact bodyPost_ret (v := .agg #[.bool s1, .int .u64 x1, .pointer p1, .int .u64 y1, .pointer q1]) (by simp [results, Tryz.results56, go_sem, i1, i2, i3, i4, i5]) rfl ⟨below5 K1.out (by omega) _ _ _ _ _, _, rfl, HU.out.store T1.out.odd (grown5 _ _ _ _ _ _ _)⟩
theorem max_any (v : Value) (n : Nat) (l : Nat → Rat) (w : World) (h : SQ w v n l) (bd : ∀ i, i < n → Bd9 1 (l i)) (hn : n ≤ 30) : Calls Tryz.prog 58 #[v] w (PRq (bst 1 l n) w) := by
  have kk := bl1 w (.cells #[.bool false, .int .u64 0, .pointer none, .int .u64 0, .pointer none] 33)
  have H1 := Lib.hid (h.keep kk)
  have R1 : Hid (Rq w.heap.size (w.alloc (.cells #[.bool false, .int .u64 0, .pointer none, .int .u64 0, .pointer none] 33))) := rq_new _ rfl
  have KK := Lib.hid kk
  clear h kk
  go_enter Tryz.func58, Tryz.ntmps58
  go_wp2_with fail
  refine (extreme_any v n l _ 1 H1.out bd hn).mono ?_
  rintro e w1 ⟨hb, u, rfl, hu⟩
  obtain ⟨s1, x1, p1, y1, q1, rfl⟩ := hu.agg
  have k1 := Below.thru KK.out KK.out.size hb
  have t1 := R1.out.keep hb (by simp)
  have HU := Lib.hid hu; have K1 := Lib.hid k1; have T1 := Lib.hid t1
  obtain ⟨_, _, _, _, _, m1, m2, m3, m4, m5, m6, m7, m8, m9, m10⟩ := t1.cells
  obtain ⟨i1, i2, i3, i4, i5⟩ := five_cells m1 m2 m3 m4 m5 (.bool s1) (.int .u64 x1) (.pointer p1) (.int .u64 y1) (.pointer q1)
  unfold st5 at i1 i2 i3 i4 i5
  clear hb hu k1 t1 H1 R1 KK
  go_wp2
  exact bodyPost_ret (v := .agg #[.bool s1, .int .u64 x1, .pointer p1, .int .u64 y1, .pointer q1]) (by simp [results, Tryz.results58, go_sem, i1, i2, i3, i4, i5]) rfl ⟨below5 K1.out (by omega) _ _ _ _ _, _, rfl, HU.out.store T1.out.odd (grown5 _ _ _ _ _ _ _)⟩
end Go.Proofs.YtjjomjjgoceklaaGreat
