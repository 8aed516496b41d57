import Derived.Test.YtjjomjjgoceklaaGreatKba
import Derived.WalkKit
import Derived.RangeFuncNested
import Derived.RangeFuncBound
import Derived.RangeFuncCalls
import Derived.RangeFuncLeaves
import Derived.RangeFuncBox
import Derived.Shelf.Abstract
import Derived.Shelf.RegionOpen
import Derived.OwnWalkIn
import Derived.TacticsInMore
import Derived.LoopNIn
import Derived.LoopIn
import Derived.Maps.AppendAt
namespace Go.Proofs.YtjjomjjgoceklaaGreat
set_option maxRecDepth 100000
open Go.RowKit

/-- the sign of a - b -/
def sgnZ (y z : Int) : Int := if y < z then -1 else if y = z then 0 else 1
def PSg (y z : Int) (w : World) (e : Ending) (w' : World) : Prop := Below w.heap.size w w' ∧ e = .returned (.int .i64 (sgnZ y z))
theorem PSg.ret {y z : Int} {w w' : World} {n : Int} (hb : Below w.heap.size w w') (h : n = sgnZ y z) : PSg y z w (.returned (.int .i64 n)) w' := ⟨hb, by rw [h]⟩
theorem zcmp_any (va vb : Value) (y z : Int) (w : World) (ha : Zr w va y) (hb : Zr w vb z) : Calls Tryz.prog 77 #[va, vb] w (PSg y z w) := by
  obtain ⟨sa, xa, pa, rfl, hda, ha1, ha2⟩ := ha.dg
  obtain ⟨sb, xb, pb, rfl, hdb, hb1, hb2⟩ := hb.dg
  have HA := Lib.hid hda; have HB := Lib.hid hdb
  clear ha hb hda hdb
  cases sa <;> cases sb <;> simp only [Bool.false_eq_true, false_implies, forall_const] at ha1 ha2 hb1 hb2
  · have HF := Lib.hid (show cmpN y.natAbs z.natAbs = sgnZ y z by unfold cmpN sgnZ; split <;> split <;> (try split) <;> (try split) <;> omega)
    clear ha1 ha2 hb1 hb2
    go_enter Tryz.func77, Tryz.ntmps77
    go_wp2_with fail
    refine (compare_any _ _ y.natAbs z.natAbs _ (HA.out.keep (bl2 _ _ _) (Nat.le_refl _)) (HB.out.keep (bl2 _ _ _) (Nat.le_refl _))).mono ?_
    rintro e w1 ⟨hb1, rfl⟩
    go_wp2
    go_ret
    exact PSg.ret (Below.thru (bl2 _ _ _) (by simp <;> omega) hb1) HF.out
  · have HF := Lib.hid (show (1 : Int) = sgnZ y z by unfold sgnZ; split <;> (try split) <;> omega)
    clear ha1 ha2 hb1 hb2
    go_enter Tryz.func77, Tryz.ntmps77
    go_wp2_with (go_at_call 90; refine (signOf_t _).mono ?_; rintro e w1 ⟨rfl, rfl⟩)
    go_ret
    exact PSg.ret (bl2 _ _ _) HF.out
  · have HF := Lib.hid (show (-1 : Int) = sgnZ y z by unfold sgnZ; split <;> (try split) <;> omega)
    clear ha1 ha2 hb1 hb2
    go_enter Tryz.func77, Tryz.ntmps77
    go_wp2_with (go_at_call 90; refine (signOf_f _).mono ?_; rintro e w1 ⟨rfl, rfl⟩)
    go_ret
    exact PSg.ret (bl2 _ _ _) HF.out
  · have HF := Lib.hid (show cmpN z.natAbs y.natAbs = sgnZ y z by unfold cmpN sgnZ; split <;> split <;> (try split) <;> (try split) <;> omega)
    clear ha1 ha2 hb1 hb2
    go_enter Tryz.func77, Tryz.ntmps77
    go_wp2_with fail
    refine (compare_any _ _ z.natAbs y.natAbs _ (HB.out.keep (bl2 _ _ _) (Nat.le_refl _)) (HA.out.keep (bl2 _ _ _) (Nat.le_refl _))).mono ?_
    rintro e w1 ⟨hb1, rfl⟩
    go_wp2
    go_ret
    exact PSg.ret (Below.thru (bl2 _ _ _) (by simp <;> omega) hb1) HF.out

/-- the ratio of a text that Parse reads -/
theorem r_any (s : ByteArray) (n : Int) (d : Nat) (er : Int) (w : World) (h : ∀ W, Calls Tryz.prog 13 #[.string s] W (PRe n d er W)) : Calls Tryz.prog 83 #[.string s] w (PR n d w) := by
  have H := Lib.hid h
  clear h
  go_enter Tryz.func83, Tryz.ntmps83
  go_wp2_with fail
  refine (H.out _).mono ?_
  rintro e w1 ⟨hb1, v1, rfl, h1⟩
  have t1 : Rq w.heap.size w1 := Rq.keep (rq_new _ rfl) hb1 (by simp)
  have k1 := Below.thru (bl1 w _) (by simp) hb1
  have z1 : w.heap.size + 1 ≤ w1.heap.size := Nat.le_trans (by simp) hb1.size
  obtain ⟨s5, x5, p5, y5, q5, rfl⟩ := h1.agg
  have t2 := t1.alloc (.cells #[.bool s5, .int .u64 x5, .pointer p5, .int .u64 y5, .pointer q5] 33)
  have k2 := Below.thru k1 k1.size (bl1 w1 (.cells #[.bool s5, .int .u64 x5, .pointer p5, .int .u64 y5, .pointer q5] 33))
  have h2 := h1.keep (bl1 w1 (.cells #[.bool s5, .int .u64 x5, .pointer p5, .int .u64 y5, .pointer q5] 33)) (Nat.le_refl _)
  obtain ⟨_, _, _, _, _, m1, m2, m3, m4, m5, m6, m7, m8, m9, m10⟩ := t2.cells
  obtain ⟨i1, i2, i3, i4, i5⟩ := five_cells m1 m2 m3 m4 m5 (.bool s5) (.int .u64 x5) (.pointer p5) (.int .u64 y5) (.pointer q5)
  unfold st5 at i1 i2 i3 i4 i5
  have HR := Lib.hid (h2.store t2.odd (grown5 (w1.alloc (.cells #[.bool s5, .int .u64 x5, .pointer p5, .int .u64 y5, .pointer q5] 33)) w.heap.size (.bool s5) (.int .u64 x5) (.pointer p5) (.int .u64 y5) (.pointer q5)))
  clear hb1 h1 h2
  go_wp2
  exact bodyPost_ret (v := .agg #[.bool s5, .int .u64 x5, .pointer p5, .int .u64 y5, .pointer q5]) (by simp [results, Tryz.results83, go_sem, i1, i2, i3, i4, i5]) rfl ⟨below5 k2 (Nat.le_refl _) _ _ _ _ _, _, rfl, HR.out⟩
end Go.Proofs.YtjjomjjgoceklaaGreat
namespace Go.Proofs.YtjjomjjgoceklaaGreat
set_option maxRecDepth 100000
open Go.RowKit

/-- adding two ratios gives a third -/
def AddOK (a b c : Int × Nat) : Prop := ∀ (va vb : Value) (w : World), Rr w va a.1 a.2 → Rr w vb b.1 b.2 → Calls Tryz.prog 42 #[va, vb] w (PR c.1 c.2 w)
/-- block b holds n ratios -/
def SlR (w : World) (b n : Nat) (l : Nat → Int × Nat) : Prop := b < w.heap.size ∧ ∀ i, i < n → ∃ (s : Bool) (x : Int) (p : Option Addr) (y : Int) (q : Option Addr),
  w.cell? ⟨b, i * 5, none⟩ = some (.bool s) ∧ w.cell? ⟨b, i * 5 + 1, none⟩ = some (.int .u64 x) ∧ w.cell? ⟨b, i * 5 + 2, none⟩ = some (.pointer p) ∧ w.cell? ⟨b, i * 5 + 3, none⟩ = some (.int .u64 y) ∧ w.cell? ⟨b, i * 5 + 4, none⟩ = some (.pointer q) ∧
  Rr w (.agg #[.bool s, .int .u64 x, .pointer p, .int .u64 y, .pointer q]) (l i).1 (l i).2
theorem Rr.zero (w : World) : Rr w (.agg #[.bool false, .int .u64 0, .pointer none, .int .u64 0, .pointer none]) 0 1 := ⟨false, 0, none, 0, none, rfl, Zr.zero w, Dg.of_small _ Wd.zero, by omega, by simp⟩
/-- the R box at T holds n over d -/
def Rh (T : Nat) (w : World) (n : Int) (d : Nat) : Prop := ∃ (s : Bool) (x : Int) (p : Option Addr) (y : Int) (q : Option Addr), w.heap[T]? = some (.cells #[.bool s, .int .u64 x, .pointer p, .int .u64 y, .pointer q] 33) ∧ Rr w (.agg #[.bool s, .int .u64 x, .pointer p, .int .u64 y, .pointer q]) n d

theorem Rq.other {w w' : World} {T U : Nat} (h : Rq U w) (hg : w.grownBy w' (some T)) (hne : U ≠ T) : Rq U w' := by
  obtain ⟨s, x, p, y, q, h⟩ := h
  exact ⟨s, x, p, y, q, (hg.block U (Array.getElem?_eq_some_iff.1 h).1 (by intro e; cases e; exact hne rfl)).trans h⟩
theorem Rh.mk {T : Nat} {w : World} {n : Int} {d : Nat} {s5 : Bool} {x5 : Int} {p5 : Option Addr} {y5 : Int} {q5 : Option Addr} (ht : Rq T w) (h : Rr w (.agg #[.bool s5, .int .u64 x5, .pointer p5, .int .u64 y5, .pointer q5]) n d) : Rh T (st5 w T (.bool s5) (.int .u64 x5) (.pointer p5) (.int .u64 y5) (.pointer q5)) n d := by
  refine ⟨s5, x5, p5, y5, q5, ?_, h.store ht.odd (grown5 _ _ _ _ _ _ _)⟩
  obtain ⟨s, x, p, y, q, ht⟩ := ht
  simp [World.setCell, Array.getElem?_modify, ht]
set_option maxRecDepth 100000 in
set_option maxHeartbeats 800000 in
theorem sum_any (b n cap : Nat) (l acc : Nat → Int × Nat) (w : World) (hl : SlR w b n l) (hn : n ≤ 100) (h0 : acc 0 = (0, 1)) (ha : ∀ k, k < n → AddOK (acc k) (l k) (acc (k + 1))) :
    Calls Tryz.prog 54 #[.slice (some ⟨b, 0, none⟩) n cap] w (PR (acc n).1 (acc n).2 w) := by
  have HL := Lib.hid hl; have HA := Lib.hid ha; have H0 := Lib.hid h0
  clear hl ha h0
  go_enter Tryz.func54, Tryz.ntmps54
  go_wp2
  go_loopw [8] (fun i wr => ∃ k : Nat, k ≤ n ∧ i = .int .i64 k ∧ Below w.heap.size w wr ∧ w.heap.size + 2 ≤ wr.heap.size ∧ Rq w.heap.size wr ∧ Rh (w.heap.size + 1) wr (acc k).1 (acc k).2) (fun i _ => n - (intOf i).toNat)
  case atStart =>
    refine ⟨0, Nat.zero_le _, rfl, bl2 _ _ _, by simp, (rq_new _ rfl).alloc _, false, 0, none, 0, none, ?_, by rw [H0.out]; exact Rr.zero _⟩
    have := Go.Deep.blk_alloc_new (w.alloc (.cells #[.bool false, .int .u64 0, .pointer none, .int .u64 0, .pointer none] 33)) (.cells #[.bool false, .int .u64 0, .pointer none, .int .u64 0, .pointer none] 33)
    rw [World.size_alloc] at this
    exact this
  case round =>
    obtain ⟨k, hk, rfl, hbel, hz, hq, s, x, p, y, q, hheap, hr⟩ := hrel
    have c1 : wr.cell? ⟨w.heap.size + 1, 0, none⟩ = some (.bool s) := by simp [World.cell?, hheap]
    have c2 : wr.cell? ⟨w.heap.size + 1, 1, none⟩ = some (.int .u64 x) := by simp [World.cell?, hheap]
    have c3 : wr.cell? ⟨w.heap.size + 1, 2, none⟩ = some (.pointer p) := by simp [World.cell?, hheap]
    have c4 : wr.cell? ⟨w.heap.size + 1, 3, none⟩ = some (.int .u64 y) := by simp [World.cell?, hheap]
    have c5 : wr.cell? ⟨w.heap.size + 1, 4, none⟩ = some (.pointer q) := by simp [World.cell?, hheap]
    have HH := Lib.hid hheap
    have HR := Lib.hid hr
    clear hheap hr
    by_cases hlt : k < n
    · obtain ⟨hb, hg⟩ := HL.out
      obtain ⟨s2, x2, p2, y2, q2, d1, d2, d3, d4, d5, hr2⟩ := hg k hlt
      have e1 := (hbel.cell (p := ⟨b, k * 5, none⟩) hb).trans d1
      have e2 := (hbel.cell (p := ⟨b, k * 5 + 1, none⟩) hb).trans d2
      have e3 := (hbel.cell (p := ⟨b, k * 5 + 2, none⟩) hb).trans d3
      have e4 := (hbel.cell (p := ⟨b, k * 5 + 3, none⟩) hb).trans d4
      have e5 := (hbel.cell (p := ⟨b, k * 5 + 4, none⟩) hb).trans d5
      clear d1 d2 d3 d4 d5 hg
      have HR2 := Lib.hid (hr2.keep hbel (Nat.le_refl _))
      clear hr2
      have hlt2 : w.heap.size + 1 < wr.heap.size := by omega
      have hlt1 : w.heap.size < wr.heap.size := by omega
      go_wp2_with fail
      refine (HA.out k hlt _ _ _ (HR.out.keep (bl1 _ _) (Nat.le_refl _)) (HR2.out.keep (bl1 _ _) (Nat.le_refl _))).mono ?_
      rintro e w1 ⟨hb1, v1, rfl, h1⟩
      obtain ⟨s5, x5, p5, y5, q5, rfl⟩ := h1.agg
      have tq : Rq (w.heap.size + 1) wr := ⟨s, x, p, y, q, HH.out⟩
      have k0 := Below.thru hbel hbel.size (bl1 wr (.cells #[.bool s2, .int .u64 x2, .pointer p2, .int .u64 y2, .pointer q2] 33))
      have k1 := Below.thru k0 k0.size hb1
      have z1 : w.heap.size + 2 ≤ w1.heap.size := Nat.le_trans hz (Nat.le_trans (by simp) hb1.size)
      have q1 : Rq w.heap.size w1 := (hq.alloc (.cells #[.bool s2, .int .u64 x2, .pointer p2, .int .u64 y2, .pointer q2] 33)).keep hb1 (by simp; omega)
      have t1 : Rq (w.heap.size + 1) w1 := (tq.alloc (.cells #[.bool s2, .int .u64 x2, .pointer p2, .int .u64 y2, .pointer q2] 33)).keep hb1 (by simp; omega)
      have gr := grown5 w1 (w.heap.size + 1) (.bool s5) (.int .u64 x5) (.pointer p5) (.int .u64 y5) (.pointer q5)
      have RH := Lib.hid (Rh.mk t1 h1)
      have Q2 := Lib.hid (q1.other gr (by omega))
      have K2 := Lib.hid (below5 k1 (T := w.heap.size + 1) (by omega) (.bool s5) (.int .u64 x5) (.pointer p5) (.int .u64 y5) (.pointer q5))
      have Z2 := Lib.hid (Nat.le_trans z1 gr.size)
      obtain ⟨_, _, _, _, _, m1, m2, m3, m4, m5, m6, m7, m8, m9, m10⟩ := t1.cells
      clear c1 c2 c3 c4 c5 e1 e2 e3 e4 e5 gr hb1 k0 k1 h1 q1 t1
      go_wp2
      go_roundw
      case rel => exact ⟨k + 1, by omega, by go_num, K2.out, Z2.out, Q2.out, RH.out⟩
      case measure => simp [intOf]; omega
    · obtain rfl : k = n := by omega
      obtain ⟨_, _, _, _, _, m1, m2, m3, m4, m5, m6, m7, m8, m9, m10⟩ := hq.cells
      obtain ⟨i1, i2, i3, i4, i5⟩ := five_cells m1 m2 m3 m4 m5 (.bool s) (.int .u64 x) (.pointer p) (.int .u64 y) (.pointer q)
      unfold st5 at i1 i2 i3 i4 i5
      have HF := Lib.hid (HR.out.store hq.odd (grown5 wr w.heap.size (.bool s) (.int .u64 x) (.pointer p) (.int .u64 y) (.pointer q)))
      go_wp2
      exact bodyPost_ret (v := .agg #[.bool s, .int .u64 x, .pointer p, .int .u64 y, .pointer q]) (by simp [results, Tryz.results54, go_sem, i1, i2, i3, i4, i5]) rfl ⟨below5 hbel (Nat.le_refl _) _ _ _ _ _, _, rfl, HF.out⟩
end Go.Proofs.YtjjomjjgoceklaaGreat
namespace Go.Proofs.YtjjomjjgoceklaaGreat
set_option maxRecDepth 100000
open Go.RowKit

/-! plain: decimal digits -/
def digAt (n k : Nat) : Fin 10 := ⟨n / 10 ^ k % 10, Nat.mod_lt _ (by decide)⟩
/-- the k lowest decimal digits of n, the highest first -/
def padL : Nat → Nat → List (Fin 10)
  | 0, _ => []
  | k + 1, n => digAt n k :: padL k n
theorem padL_length (k n : Nat) : (padL k n).length = k := by
  induction k with
  | zero => rfl
  | succ k ih => simp [padL, ih]
theorem padL_take (D n m : Nat) (h : m < D) : (padL D n).take (m + 1) = (padL D n).take m ++ [digAt n (D - 1 - m)] := by
  induction D generalizing m with
  | zero => omega
  | succ D ih =>
    cases m with
    | zero => simp [padL]
    | succ m =>
      simp only [padL, List.take_succ_cons, List.cons_append]
      rw [ih m (by omega), show D + 1 - 1 - (m + 1) = D - 1 - m by omega]
theorem digAt_mod (n j k : Nat) (h : k < j) : digAt (n % 10 ^ j) k = digAt n k := by
  unfold digAt
  congr 1
  have e : 10 ^ j = 10 ^ k * 10 ^ (j - k) := by rw [← Nat.pow_add]; congr 1; omega
  rw [e, Nat.mod_mul_right_div_self, Nat.mod_mod_of_dvd]
  exact ⟨10 ^ (j - k - 1), by rw [← Nat.pow_succ']; congr 1; omega⟩
theorem digAt_div (n j k : Nat) : digAt (n / 10 ^ j) k = digAt n (j + k) := by
  unfold digAt
  congr 1
  rw [Nat.div_div_eq_div_mul, Nat.pow_add]
/-- the number of decimal digits -/
def nd (n : Nat) : Nat := if n < 10 then 1 else nd (n / 10) + 1
termination_by n
decreasing_by omega
theorem nd_small {n : Nat} (h : n < 10) : nd n = 1 := by rw [nd, if_pos h]
theorem nd_big {n : Nat} (h : ¬ n < 10) : nd n = nd (n / 10) + 1 := by rw [nd, if_neg h]
theorem nd_pos (n : Nat) : 1 ≤ nd n := by
  by_cases h : n < 10
  · rw [nd_small h]; exact Nat.le_refl _
  · rw [nd_big h]; omega
theorem nd_unique {k n : Nat} (h1 : 1 ≤ k) (h2 : n < 10 ^ k) (h3 : k = 1 ∨ 10 ^ (k - 1) ≤ n) : k = nd n := by
  induction k generalizing n with
  | zero => omega
  | succ k ih =>
    by_cases hk : k = 0
    · subst hk
      rw [nd_small (by simpa using h2)]
    · have h3 : 10 ^ k ≤ n := by
        rcases h3 with h3 | h3
        · omega
        · simpa using h3
      have e : 10 ^ k = 10 * 10 ^ (k - 1) := by rw [← Nat.pow_succ']; congr 1; omega
      have p : 0 < 10 ^ (k - 1) := Nat.pow_pos (by decide)
      have hn : ¬ n < 10 := by omega
      rw [nd_big hn]
      rw [← ih (n := n / 10) (by omega) (by rw [Nat.pow_succ] at h2; omega) (by right; omega)]
theorem nd_spec (n : Nat) : n < 10 ^ nd n ∧ (nd n = 1 ∨ 10 ^ (nd n - 1) ≤ n) := by
  induction n using Nat.strongRecOn with
  | ind n ih =>
    by_cases h : n < 10
    · rw [nd_small h]; exact ⟨by simpa using h, .inl rfl⟩
    · obtain ⟨a, b⟩ := ih (n / 10) (by omega)
      rw [nd_big h]
      have hp := nd_pos (n / 10)
      have e : 10 ^ nd (n / 10) = 10 * 10 ^ (nd (n / 10) - 1) := by rw [← Nat.pow_succ']; congr 1; omega
      refine ⟨by rw [Nat.pow_succ]; omega, .inr ?_⟩
      rw [Nat.add_sub_cancel]
      rcases b with b | b
      · rw [b]; omega
      · omega
/-- the decimal digits of n, the highest first -/
def decL (n : Nat) : List (Fin 10) := padL (nd n) n
theorem decL_length (n : Nat) : (decL n).length = nd n := padL_length _ _
/-- the bytes of digits -/
def digB (l : List (Fin 10)) : List UInt8 := l.map fun d => UInt8.ofNat (48 + d.val)
/-- the text of an integer -/
def txtL (z : Int) : List UInt8 := (if z < 0 then [45] else []) ++ digB (decL z.natAbs)
def txt (z : Int) : ByteArray := ⟨(txtL z).toArray⟩

/-- gs are the digits of n to the base 10^19, the lowest first, at least one -/
def Gs (n : Nat) (gs : List Nat) : Prop := 1 ≤ gs.length ∧ (∀ i, i < gs.length → gs.getD i 0 = n / 10 ^ (19 * i) % 10 ^ 19) ∧ n < 10 ^ (19 * gs.length) ∧ (gs.length = 1 ∨ 10 ^ (19 * (gs.length - 1)) ≤ n)
theorem Gs.lt {n : Nat} {gs : List Nat} (h : Gs n gs) {i : Nat} (hi : i < gs.length) : gs.getD i 0 < 10 ^ 19 := by
  rw [h.2.1 i hi]; exact Nat.mod_lt _ (by decide)
theorem Gs.last {n : Nat} {gs : List Nat} (h : Gs n gs) : gs.getD (gs.length - 1) 0 = n / 10 ^ (19 * (gs.length - 1)) := by
  rw [h.2.1 _ (by have := h.1; omega)]
  refine Nat.mod_eq_of_lt (Nat.div_lt_of_lt_mul ?_)
  rw [← Nat.pow_add]
  have := h.1
  rw [show 19 * (gs.length - 1) + 19 = 19 * gs.length by omega]
  exact h.2.2.1
theorem Gs.nd {n K : Nat} {gs : List Nat} (h : Gs n gs) (h1 : 1 ≤ K) (h2 : gs.getD (gs.length - 1) 0 < 10 ^ K) (h3 : K = 1 ∨ 10 ^ (K - 1) ≤ gs.getD (gs.length - 1) 0) : K + 19 * (gs.length - 1) = nd n := by
  rw [h.last] at h2 h3
  have hp : 0 < 10 ^ (19 * (gs.length - 1)) := Nat.pow_pos (by decide)
  refine nd_unique (by omega) ?_ ?_
  · rw [Nat.pow_add]
    exact (Nat.div_lt_iff_lt_mul hp).1 h2
  · rcases h3 with h3 | h3
    · subst h3
      rcases h.2.2.2 with h4 | h4
      · left; rw [h4]
      · right; rw [show 1 + 19 * (gs.length - 1) - 1 = 19 * (gs.length - 1) by omega]; exact h4
    · right
      rw [show K + 19 * (gs.length - 1) - 1 = (K - 1) + 19 * (gs.length - 1) by omega, Nat.pow_add]
      exact (Nat.le_div_iff_mul_le hp).1 h3
theorem Gs.dig {n i k : Nat} {gs : List Nat} (h : Gs n gs) (hi : i < gs.length) (hk : k < 19) : digAt (gs.getD i 0) k = digAt n (19 * i + k) := by
  rw [h.2.1 i hi, digAt_mod _ _ _ hk, digAt_div]
theorem Gs.one {n : Nat} (h : n < 10 ^ 19) : Gs n [n] := by
  refine ⟨Nat.le_refl _, fun i hi => ?_, by simpa using h, .inl rfl⟩
  have : i = 0 := by simpa using hi
  subst this
  simp [Nat.mod_eq_of_lt h]
end Go.Proofs.YtjjomjjgoceklaaGreat
namespace Go.Proofs.YtjjomjjgoceklaaGreat
set_option maxRecDepth 100000
open Go.RowKit

/-- 10 to the power 19, closed to the walk -/
def T19 : Nat := 10000000000000000000
/-- groups: the digits of n to the base 10^19, in a block of words -/
def PGr (n : Nat) (w : World) (e : Ending) (w' : World) : Prop := Below w.heap.size w w' ∧ ∃ (g cap : Nat) (gs : List Nat) (cur : Array Value), e = .returned (.slice (some ⟨g, 0, none⟩) gs.length cap) ∧
  w'.heap[g]? = some (.cells cur 23 (0, 0)) ∧ (∀ i, i < gs.length → cur[i]? = some (.int .u64 ((gs.getD i 0 : Nat) : Int))) ∧ Gs n gs ∧ gs.length ≤ 4096
def GrC (n : Nat) : Prop := ∀ (v : Value) (w : World), Dg w v n → Calls Tryz.prog 140 #[v] w (PGr n w)
theorem pgr_one {w w1 : World} {o : Obj} {n c : Nat} {r : Array Value} (k : Below w.heap.size w w1) (hn : n < 10 ^ 19) : PGr n w (.returned (.slice (some ⟨w1.heap.size + 1, 0, none⟩) 1 c)) ((w1.alloc o).alloc (.cells (#[.int .u64 (n : Int)] ++ r) 23)).drew := by
  refine ⟨((k.alloc k.size _).alloc (by have := k.size; simp; omega) _).drew, w1.heap.size + 1, c, [n], #[.int .u64 (n : Int)] ++ r, rfl, ?_, fun i hi => ?_, Gs.one hn, by simp⟩
  · show ((w1.heap.push o).push _)[w1.heap.size + 1]? = _
    rw [Array.getElem?_push, if_pos (by simp)]
  · have : i = 0 := by simp at hi; omega
    subst this
    rw [Array.getElem?_append_left (by simp)]
    rfl
/-- groups of a number of at most 19 digits -/
theorem words_small (v : Value) (n : Nat) (w : World) (hn : Wd n) (h : Dg w v n) : Calls Tryz.prog 133 #[v] w fun e w' => Below w.heap.size w w' ∧ ∃ v', e = .returned v' ∧ Sl w' v' (if n = 0 then [] else [n]) := by
  refine (words_any v n w h).mono ?_
  rintro e w' ⟨hb, v', ws, rfl, hs, hnrm, hv⟩
  refine ⟨hb, v', rfl, ?_⟩
  have hl := nrm_len hnrm hv (k := 1) (by rw [Nat.pow_one]; exact hn)
  match ws, hl with
  | [], _ =>
    have : n = 0 := by rw [← hv]; rfl
    rw [if_pos this]; exact hs
  | [x], _ =>
    have hx : x = n := by rw [← hv]; simp [val]
    subst hx
    have hne : x ≠ 0 := by unfold Nrm at hnrm; simpa using hnrm
    rw [if_neg hne]; exact hs
theorem decimals_any (x : Int) (p : Option Addr) (w : World) : Calls Tryz.prog 118 #[.agg #[.int .u64 x, .pointer p]] w fun e w' => e = .returned (.func (.func 139) #[] #[.pointer (some ⟨w.heap.size, 0, none⟩)]) ∧ w' = w.alloc (.cells #[.int .u64 x, .pointer p] 26) := by
  go_enter Tryz.func118, Tryz.ntmps118
  go_wp2
  go_ret
  exact ⟨rfl, rfl⟩
theorem words_zero (v : Value) (w : World) (h : Dg w v 0) : Calls Tryz.prog 133 #[v] w fun e w' => Below w.heap.size w w' ∧ ∃ v', e = .returned v' ∧ Sl w' v' [] :=
  (words_small v 0 w Wd.zero h).mono fun _ _ ⟨h1, v', h2, h3⟩ => ⟨h1, v', h2, by rw [if_pos rfl] at h3; exact h3⟩
theorem words_one (v : Value) (n : Nat) (w : World) (hn : Wd n) (h0 : n ≠ 0) (h : Dg w v n) : Calls Tryz.prog 133 #[v] w fun e w' => Below w.heap.size w w' ∧ ∃ v', e = .returned v' ∧ Sl w' v' [n] :=
  (words_small v n w hn h).mono fun _ _ ⟨h1, v', h2, h3⟩ => ⟨h1, v', h2, by rw [if_neg h0] at h3; exact h3⟩
set_option maxRecDepth 100000 in
theorem groups_zero (v : Value) (w : World) (h : Dg w v 0) : Calls Tryz.prog 140 #[v] w (PGr 0 w) := by
  have H := Lib.hid h
  obtain ⟨x, p, rfl⟩ := h.agg
  clear h
  obtain ⟨i0, hi, hz0, hz1, hz2⟩ := info_parts Tryz.info23
  go_enter Tryz.func140, Tryz.ntmps140
  go_wp2_with fail
  refine (words_zero _ _ (H.out.keep (bl1 _ _) (Nat.le_refl _))).mono ?_
  rintro e w1 ⟨hb1, v1, rfl, h1⟩
  have k1 := Below.thru (bl1 w _) (by simp) hb1
  obtain ⟨p1, cap1, rfl, _, _⟩ := h1.opened
  clear h1 hb1
  rw [List.length_nil]
  go_wp2
  go_loopw [3, 4] (fun gr t wr => gr = .slice none 0 0 ∧ t = .slice p1 0 cap1 ∧ wr = w1) (fun _ _ _ => 0)
  case atStart => exact ⟨rfl, rfl, rfl⟩
  case round =>
    obtain ⟨rfl, rfl, rfl⟩ := hrel
    go_wp2
    go_ret
    exact pgr_one k1 (by decide)
set_option maxRecDepth 100000 in
theorem groups_one (v : Value) (n : Nat) (w : World) (hn : Wd n) (h0 : n ≠ 0) (ht : n < T19) (h : Dg w v n) : Calls Tryz.prog 140 #[v] w (PGr n w) := by
  have H := Lib.hid h
  have HN := Lib.hid hn
  have HT := Lib.hid ht
  obtain ⟨x, p, rfl⟩ := h.agg
  clear h ht
  obtain ⟨i0, hi, hz0, hz1, hz2⟩ := info_parts Tryz.info23
  go_enter Tryz.func140, Tryz.ntmps140
  go_wp2_with fail
  refine (words_one _ n _ hn h0 (H.out.keep (bl1 _ _) (Nat.le_refl _))).mono ?_
  clear hn h0
  rintro e w1 ⟨hb1, v1, rfl, h1⟩
  have k1 := Below.thru (bl1 w _) (by simp) hb1
  obtain ⟨b1, o1, cap1, rfl, hlt, hcell⟩ := sl_len1 h1
  clear h1 hb1
  go_wp2
  go_loopw [3, 4] (fun gr t wr => gr = .slice none 0 0 ∧ t = .slice (some ⟨b1, o1, none⟩) 1 cap1 ∧ wr = w1) (fun _ _ _ => 0)
  case atStart => exact ⟨rfl, rfl, rfl⟩
  case round =>
    obtain ⟨rfl, rfl, rfl⟩ := hrel
    go_upto_region 9 with fail
    go_upto_if 29 with fail
    rw [decide_eq_true (show (n : Int) < 10000000000000000000 by have := HT.out; unfold T19 at this; omega)]
    go_upto_region 10 with fail
    go_upto_region 11 with fail
    go_ret
    exact pgr_one k1 (by have := HT.out; unfold T19 at this; omega)
theorem grC_small (n : Nat) (h : n < T19) : GrC n := fun v w hd => by
  by_cases h0 : n = 0
  · subst h0; exact groups_zero v w hd
  · exact groups_one v n w (by unfold T19 at h; unfold Wd WB; omega) h0 h hd
end Go.Proofs.YtjjomjjgoceklaaGreat
namespace Go.Proofs.YtjjomjjgoceklaaGreat
set_option maxRecDepth 100000
open Go.RowKit Go.Shelf
attribute [local go_sem] Oper.semAt_some

/-- the blocks of words lie as they lay -/
def KW (W W' : World) : Prop := W.heap.size ≤ W'.heap.size ∧ ∀ (b : Nat) (cur : Array Value), W.heap[b]? = some (.cells cur 23 (0, 0)) → W'.heap[b]? = some (.cells cur 23 (0, 0))
theorem KW.refl (W : World) : KW W W := ⟨Nat.le_refl _, fun _ _ h => h⟩
theorem KW.trans {A B C : World} (h : KW A B) (k : KW B C) : KW A C := ⟨Nat.le_trans h.1 k.1, fun b c hb => k.2 b c (h.2 b c hb)⟩
theorem KW.alloc (W : World) (o : Obj) : KW W (W.alloc o) := ⟨by simp, fun b c hb => (Below.heap_alloc W o b (Array.getElem?_eq_some_iff.1 hb).1).trans hb⟩
theorem KW.below {B : Nat} {W W' : World} (h : Below B W W') (hB : W.heap.size ≤ B) : KW W W' := ⟨h.size, fun b _c hb => (h.block b (Nat.lt_of_lt_of_le (Array.getElem?_eq_some_iff.1 hb).1 hB)).trans hb⟩
theorem KW.putObj {W : World} {l : Nat} {o : Obj} (o' : Obj) (hl : W.heap[l]? = some o) (ho : o.isCells = false) : KW W (W.putObj l o') :=
  ⟨by simp, fun b c hb => by
    by_cases e : b = l
    · subst e; rw [hl] at hb; cases hb; cases ho
    · exact (World.putObj_heap_other e).trans hb⟩
/-- a turn of one block that is no block of words -/
theorem KW.grown {W W' : World} {row : Option Nat} (hg : W.grownBy W' row) (h : ∀ j cur, row = some j → W.heap[j]? = some (.cells cur 23 (0, 0)) → False) : KW W W' :=
  ⟨hg.size, fun b c hb => (hg.block b (Array.getElem?_eq_some_iff.1 hb).1 (fun e => h b c e.symm hb)).trans hb⟩
theorem below_grown {W W' : World} (h : Below W.heap.size W W') : W.grownBy W' none := ⟨h.os, h.tape, h.output, h.size, fun k hk _ => h.block k hk⟩

theorem u64_div (a u : Nat) (h : a < 10 ^ 19) : IntKind.u64.wrap ((a : Int) / (u : Int)) = ((a / u : Nat) : Int) := by
  rw [IntKind.wrap_u64, ← Int.natCast_ediv]
  have := Nat.div_le_self a u
  generalize a / u = q at *
  omega
/-- what lies behind the calls of yield for digits -/
def YD (N : Nat) (J Jx : List (Fin 10) → World → Prop) (e : Ending) (W' : World) : Prop :=
  (∃ v, e = .returned v) ∧ ((∃ ys, ys = decL N ∧ J ys W') ∨ (∃ pre, True ∧ Jx pre W'))
theorem YD.stop {N : Nat} {J Jx : List (Fin 10) → World → Prop} {v : Value} {W' : World} {pre : List (Fin 10)} (h : Jx pre W') : YD N J Jx (.returned v) W' := ⟨⟨_, rfl⟩, .inr ⟨_, trivial, h⟩⟩

set_option maxRecDepth 100000 in
set_option maxHeartbeats 2000000 in
theorem dec1_in (n : Nat) (hn : 1 ≤ n) (l B N : Nat) (x : Int) (p : Option Addr) (hG : GrC N) (J Jx : List (Fin 10) → World → Prop)
    (hJ : ∀ s W W', J s W → W.grownBy W' none → J s W')
    (hY : ∀ pre d W, J pre W → pre.length < nd N → YieldAt Fence.wide (n - 1) Tryz.prog l #[.int .u8 ((Fin.val d : Nat) : Int)] W fun e W' =>
      (e = .returned (.bool true) ∧ J (pre ++ [d]) W' ∧ KW W W') ∨ (e = .returned (.bool false) ∧ Jx (pre ++ [d]) W'))
    (W : World) (c0 : W.cell? ⟨B, 0, none⟩ = some (.int .u64 x)) (c1 : W.cell? ⟨B, 1, none⟩ = some (.pointer p)) (hd : Dg W (.agg #[.int .u64 x, .pointer p]) N) (h0 : J [] W) :
    CallsIn Fence.wide n Tryz.prog 139 #[.func (.yield l) #[] #[], .pointer (some ⟨B, 0, none⟩)] W (YD N J Jx) := by
  refine callsIn_of_wp Tryz.func139 rfl trivial ?_ rfl
  simp only [Tryz.ntmps139, List.size_toArray, List.length_cons, List.length_nil, Nat.reduceAdd, Nat.reduceSub, Array.replicate_succ, Array.replicate_zero, List.push_toArray, List.append_toArray, List.nil_append, List.cons_append]
  have HD := Lib.hid hd
  clear hd
  gi_wp2_with fail
  refine ⟨trivial, ?_⟩
  refine (callsIn_wide.2 (hG _ _ HD.out)).mono ?_
  rintro e w1 ⟨hb1, g, cap, gs, cur, rfl, hblk, hcur, hgs, hlen⟩
  have J1 := Lib.hid (hJ _ _ _ h0 (below_grown hb1))
  obtain ⟨m, hm⟩ : ∃ m, gs.length = m + 1 := ⟨gs.length - 1, by have := hgs.1; omega⟩
  rw [hm] at hlen hcur ⊢
  have HM := Lib.hid hm
  have HG := Lib.hid hgs
  have HC := Lib.hid hcur
  have HBK := Lib.hid hblk
  have gl9 : gs.getD m 0 < 10 ^ 19 := hgs.lt (by omega)
  have hcell : ∀ (wr : World), KW w1 wr → ∀ i, i < m + 1 → wr.cell? ⟨g, i, none⟩ = some (.int .u64 ((gs.getD i 0 : Nat) : Int)) := fun wr hk i hi => by
    unfold World.cell?
    dsimp only
    rw [hk.2 _ _ HBK.out]
    exact HC.out i hi
  have HCL := Lib.hid hcell
  have c2 := hcell w1 (KW.refl _) m (Nat.lt_succ_self _)
  have HND : Hid (∀ K, 1 ≤ K → gs.getD m 0 < 10 ^ K → (K = 1 ∨ 10 ^ (K - 1) ≤ gs.getD m 0) → K + 19 * m = nd N) := fun K a b c => by
    have h := hgs.nd (K := K) a (by rw [hm]; exact b) (by rw [hm]; exact c)
    rw [hm] at h
    exact h
  clear hcell hcur hblk hgs hm c0 c1 h0 hb1
  generalize hgl : gs.getD m 0 = gl at *
  have HGL := Lib.hid hgl
  have HG9 := Lib.hid gl9
  clear hgl gl9
  gi_wp2
  gi_loopw [5] (fun u wr => wr = w1 ∧ ∃ (k v : Nat), u = .int .u64 (v : Int) ∧ Hid (v = 10 ^ k) ∧ k ≤ 18 ∧ Hid (k = 0 ∨ 10 ^ k ≤ gl)) (fun u _ => T19 - (intOf u).toNat)
  case atStart => exact ⟨rfl, 0, 1, rfl, rfl, by omega, .inl rfl⟩
  case round =>
    obtain ⟨rfl, k, u, rfl, HU, hk, HK⟩ := hrel
    have hu0 : 0 < u := by rw [HU.out]; exact Nat.pow_pos (by decide)
    have hdv := u64_div gl u HG9.out
    obtain ⟨dd, hdd⟩ : ∃ dd, dd = gl / u := ⟨_, rfl⟩
    rw [← hdd] at hdv
    have HDD := Lib.hid hdd
    by_cases hge : 10 ≤ gl / u
    · have hk17 : k ≤ 17 := by
        rcases Nat.lt_or_ge 17 k with h | h
        · exfalso
          obtain rfl : k = 18 := by omega
          have h1 := HU.out
          have h2 := HG9.out
          have h3 : 10 * u ≤ gl := by have := (Nat.le_div_iff_mul_le hu0).1 hge; omega
          rw [h1] at h3
          omega
        · exact h
      have hu1 : u ≤ 100000000000000000 := by
        rw [HU.out]
        exact Nat.le_trans (Nat.pow_le_pow_right (by decide) hk17) (by decide)
      have HK2 : Hid (k + 1 = 0 ∨ 10 ^ (k + 1) ≤ gl) := .inr (by
        have h3 : 10 * u ≤ gl := by have := (Nat.le_div_iff_mul_le hu0).1 hge; omega
        rw [HU.out] at h3
        rw [Nat.pow_succ]; omega)
      have HU2 : Hid (10 * u = 10 ^ (k + 1)) := by show _ = _; rw [HU.out, Nat.pow_succ]; omega
      have hge2 : (10 : Int) ≤ (dd : Int) := by omega
      have hge3 : 10 ≤ dd := by omega
      clear hdd
      have hw := ten_wrap u (by omega)
      clear hge
      gi_wp2
      go_roundw
      case rel => exact ⟨trivial, k + 1, 10 * u, by go_num, HU2.out, by omega, HK2.out⟩
      case measure => 
        have : (10 : Nat) ^ 19 = T19 := by decide
        simp [intOf]; unfold T19; omega
    · have hu1 : u ≤ 1000000000000000000 := by
        rw [HU.out]
        exact Nat.le_trans (Nat.pow_le_pow_right (by decide) hk) (by decide)
      have hge2 : (dd : Int) < 10 := by omega
      have hge3 : dd < 10 := by omega
      have HND2 : Hid (k + 1 + 19 * m = nd N) := by
        refine HND.out (k + 1) (by omega) ?_ ?_
        · rw [Nat.pow_succ, ← HU.out]
          have := (Nat.div_lt_iff_lt_mul hu0).1 (show gl / u < 10 by omega)
          omega
        · rcases HK.out with h | h
          · left; omega
          · right; exact h
      clear hdd hge
      obtain ⟨w2, rfl⟩ : ∃ wo : World, wo = wr := ⟨_, rfl⟩
      gi_wp2
      gi_loopw [5, 6] (fun u i wr2 => ∃ (ci : Int) (left : Nat) (v : Nat), i = .int .i64 ci ∧ u = .int .u64 (v : Int) ∧ J ((decL N).take (nd N - left)) wr2 ∧ KW w2 wr2 ∧ Hid (left ≤ nd N) ∧
          Hid ((ci = -1 ∧ left = 0) ∨ ∃ j k2 : Nat, ci = j ∧ j ≤ m ∧ k2 ≤ 18 ∧ v = 10 ^ k2 ∧ left = 19 * j + k2 + 1)) (fun _ i _ => (intOf i + 1).toNat)
      case atStart => exact ⟨(m : Int), nd N, u, rfl, rfl, by rw [Nat.sub_self]; exact J1.out, KW.refl _, Nat.le_refl _, .inr ⟨m, k, rfl, Nat.le_refl _, hk, HU.out, by have := HND2.out; omega⟩⟩
      case round =>
        obtain ⟨ci, left, v, rfl, rfl, HJ, hkw, HLE, HCI⟩ := hrel
        rcases HCI.out with ⟨rfl, rfl⟩ | ⟨j, k2, rfl, hjm, hk2, hv, hleft⟩
        · gi_wp2
          go_end0
          exact ⟨⟨_, rfl⟩, .inl ⟨_, rfl, by rw [Nat.sub_zero, List.take_of_length_le (by rw [decL_length]; exact Nat.le_refl _)] at HJ; exact HJ⟩⟩
        · obtain ⟨w3, rfl⟩ : ∃ wo : World, wo = wr := ⟨_, rfl⟩
          gi_wp2
          gi_loopw [5] (fun u wr3 => ∃ (left2 v2 : Nat), u = .int .u64 (v2 : Int) ∧ J ((decL N).take (nd N - left2)) wr3 ∧ KW w2 wr3 ∧ Hid (left2 ≤ nd N) ∧
              Hid ((v2 = 0 ∧ left2 = 19 * j) ∨ ∃ k3 : Nat, k3 ≤ 18 ∧ v2 = 10 ^ k3 ∧ left2 = 19 * j + k3 + 1)) (fun u _ => (intOf u).toNat)
          case atStart => exact ⟨left, v, rfl, HJ, hkw, HLE.out, .inr ⟨k2, hk2, hv, hleft⟩⟩
          case round =>
            obtain ⟨left2, v2, rfl, HJ2, hkw2, HLE2, HV2⟩ := hrel
            rcases HV2.out with ⟨rfl, hl2⟩ | ⟨k3, hk3, hv3, hl2⟩
            · gi_wp2
              go_roundw
              case rel => exact ⟨(j : Int) - 1, left2, 1000000000000000000, rfl, rfl, HJ2, hkw2, HLE2.out, by
                show _ ∨ _
                cases j with
                | zero => left; exact ⟨by simp, by omega⟩
                | succ j' => right; exact ⟨j', 18, by omega, by omega, by omega, by decide, by omega⟩⟩
              case measure => simp [intOf]
            · have hv0 : 0 < v2 := by rw [hv3]; exact Nat.pow_pos (by decide)
              have hv1 : v2 ≤ 1000000000000000000 := by
                rw [hv3]
                exact Nat.le_trans (Nat.pow_le_pow_right (by decide) hk3) (by decide)
              have cj := HCL.out wr hkw2 j (by omega)
              have hlj : gs.getD j 0 < 10 ^ 19 := HG.out.lt (by rw [HM.out]; omega)
              have hdj := HG.out.dig (i := j) (k := k3) (by rw [HM.out]; omega) (by omega)
              have hl3 := HLE2.out
              have hle : ((decL N).take (nd N - left2)).length < nd N := by rw [List.length_take, decL_length]; omega
              have htk := padL_take (nd N) N (nd N - left2) (by omega)
              rw [show nd N - 1 - (nd N - left2) = 19 * j + k3 by omega] at htk
              obtain ⟨fn, tmps, assign, body, hy, hR⟩ := hY _ (digAt N (19 * j + k3)) wr HJ2 hle
              have hdv3 := u64_div (gs.getD j 0) v2 hlj
              have hdv4 : IntKind.u64.wrap ((v2 : Int) / 10) = ((v2 / 10 : Nat) : Int) := u64_div v2 10 (by omega)
              generalize digAt N (19 * j + k3) = dg at *
              have hval : gs.getD j 0 / v2 % 10 = dg.val := by rw [hv3, ← hdj]; rfl
              generalize gs.getD j 0 = gj at *
              generalize hd3 : gj / v2 = d3 at *
              generalize hd4 : v2 / 10 = d4 at *
              have hval2 : (d3 : Int) % 10 = ((dg.val : Nat) : Int) := by omega
              have hlt10 := dg.isLt
              have HV4 : Hid ((d4 = 0 ∧ left2 - 1 = 19 * j) ∨ ∃ k4 : Nat, k4 ≤ 18 ∧ d4 = 10 ^ k4 ∧ left2 - 1 = 19 * j + k4 + 1) := by
                cases k3 with
                | zero => left; rw [Nat.pow_zero] at hv3; omega
                | succ k4 => right; exact ⟨k4, by omega, by rw [Nat.pow_succ] at hv3; omega, by omega⟩
              have hvd : d4 < v2 := by omega
              have HT : Hid ((decL N).take (nd N - (left2 - 1)) = (decL N).take (nd N - left2) ++ [dg]) := by
                show _ = _
                rw [show nd N - (left2 - 1) = nd N - left2 + 1 by omega]; exact htk
              have HL4 : Hid (left2 - 1 ≤ nd N) := by show _ ≤ _; omega
              clear hd3 hd4 hv3 hl2 htk hle hdj hl3 hval hv hleft
              gi_wp2
              refine hR.mono ?_
              rintro e W3 (⟨rfl, hJ3, hk3'⟩ | ⟨rfl, hJx3⟩)
              · gi_wp2
                go_roundw
                case rel => exact ⟨left2 - 1, d4, rfl, by rw [HT.out]; exact hJ3, hkw2.trans hk3', HL4.out, HV4.out⟩
                case measure => simp [intOf]; omega
              · gi_wp2
                exact bodyPost_ret (results_none rfl _ _ _) rfl (YD.stop hJx3)
/-- the iterator of decimal digits -/
theorem dec_stops (n : Nat) (hn : 1 ≤ n) (B N : Nat) (x : Int) (p : Option Addr) (hG : GrC N) (w : World) (hB : B < w.heap.size)
    (c0 : w.cell? ⟨B, 0, none⟩ = some (.int .u64 x)) (c1 : w.cell? ⟨B, 1, none⟩ = some (.pointer p)) (hd : Dg w (.agg #[.int .u64 x, .pointer p]) N) :
    SeqStopsK Fence.wide n Tryz.prog 139 #[.pointer (some ⟨B, 0, none⟩)] (fun d : Fin 10 => #[.int .u8 ((Fin.val d : Nat) : Int)]) KW (fun ys => ys = decL N) (fun _ => True) (nd N) w := fun l J Jx W hW hJ _ hY h0 =>
  dec1_in n hn l B N x p hG J Jx (fun s A C h g => hJ s A C none h g (fun r e => by cases e)) hY W ((hW.cell (p := ⟨B, 0, none⟩) hB).trans c0) ((hW.cell (p := ⟨B, 1, none⟩) hB).trans c1) (hd.keep hW (Nat.le_refl _)) h0
end Go.Proofs.YtjjomjjgoceklaaGreat
