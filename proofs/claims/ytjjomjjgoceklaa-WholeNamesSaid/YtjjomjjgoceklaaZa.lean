import Derived.Test.YtjjomjjgoceklaaY
namespace Go.Proofs.Ytjjomjjgoceklaa
open Go.RowKit

/-- adding two ratios gives a third -/
def AddOK (a b c : Int × Nat) : Prop := ∀ (va vb : Value) (w : World), Rr w va a.1 a.2 → Rr w vb b.1 b.2 → Calls Try.prog 77 #[va, vb] w (PR c.1 c.2 w)
/-- block b holds n ratios -/
def SlR (w : World) (b n : Nat) (l : Nat → Int × Nat) : Prop := b < w.heap.size ∧ ∀ i, i < n → ∃ (s : Bool) (x : Int) (p : Option Addr) (y : Int) (q : Option Addr),
  w.cell? ⟨b, i * 5, none⟩ = some (.bool s) ∧ w.cell? ⟨b, i * 5 + 1, none⟩ = some (.int .u64 x) ∧ w.cell? ⟨b, i * 5 + 2, none⟩ = some (.pointer p) ∧ w.cell? ⟨b, i * 5 + 3, none⟩ = some (.int .u64 y) ∧ w.cell? ⟨b, i * 5 + 4, none⟩ = some (.pointer q) ∧
  Rr w (.agg #[.bool s, .int .u64 x, .pointer p, .int .u64 y, .pointer q]) (l i).1 (l i).2
theorem Rr.zero (w : World) : Rr w (.agg #[.bool false, .int .u64 0, .pointer none, .int .u64 0, .pointer none]) 0 1 := ⟨false, 0, none, 0, none, rfl, Zr.zero w, Dg.of_small _ Wd.zero, by omega, by simp⟩
/-- the R box at T holds n over d -/
def Rh (T : Nat) (w : World) (n : Int) (d : Nat) : Prop := ∃ (s : Bool) (x : Int) (p : Option Addr) (y : Int) (q : Option Addr), w.heap[T]? = some (.cells #[.bool s, .int .u64 x, .pointer p, .int .u64 y, .pointer q] 61) ∧ Rr w (.agg #[.bool s, .int .u64 x, .pointer p, .int .u64 y, .pointer q]) n d

theorem Rq.other {w w' : World} {T U : Nat} (h : Rq U w) (hg : w.grownBy w' (some T)) (hne : U ≠ T) : Rq U w' := by
  obtain ⟨s, x, p, y, q, h⟩ := h
  exact ⟨s, x, p, y, q, (hg.block U (Array.getElem?_eq_some_iff.1 h).1 (by intro e; cases e; exact hne rfl)).trans h⟩
theorem Rh.mk {T : Nat} {w : World} {n : Int} {d : Nat} {s5 : Bool} {x5 : Int} {p5 : Option Addr} {y5 : Int} {q5 : Option Addr} (ht : Rq T w) (h : Rr w (.agg #[.bool s5, .int .u64 x5, .pointer p5, .int .u64 y5, .pointer q5]) n d) : Rh T (st5 w T (.bool s5) (.int .u64 x5) (.pointer p5) (.int .u64 y5) (.pointer q5)) n d := by
  refine ⟨s5, x5, p5, y5, q5, ?_, h.store ht.odd (grown5 _ _ _ _ _ _ _)⟩
  obtain ⟨s, x, p, y, q, ht⟩ := ht
  simp [World.setCell, Array.getElem?_modify, ht]
set_option maxRecDepth 100000 in
set_option maxHeartbeats 800000 in
theorem sum_any (b n cap : Nat) (l acc : Nat → Int × Nat) (w : World) (hl : SlR w b n l) (hn : n ≤ 100) (h0 : acc 0 = (0, 1)) (ha : ∀ k, k < n → AddOK (acc k) (l k) (acc (k + 1))) :
    Calls Try.prog 59 #[.slice (some ⟨b, 0, none⟩) n cap] w (PR (acc n).1 (acc n).2 w) := by
  have HL := Lib.hid hl; have HA := Lib.hid ha; have H0 := Lib.hid h0
  clear hl ha h0
  go_enter Try.func59, Try.ntmps59
  go_wp2
  go_loopw [8] (fun i wr => ∃ k : Nat, k ≤ n ∧ i = .int .i64 k ∧ Below w.heap.size w wr ∧ w.heap.size + 2 ≤ wr.heap.size ∧ Rq w.heap.size wr ∧ Rh (w.heap.size + 1) wr (acc k).1 (acc k).2) (fun i _ => n - (intOf i).toNat)
  case atStart =>
    refine ⟨0, Nat.zero_le _, rfl, bl2 _ _ _, by simp, (rq_new _ rfl).alloc _, false, 0, none, 0, none, ?_, by rw [H0.out]; exact Rr.zero _⟩
    have := Go.Deep.blk_alloc_new (w.alloc (.cells #[.bool false, .int .u64 0, .pointer none, .int .u64 0, .pointer none] 61)) (.cells #[.bool false, .int .u64 0, .pointer none, .int .u64 0, .pointer none] 61)
    rw [World.size_alloc] at this
    exact this
  case round =>
    obtain ⟨k, hk, rfl, hbel, hz, hq, s, x, p, y, q, hheap, hr⟩ := hrel
    have c1 : wr.cell? ⟨w.heap.size + 1, 0, none⟩ = some (.bool s) := by simp [World.cell?, hheap]
    have c2 : wr.cell? ⟨w.heap.size + 1, 1, none⟩ = some (.int .u64 x) := by simp [World.cell?, hheap]
    have c3 : wr.cell? ⟨w.heap.size + 1, 2, none⟩ = some (.pointer p) := by simp [World.cell?, hheap]
    have c4 : wr.cell? ⟨w.heap.size + 1, 3, none⟩ = some (.int .u64 y) := by simp [World.cell?, hheap]
    have c5 : wr.cell? ⟨w.heap.size + 1, 4, none⟩ = some (.pointer q) := by simp [World.cell?, hheap]
    have HH := Lib.hid hheap
    have HR := Lib.hid hr
    clear hheap hr
    by_cases hlt : k < n
    · obtain ⟨hb, hg⟩ := HL.out
      obtain ⟨s2, x2, p2, y2, q2, d1, d2, d3, d4, d5, hr2⟩ := hg k hlt
      have e1 := (hbel.cell (p := ⟨b, k * 5, none⟩) hb).trans d1
      have e2 := (hbel.cell (p := ⟨b, k * 5 + 1, none⟩) hb).trans d2
      have e3 := (hbel.cell (p := ⟨b, k * 5 + 2, none⟩) hb).trans d3
      have e4 := (hbel.cell (p := ⟨b, k * 5 + 3, none⟩) hb).trans d4
      have e5 := (hbel.cell (p := ⟨b, k * 5 + 4, none⟩) hb).trans d5
      clear d1 d2 d3 d4 d5 hg
      have HR2 := Lib.hid (hr2.keep hbel (Nat.le_refl _))
      clear hr2
      have hlt2 : w.heap.size + 1 < wr.heap.size := by omega
      have hlt1 : w.heap.size < wr.heap.size := by omega
      go_wp2_with fail
      refine (HA.out k hlt _ _ _ (HR.out.keep (bl1 _ _) (Nat.le_refl _)) (HR2.out.keep (bl1 _ _) (Nat.le_refl _))).mono ?_
      rintro e w1 ⟨hb1, v1, rfl, h1⟩
      obtain ⟨s5, x5, p5, y5, q5, rfl⟩ := h1.agg
      have tq : Rq (w.heap.size + 1) wr := ⟨s, x, p, y, q, HH.out⟩
      have k0 := Below.thru hbel hbel.size (bl1 wr (.cells #[.bool s2, .int .u64 x2, .pointer p2, .int .u64 y2, .pointer q2] 61))
      have k1 := Below.thru k0 k0.size hb1
      have z1 : w.heap.size + 2 ≤ w1.heap.size := Nat.le_trans hz (Nat.le_trans (by simp) hb1.size)
      have q1 : Rq w.heap.size w1 := (hq.alloc (.cells #[.bool s2, .int .u64 x2, .pointer p2, .int .u64 y2, .pointer q2] 61)).keep hb1 (by simp; omega)
      have t1 : Rq (w.heap.size + 1) w1 := (tq.alloc (.cells #[.bool s2, .int .u64 x2, .pointer p2, .int .u64 y2, .pointer q2] 61)).keep hb1 (by simp; omega)
      have gr := grown5 w1 (w.heap.size + 1) (.bool s5) (.int .u64 x5) (.pointer p5) (.int .u64 y5) (.pointer q5)
      have RH := Lib.hid (Rh.mk t1 h1)
      have Q2 := Lib.hid (q1.other gr (by omega))
      have K2 := Lib.hid (below5 k1 (T := w.heap.size + 1) (by omega) (.bool s5) (.int .u64 x5) (.pointer p5) (.int .u64 y5) (.pointer q5))
      have Z2 := Lib.hid (Nat.le_trans z1 gr.size)
      obtain ⟨_, _, _, _, _, m1, m2, m3, m4, m5, m6, m7, m8, m9, m10⟩ := t1.cells
      clear c1 c2 c3 c4 c5 e1 e2 e3 e4 e5 gr hb1 k0 k1 h1 q1 t1
      go_wp2
      go_roundw
      case rel => exact ⟨k + 1, by omega, by go_num, K2.out, Z2.out, Q2.out, RH.out⟩
      case measure => simp [intOf]; omega
    · obtain rfl : k = n := by omega
      obtain ⟨_, _, _, _, _, m1, m2, m3, m4, m5, m6, m7, m8, m9, m10⟩ := hq.cells
      obtain ⟨i1, i2, i3, i4, i5⟩ := five_cells m1 m2 m3 m4 m5 (.bool s) (.int .u64 x) (.pointer p) (.int .u64 y) (.pointer q)
      unfold st5 at i1 i2 i3 i4 i5
      have HF := Lib.hid (HR.out.store hq.odd (grown5 wr w.heap.size (.bool s) (.int .u64 x) (.pointer p) (.int .u64 y) (.pointer q)))
      go_wp2
      exact bodyPost_ret (v := .agg #[.bool s, .int .u64 x, .pointer p, .int .u64 y, .pointer q]) (by simp [results, Try.results59, go_sem, i1, i2, i3, i4, i5]) rfl ⟨below5 hbel (Nat.le_refl _) _ _ _ _ _, _, rfl, HF.out⟩
end Go.Proofs.Ytjjomjjgoceklaa
