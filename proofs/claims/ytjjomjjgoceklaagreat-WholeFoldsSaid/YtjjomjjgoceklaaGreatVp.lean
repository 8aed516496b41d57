import Derived.Test.YtjjomjjgoceklaaGreatVn
import Derived.Test.YtjjomjjgoceklaaGreatKbf
import Derived.Test.YtjjomjjgoceklaaGreatVi
namespace Go.Proofs.YtjjomjjgoceklaaGreat
set_option maxRecDepth 100000
open Go.RowKit

/-! the foremost of a row of ratios -/
structure GBf (w0 : World) (Ts : Nat) (side : Int) (a b : Rat) (w : World) : Prop where
  kb : Below w0.heap.size w0 w
  a : Hq w0.heap.size a.num a.den w
  b : Hq (w0.heap.size + 1) b.num b.den w
  s : w.heap[Ts]? = some (.cells #[.int .i64 side] 3 (0, 0))
theorem GBf.keep {w0 w w' : World} {Ts : Nat} {side : Int} {a b : Rat} (h : GBf w0 Ts side a b w) (hb : Below w.heap.size w w') : GBf w0 Ts side a b w' := ⟨Below.thru h.kb h.kb.size hb, h.a.keep hb, h.b.keep hb, blk_keep h.s hb⟩
def tab137 (a b : Rat) (side : Int) (tt : Nat) : Kd := [(.v (.bool (cmpQ a b == side))), .q a.num a.den, .q b.num b.den, (ki (cmpQ a b)), (ki side), (.v (.bool (cmpQ a b == side)))].getD (tt - 5) .any
def D137 (t : Nat) : Bool := (Nat.ble 5 t && Nat.ble t 10)
theorem before_any (va vb : Value) (a b : Rat) (k l : Nat) (w : World) (Ts : Nat) (side : Int) (ha : Rr w va a.num a.den) (hb : Rr w vb b.num b.den) (hs : w.heap[Ts]? = some (.cells #[.int .i64 side] 3 (0, 0))) (ba : Bd9 k a) (bb : Bd9 l b) (hk : k ≤ 1000) (hl : l ≤ 1000) :
    Calls Tryz.prog 137 #[va, vb, .pointer (some ⟨Ts, 0, none⟩)] w (PB (cmpQ a b == side) w) := by
  obtain ⟨s1, x1, p1, y1, q1, rfl⟩ := ha.agg
  obtain ⟨s2, x2, p2, y2, q2, rfl⟩ := hb.agg
  have S : GBf w Ts side a b ((w.alloc (.cells #[.bool s1, .int .u64 x1, .pointer p1, .int .u64 y1, .pointer q1] 33)).alloc (.cells #[.bool s2, .int .u64 x2, .pointer p2, .int .u64 y2, .pointer q2] 33)) := by
    have kk := bl2 w (.cells #[.bool s1, .int .u64 x1, .pointer p1, .int .u64 y1, .pointer q1] 33) (.cells #[.bool s2, .int .u64 x2, .pointer p2, .int .u64 y2, .pointer q2] 33)
    have B2 := Hq.new (hb.keep (bl1 w (.cells #[.bool s1, .int .u64 x1, .pointer p1, .int .u64 y1, .pointer q1] 33)) (Nat.le_refl _))
    rw [World.size_alloc] at B2
    exact ⟨kk, (Hq.new ha).keep (bl1 _ _), B2, blk_keep hs kk⟩
  have S := Lib.hid S
  clear ha hb hs
  go_enter Tryz.func137, Tryz.ntmps137
  go_upto_region 1 with fail
  go_cut [5] (fun v wx => v = .bool (cmpQ a b == side) ∧ Below w.heap.size w wx)
  case first =>
    rename_i J K' hJ hK
    refine wp_region_kd D137 (tab137 a b side) (GBf w Ts side a b) (by kernel_rfl) (by kernel_rfl) (by kernel_rfl) (by kernel_rfl) (fun _ _ h hb => h.keep hb) (S.out.keep (Below.refl _ _).drew) ?_ ?_
    ·
      refine .cons (fun f w' hI hs => ?_) ?_
      · obtain ⟨s, x, y, p, q, h1, h2⟩ := hI.a
        exact ⟨wanted_none rfl, _, rfl, .val (rn_load61 rfl (fr_old rfl rfl) h1) ⟨Below.refl _ _, h2⟩⟩
      refine .cons (fun f w' hI hs => ?_) ?_
      · obtain ⟨s, x, y, p, q, h1, h2⟩ := hI.b
        exact ⟨wanted_none rfl, _, rfl, .val (rn_load61 rfl (fr_old rfl rfl) h1) ⟨Below.refl _ _, h2⟩⟩
      refine .cons (fun f w' hI hs => ⟨wanted_none rfl, _, rfl, .call2 rfl cf52 rfl rfl rfl rfl (PCq.kd (rcmpR (a := a) (b := b) (hs 6 (by kernel_rfl)) (hs 7 (by kernel_rfl)) ba bb hk hl))⟩) ?_
      refine .cons (fun f w' hI hs => ⟨wanted_none rfl, _, rfl, .val (rn_load3 rfl (fr_old rfl rfl) (by have := hI.s; simp [World.cell?, this])) ⟨Below.refl _ _, rfl⟩⟩) ?_
      refine .cons (fun f w' hI hs => ⟨wanted_none rfl, _, rfl, .val (rn_eqlI rfl ((fr_own rfl rfl).trans (hs 8 (by kernel_rfl))) ((fr_own rfl rfl).trans (hs 9 (by kernel_rfl))) rfl) ⟨Below.refl _ _, rfl⟩⟩) ?_
      refine .cons (fun f w' hI hs => ⟨wanted_none rfl, _, rfl, .val (rn_assign rfl) ⟨Below.refl _ _, ((fr_own rfl rfl).trans (hs 10 (by kernel_rfl)))⟩⟩) ?_
      exact .nil
    · intro f w' hI hk
      have h5 : f 5 = .bool (cmpQ a b == side) := hk 5 (by kernel_rfl)
      refine hK _ _ (Met.intro (hJ _ _ ?_))
      (repeat apply Exists.intro)
      refine ⟨?_, rfl⟩
      exact ⟨h5, hI.kb⟩
  case rest =>
    obtain ⟨rfl, kf⟩ := hcut
    clear S
    generalize hbb : (cmpQ a b == side) = bb0
    go_wp2
    go_ret
    exact ⟨kf, by rw [hbb]; rfl⟩
end Go.Proofs.YtjjomjjgoceklaaGreat
namespace Go.Proofs.YtjjomjjgoceklaaGreat
set_option maxRecDepth 100000
open Go.RowKit

/-- the foremost of the first ones -/
def bst (side : Int) (l : Nat → Rat) : Nat → Rat
  | 0 => 0
  | k + 1 => if k = 0 then l 0 else if (cmpQ (l k) (bst side l k) == side) = true then l k else bst side l k
theorem bd_zero : Bd9 1 (0 : Rat) := ⟨by decide, by decide⟩
theorem bst_bd {side : Int} {l : Nat → Rat} {n : Nat} (h : ∀ i, i < n → Bd9 1 (l i)) : ∀ k, k ≤ n → Bd9 1 (bst side l k)
  | 0, _ => bd_zero
  | k + 1, hk => by
    unfold bst
    split
    · exact h 0 (by omega)
    · split
      · exact h k (by omega)
      · exact bst_bd h k (by omega)
set_option maxHeartbeats 800000 in
theorem foremost_any (b n cap : Nat) (l : Nat → Rat) (w : World) (Ts : Nat) (side : Int) (hl : SlR w b n fun i => ((l i).num, (l i).den)) (hs : w.heap[Ts]? = some (.cells #[.int .i64 side] 3 (0, 0))) (bd : ∀ i, i < n → Bd9 1 (l i)) (hn : n ≤ 100) :
    Calls Tryz.prog 136 #[.slice (some ⟨b, 0, none⟩) n cap, .func (.func 137) #[] #[.pointer (some ⟨Ts, 0, none⟩)]] w (PRq (bst side l n) w) := by
  have HL := Lib.hid hl; have HS := Lib.hid hs; have BD := Lib.hid bd; have BB := Lib.hid (fun k h => bst_bd (side := side) bd k h)
  clear hl hs bd
  unfold PRq
  go_enter Tryz.func136, Tryz.ntmps136
  go_wp2
  go_loopw [10] (fun i wr => ∃ k : Nat, k ≤ n ∧ i = .int .i64 k ∧ Below w.heap.size w wr ∧ w.heap.size + 2 ≤ wr.heap.size ∧ Rq w.heap.size wr ∧ Rh (w.heap.size + 1) wr (bst side l k).num (bst side l k).den) (fun i _ => n - (intOf i).toNat)
  case atStart =>
    refine ⟨0, Nat.zero_le _, rfl, bl2 _ _ _, by simp, (rq_new _ rfl).alloc _, false, 0, none, 0, none, ?_, Rr.zero _⟩
    have := Go.Deep.blk_alloc_new (w.alloc (.cells #[.bool false, .int .u64 0, .pointer none, .int .u64 0, .pointer none] 33)) (.cells #[.bool false, .int .u64 0, .pointer none, .int .u64 0, .pointer none] 33)
    rw [World.size_alloc] at this
    exact this
  case round =>
    obtain ⟨k, hk, rfl, hbel, hz, hq, s, x, p, y, q, hheap, hr⟩ := hrel
    have c1 : wr.cell? ⟨w.heap.size + 1, 0, none⟩ = some (.bool s) := by simp [World.cell?, hheap]
    have c2 : wr.cell? ⟨w.heap.size + 1, 1, none⟩ = some (.int .u64 x) := by simp [World.cell?, hheap]
    have c3 : wr.cell? ⟨w.heap.size + 1, 2, none⟩ = some (.pointer p) := by simp [World.cell?, hheap]
    have c4 : wr.cell? ⟨w.heap.size + 1, 3, none⟩ = some (.int .u64 y) := by simp [World.cell?, hheap]
    have c5 : wr.cell? ⟨w.heap.size + 1, 4, none⟩ = some (.pointer q) := by simp [World.cell?, hheap]
    have HH := Lib.hid hheap
    have HR := Lib.hid hr
    clear hheap hr
    by_cases hlt : k < n
    · obtain ⟨hb, hg⟩ := HL.out
      obtain ⟨s2, x2, p2, y2, q2, d1, d2, d3, d4, d5, hr2⟩ := hg k hlt
      have e1 := (hbel.cell (p := ⟨b, k * 5, none⟩) hb).trans d1
      have e2 := (hbel.cell (p := ⟨b, k * 5 + 1, none⟩) hb).trans d2
      have e3 := (hbel.cell (p := ⟨b, k * 5 + 2, none⟩) hb).trans d3
      have e4 := (hbel.cell (p := ⟨b, k * 5 + 3, none⟩) hb).trans d4
      have e5 := (hbel.cell (p := ⟨b, k * 5 + 4, none⟩) hb).trans d5
      clear d1 d2 d3 d4 d5 hg
      have HR2 := Lib.hid (hr2.keep hbel (Nat.le_refl _))
      clear hr2
      have hlt2 : w.heap.size + 1 < wr.heap.size := by omega
      have hlt1 : w.heap.size < wr.heap.size := by omega
      have tq : Rq (w.heap.size + 1) wr := ⟨s, x, p, y, q, HH.out⟩
      have t0 := tq.alloc (.cells #[.bool s2, .int .u64 x2, .pointer p2, .int .u64 y2, .pointer q2] 33)
      have q0 := hq.alloc (.cells #[.bool s2, .int .u64 x2, .pointer p2, .int .u64 y2, .pointer q2] 33)
      have hr3 := HR2.out.keep (bl1 wr (.cells #[.bool s2, .int .u64 x2, .pointer p2, .int .u64 y2, .pointer q2] 33)) (Nat.le_refl _)
      have k0 := Below.thru hbel hbel.size (bl1 wr (.cells #[.bool s2, .int .u64 x2, .pointer p2, .int .u64 y2, .pointer q2] 33))
      have R3 := Lib.hid hr3; have K0 := Lib.hid k0; have Q0 := Lib.hid q0; have T0 := Lib.hid t0
      have Z0 : Hid (w.heap.size + 2 ≤ (wr.alloc (.cells #[.bool s2, .int .u64 x2, .pointer p2, .int .u64 y2, .pointer q2] 33)).heap.size) := Nat.le_trans hz (by simp)
      by_cases hk0 : k = 0
      · have E0 : bst side l (k + 1) = l k := by subst hk0; unfold bst; rw [if_pos rfl]
        have hkz : ((k : Int) == 0) = true := by simp [hk0]
        clear c1 c2 c3 c4 c5 k0 q0 t0 tq hr3 hk0
        have n1 := Go.Deep.blk_alloc_new wr (.cells #[.bool s2, .int .u64 x2, .pointer p2, .int .u64 y2, .pointer q2] 33)
        have f1 := cell_blk (i := 0) n1
        have f2 := cell_blk (i := 1) n1
        have f3 := cell_blk (i := 2) n1
        have f4 := cell_blk (i := 3) n1
        have f5 := cell_blk (i := 4) n1
        clear n1
        go_upto_if 22 with fail
        generalize hW : wr.alloc (.cells #[.bool s2, .int .u64 x2, .pointer p2, .int .u64 y2, .pointer q2] 33) = w1 at T0 Q0 K0 R3 Z0 f1 f2 f3 f4 f5 ⊢
        clear hW e1 e2 e3 e4 e5
        have gr := grown5 w1 (w.heap.size + 1) (.bool s2) (.int .u64 x2) (.pointer p2) (.int .u64 y2) (.pointer q2)
        have RH := Lib.hid (show Rh (w.heap.size + 1) (st5 w1 (w.heap.size + 1) (.bool s2) (.int .u64 x2) (.pointer p2) (.int .u64 y2) (.pointer q2)) (bst side l (k + 1)).num (bst side l (k + 1)).den by rw [E0]; exact Rh.mk T0.out R3.out)
        have Q2 := Lib.hid (Q0.out.other gr (by omega))
        have K2 := Lib.hid (below5 K0.out (T := w.heap.size + 1) (by omega) (.bool s2) (.int .u64 x2) (.pointer p2) (.int .u64 y2) (.pointer q2))
        have Z2 : Hid (w.heap.size + 2 ≤ (st5 w1 (w.heap.size + 1) (.bool s2) (.int .u64 x2) (.pointer p2) (.int .u64 y2) (.pointer q2)).heap.size) := Nat.le_trans Z0.out gr.size
        obtain ⟨_, _, _, _, _, m1, m2, m3, m4, m5, m6, m7, m8, m9, m10⟩ := T0.out.cells
        clear gr E0 R3 K0 Q0 T0 Z0
        go_wp2
        go_roundw
        case rel => exact ⟨k + 1, by omega, by go_num, K2.out, Z2.out, Q2.out, RH.out⟩
        case measure => simp [intOf]; omega
      · obtain ⟨bb, hbb⟩ : ∃ bb, (cmpQ (l k) (bst side l k) == side) = bb := ⟨_, rfl⟩
        have HBB := Lib.hid hbb
        have HK0 := Lib.hid hk0
        have R4 := Lib.hid (HR.out.keep (bl1 wr (.cells #[.bool s2, .int .u64 x2, .pointer p2, .int .u64 y2, .pointer q2] 33)) (Nat.le_refl _))
        have hkz : ((k : Int) == 0) = false := by simp [hk0]
        have HB0 := Lib.hid (blk_keep HS.out K0.out)
        clear hr3 k0 q0 t0 tq hk0 hbb
        have n1 := Go.Deep.blk_alloc_new wr (.cells #[.bool s2, .int .u64 x2, .pointer p2, .int .u64 y2, .pointer q2] 33)
        have f1 := cell_blk (i := 0) n1
        have f2 := cell_blk (i := 1) n1
        have f3 := cell_blk (i := 2) n1
        have f4 := cell_blk (i := 3) n1
        have f5 := cell_blk (i := 4) n1
        have N1 := Lib.hid n1
        clear n1
        go_wp2_with fail
        refine (before_any _ _ (l k) (bst side l k) 1 1 _ Ts side R3.out R4.out HB0.out (BD.out k hlt) (BB.out k hk) (by decide) (by decide)).mono ?_
        rintro e w1 ⟨hb1, rfl⟩
        rw [HBB.out]
        have K0 := Lib.hid (Below.thru K0.out K0.out.size hb1)
        have Q0 := Lib.hid (Q0.out.keep hb1 (by simp; omega))
        have T0 := Lib.hid (T0.out.keep hb1 (by simp; omega))
        have R3 := Lib.hid (R3.out.keep hb1 (Nat.le_refl _))
        have R4 := Lib.hid (R4.out.keep hb1 (Nat.le_refl _))
        have Z0 : Hid (w.heap.size + 2 ≤ w1.heap.size) := Nat.le_trans Z0.out hb1.size
        have n1 := blk_keep N1.out hb1
        have g1 := cell_blk (i := 0) n1
        have g2 := cell_blk (i := 1) n1
        have g3 := cell_blk (i := 2) n1
        have g4 := cell_blk (i := 3) n1
        have g5 := cell_blk (i := 4) n1
        have HH1 := Lib.hid (blk_keep (blk_keep HH.out (bl1 wr (.cells #[.bool s2, .int .u64 x2, .pointer p2, .int .u64 y2, .pointer q2] 33))) hb1)
        clear c1 c2 c3 c4 c5 e1 e2 e3 e4 e5 f1 f2 f3 f4 f5 hb1 n1 HB0
        cases bb with
        | true =>
          have E0 : bst side l (k + 1) = l k := by unfold bst; rw [if_neg HK0.out, if_pos HBB.out]
          have gr := grown5 w1 (w.heap.size + 1) (.bool s2) (.int .u64 x2) (.pointer p2) (.int .u64 y2) (.pointer q2)
          have RH := Lib.hid (show Rh (w.heap.size + 1) (st5 w1 (w.heap.size + 1) (.bool s2) (.int .u64 x2) (.pointer p2) (.int .u64 y2) (.pointer q2)) (bst side l (k + 1)).num (bst side l (k + 1)).den by rw [E0]; exact Rh.mk T0.out R3.out)
          have Q2 := Lib.hid (Q0.out.other gr (by omega))
          have K2 := Lib.hid (below5 K0.out (T := w.heap.size + 1) (by omega) (.bool s2) (.int .u64 x2) (.pointer p2) (.int .u64 y2) (.pointer q2))
          have Z2 : Hid (w.heap.size + 2 ≤ (st5 w1 (w.heap.size + 1) (.bool s2) (.int .u64 x2) (.pointer p2) (.int .u64 y2) (.pointer q2)).heap.size) := Nat.le_trans Z0.out gr.size
          obtain ⟨_, _, _, _, _, m1, m2, m3, m4, m5, m6, m7, m8, m9, m10⟩ := T0.out.cells
          clear gr E0 R3 K0 Q0 T0 Z0
          go_wp2
          go_roundw
          case rel => exact ⟨k + 1, by omega, by go_num, K2.out, Z2.out, Q2.out, RH.out⟩
          case measure => simp [intOf]; omega
        | false =>
          have E0 : bst side l (k + 1) = bst side l k := by
            have h := HBB.out
            rw [bst, if_neg HK0.out, if_neg (by rw [h]; decide)]
          have RH := Lib.hid (show Rh (w.heap.size + 1) w1 (bst side l (k + 1)).num (bst side l (k + 1)).den by rw [E0]; exact ⟨s, x, p, y, q, HH1.out, R4.out⟩)
          clear E0 g1 g2 g3 g4 g5
          go_wp2
          go_roundw
          case rel => exact ⟨k + 1, by omega, by go_num, K0.out, Z0.out, Q0.out, RH.out⟩
          case measure => simp [intOf]; omega
    · obtain rfl : k = n := by omega
      obtain ⟨_, _, _, _, _, m1, m2, m3, m4, m5, m6, m7, m8, m9, m10⟩ := hq.cells
      obtain ⟨i1, i2, i3, i4, i5⟩ := five_cells m1 m2 m3 m4 m5 (.bool s) (.int .u64 x) (.pointer p) (.int .u64 y) (.pointer q)
      unfold st5 at i1 i2 i3 i4 i5
      have HF := Lib.hid (HR.out.store hq.odd (grown5 wr w.heap.size (.bool s) (.int .u64 x) (.pointer p) (.int .u64 y) (.pointer q)))
      go_wp2
      exact bodyPost_ret (v := .agg #[.bool s, .int .u64 x, .pointer p, .int .u64 y, .pointer q]) (by simp [results, Tryz.results136, go_sem, i1, i2, i3, i4, i5]) rfl ⟨below5 hbel (Nat.le_refl _) _ _ _ _ _, _, rfl, HF.out⟩
end Go.Proofs.YtjjomjjgoceklaaGreat
