import Derived.Test.YtjjomjjgoceklaaO
namespace Go.Proofs.Ytjjomjjgoceklaa
open Go.RowKit

/-- the R result's box at T -/
def Rq (T : Nat) (w : World) : Prop := ∃ (s : Bool) (x : Int) (p : Option Addr) (y : Int) (q : Option Addr), w.heap[T]? = some (.cells #[.bool s, .int .u64 x, .pointer p, .int .u64 y, .pointer q] 61)
theorem Rq.keep {T C : Nat} {w w' : World} (h : Rq T w) (hb : Below C w w') (hT : T < C) : Rq T w' := by
  obtain ⟨s, x, p, y, q, h⟩ := h
  exact ⟨s, x, p, y, q, (hb.block T hT).trans h⟩
theorem Rq.alloc {T : Nat} {w : World} (h : Rq T w) (o : Obj) : Rq T (w.alloc o) := by
  obtain ⟨s, x, p, y, q, h⟩ := h
  exact ⟨s, x, p, y, q, (Below.heap_alloc w o T (Array.getElem?_eq_some_iff.1 h).1).trans h⟩
theorem rq_new (w : World) {T : Nat} (hT : T = w.heap.size) : Rq T (w.alloc (.cells #[.bool false, .int .u64 0, .pointer none, .int .u64 0, .pointer none] 61)) := by
  subst hT; exact ⟨false, 0, none, 0, none, Go.Deep.blk_alloc_new _ _⟩
theorem Rq.cells {T : Nat} {w : World} (h : Rq T w) : ∃ (s : Bool) (x : Int) (p : Option Addr) (y : Int) (q : Option Addr), w.cell? ⟨T, 0, none⟩ = some (.bool s) ∧ w.cell? ⟨T, 1, none⟩ = some (.int .u64 x) ∧ w.cell? ⟨T, 2, none⟩ = some (.pointer p) ∧ w.cell? ⟨T, 3, none⟩ = some (.int .u64 y) ∧ w.cell? ⟨T, 4, none⟩ = some (.pointer q) ∧
    w.frozen? ⟨T, 0, none⟩ = false ∧ w.frozen? ⟨T, 1, none⟩ = false ∧ w.frozen? ⟨T, 2, none⟩ = false ∧ w.frozen? ⟨T, 3, none⟩ = false ∧ w.frozen? ⟨T, 4, none⟩ = false := by
  obtain ⟨s, x, p, y, q, h⟩ := h
  refine ⟨s, x, p, y, q, ?_, ?_, ?_, ?_, ?_, ?_, ?_, ?_, ?_, ?_⟩ <;> simp [World.cell?, World.frozen?, h]
theorem Rq.odd {T : Nat} {w : World} (h : Rq T w) : Odd T w := by
  obtain ⟨s, x, p, y, q, h⟩ := h
  have hc : ∀ o, w.cell? ⟨T, o, none⟩ = (#[Value.bool s, .int .u64 x, .pointer p, .int .u64 y, .pointer q] : Array Value)[o]? := fun o => by simp [World.cell?, h]
  refine ⟨fun o x' y' h1 h2 => ?_, fun p l c h1 => ?_⟩
  · rw [hc] at h1 h2
    match o with
    | 0 => simp at h1
    | 1 => simp at h2
    | 2 => simp at h1
    | 3 => simp at h2
    | 4 => simp at h1
    | o + 5 => simp at h1
  · rw [hc] at h1; simp at h1
/-- five stores into the R result's box -/
@[reducible] def st5 (w : World) (T : Nat) (a b c d e : Value) : World := ((((w.setCell ⟨T, 0, none⟩ a).setCell ⟨T, 1, none⟩ b).setCell ⟨T, 2, none⟩ c).setCell ⟨T, 3, none⟩ d).setCell ⟨T, 4, none⟩ e
theorem grown5 (w : World) (T : Nat) (a b c d e : Value) : w.grownBy (st5 w T a b c d e) (some T) := only_setCell (p := ⟨T, 4, none⟩) (only_setCell (p := ⟨T, 3, none⟩) (grown3 w T 0 1 2 a b c) rfl _) rfl _
theorem below5 {B T : Nat} {a w : World} (h : Below B a w) (hT : B ≤ T) (u v x y z : Value) : Below B a (st5 w T u v x y z) :=
  (((((h.setCell (by simp <;> omega) _).setCell (by simp <;> omega) _).setCell (by simp <;> omega) _).setCell (by simp <;> omega) _).setCell (by simp <;> omega) _)
theorem five_cells {w : World} {T : Nat} {a' b' c' d' e' : Value} (h1 : w.cell? ⟨T, 0, none⟩ = some a') (h2 : w.cell? ⟨T, 1, none⟩ = some b') (h3 : w.cell? ⟨T, 2, none⟩ = some c') (h4 : w.cell? ⟨T, 3, none⟩ = some d') (h5 : w.cell? ⟨T, 4, none⟩ = some e') (a b c d e : Value) :
    (st5 w T a b c d e).cell? ⟨T, 0, none⟩ = some a ∧ (st5 w T a b c d e).cell? ⟨T, 1, none⟩ = some b ∧ (st5 w T a b c d e).cell? ⟨T, 2, none⟩ = some c ∧ (st5 w T a b c d e).cell? ⟨T, 3, none⟩ = some d ∧ (st5 w T a b c d e).cell? ⟨T, 4, none⟩ = some e := by
  obtain ⟨e1, e2, e3⟩ := three_cells h1 h2 h3 a b c
  have e4 : (((w.setCell ⟨T, 0, none⟩ a).setCell ⟨T, 1, none⟩ b).setCell ⟨T, 2, none⟩ c).cell? ⟨T, 3, none⟩ = some d' := by
    rw [World.cell?_setCell_other _ _ _ _ (by simp), World.cell?_setCell_other _ _ _ _ (by simp), World.cell?_setCell_other _ _ _ _ (by simp)]; exact h4
  have e5 : (((w.setCell ⟨T, 0, none⟩ a).setCell ⟨T, 1, none⟩ b).setCell ⟨T, 2, none⟩ c).cell? ⟨T, 4, none⟩ = some e' := by
    rw [World.cell?_setCell_other _ _ _ _ (by simp), World.cell?_setCell_other _ _ _ _ (by simp), World.cell?_setCell_other _ _ _ _ (by simp)]; exact h5
  have e6 : ((((w.setCell ⟨T, 0, none⟩ a).setCell ⟨T, 1, none⟩ b).setCell ⟨T, 2, none⟩ c).setCell ⟨T, 3, none⟩ d).cell? ⟨T, 4, none⟩ = some e' := by
    rw [World.cell?_setCell_other _ _ _ _ (by simp)]; exact e5
  unfold st5
  refine ⟨?_, ?_, ?_, ?_, World.cell?_setCell_same' _ _ _ (by rw [e6]; rfl)⟩
  · rw [World.cell?_setCell_other _ _ _ _ (by simp), World.cell?_setCell_other _ _ _ _ (by simp)]; exact e1
  · rw [World.cell?_setCell_other _ _ _ _ (by simp), World.cell?_setCell_other _ _ _ _ (by simp)]; exact e2
  · rw [World.cell?_setCell_other _ _ _ _ (by simp), World.cell?_setCell_other _ _ _ _ (by simp)]; exact e3
  · rw [World.cell?_setCell_other _ _ _ _ (by simp)]; exact World.cell?_setCell_same' _ _ _ (by rw [e4]; rfl)
theorem Rr.store {w w' : World} {v : Value} {n : Int} {d T : Nat} (h : Rr w v n d) (hT : Odd T w) (hg : w.grownBy w' (some T)) : Rr w' v n d := by
  obtain ⟨s, x, p, y, q, h1, h2, h3, h4⟩ := h
  exact ⟨s, x, p, y, q, h1, h2.store hT hg, h3.store hT hg, h4⟩
theorem Rr.cast {w : World} {v : Value} {n m : Int} {d e : Nat} (h : Rr w v n d) (h1 : n = m) (h2 : d = e) : Rr w v m e := h1 ▸ h2 ▸ h
theorem Rr.agg {w : World} {v : Value} {n : Int} {d : Nat} (h : Rr w v n d) : ∃ (s : Bool) (x : Int) (p : Option Addr) (y : Int) (q : Option Addr), v = .agg #[.bool s, .int .u64 x, .pointer p, .int .u64 y, .pointer q] := by
  obtain ⟨s, x, p, y, q, h1, _⟩ := h
  exact ⟨s, x, p, y, q, h1⟩

theorem cell_st5 (w : World) {T b : Nat} (hne : b ≠ T) (o : Nat) (u v x y z : Value) : (st5 w T u v x y z).cell? ⟨b, o, none⟩ = w.cell? ⟨b, o, none⟩ := by
  unfold st5
  have h : ∀ i, (⟨T, i, none⟩ : Addr) ≠ ⟨b, o, none⟩ := fun i e => hne (by injection e with e1; exact e1.symm)
  rw [World.cell?_setCell_other _ _ _ _ (h _), World.cell?_setCell_other _ _ _ _ (h _), World.cell?_setCell_other _ _ _ _ (h _), World.cell?_setCell_other _ _ _ _ (h _), World.cell?_setCell_other _ _ _ _ (h _)]
theorem Bd.keep5 {B T : Nat} {x y : Value} {w : World} (h : Bd B x y w) (hB : B ≠ T) (a b c d e : Value) : Bd B x y (st5 w T a b c d e) :=
  ⟨(cell_st5 w hB _ _ _ _ _ _).trans h.1, (cell_st5 w hB _ _ _ _ _ _).trans h.2⟩
/-- the cells that the region of 'reduced' loads -/
@[reducible] def C7 (B G : Nat) (s : Bool) (xa : Int) (pa : Option Addr) (xd : Int) (pd : Option Addr) (xg : Int) (pg : Option Addr) (w' : World) : Prop :=
  w'.cell? ⟨B, 0, none⟩ = some (.bool s) ∧ w'.cell? ⟨B, 1, none⟩ = some (.int .u64 xa) ∧ w'.cell? ⟨B, 2, none⟩ = some (.pointer pa) ∧ w'.cell? ⟨B + 1, 0, none⟩ = some (.int .u64 xd) ∧ w'.cell? ⟨B + 1, 1, none⟩ = some (.pointer pd) ∧ w'.cell? ⟨G, 0, none⟩ = some (.int .u64 xg) ∧ w'.cell? ⟨G, 1, none⟩ = some (.pointer pg)
theorem C7.mk {B G : Nat} {s : Bool} {xa : Int} {pa : Option Addr} {xd : Int} {pd : Option Addr} {xg : Int} {pg : Option Addr} {w' : World} (a : B3 B s xa pa w') (b : Bd (B + 1) (.int .u64 xd) (.pointer pd) w') (g : Bd G (.int .u64 xg) (.pointer pg) w') : C7 B G s xa pa xd pd xg pg w' :=
  ⟨a.1, a.2.1, a.2.2, b.1, b.2, g.1, g.2⟩
theorem gcd_red (n : Int) (d : Nat) (hd : 0 < d) : Nat.gcd (Int.tdiv n (Nat.gcd n.natAbs d : Nat)).natAbs (d / Nat.gcd n.natAbs d) = 1 := by
  have hg : 0 < Nat.gcd n.natAbs d := Nat.gcd_pos_of_pos_right _ hd
  rw [Int.natAbs_tdiv, Int.natAbs_natCast]
  show Nat.gcd (n.natAbs / _) _ = 1
  rw [Nat.gcd_div (Nat.gcd_dvd_left _ _) (Nat.gcd_dvd_right _ _), Nat.div_self hg]
set_option maxHeartbeats 600000 in
theorem reduced_any (vn vd : Value) (n : Int) (d : Nat) (w : World) (hn : Zr w vn n) (hd : Dg w vd d) (hd0 : 0 < d) (hc : CommonC n.natAbs d)
    (ho1 : Nat.gcd n.natAbs d ≠ 1 → OverC n.natAbs (Nat.gcd n.natAbs d)) (ho2 : Nat.gcd n.natAbs d ≠ 1 → OverC d (Nat.gcd n.natAbs d)) :
    Calls Try.prog 90 #[vn, vd] w (PR (Int.tdiv n (Nat.gcd n.natAbs d : Nat)) (d / Nat.gcd n.natAbs d) w) := by
  have hred := gcd_red n d hd0
  have hdp : 0 < d / Nat.gcd n.natAbs d := Nat.div_pos (Nat.le_of_dvd hd0 (Nat.gcd_dvd_right _ _)) (Nat.gcd_pos_of_pos_right _ hd0)
  have HR := Lib.hid hred
  have HN := Lib.hid hn
  obtain ⟨s, xa, pa, rfl, hda, h1, h2⟩ := hn.dg
  obtain ⟨xd, pd, rfl⟩ := hd.agg
  have HA := Lib.hid hda; have HD := Lib.hid hd
  have HC := Lib.hid hc
  generalize hgg : Nat.gcd n.natAbs d = g at *
  have HGG := Lib.hid hgg
  clear hn hd hda h1 h2 hred hc hgg
  go_enter Try.func90, Try.ntmps90
  go_wp2_with fail
  refine (HC.out _ _ _ (HA.out.keep (bl3 _ _ _ _) (Nat.le_refl _)) (HD.out.keep (bl3 _ _ _ _) (Nat.le_refl _))).mono ?_
  rintro e w1 ⟨hb1, vg, rfl, hg⟩
  have hg := hg.cast HGG.out
  obtain ⟨xg, pg, rfl⟩ := hg.agg
  have HG := Lib.hid hg
  clear hg
  have z00 : w.heap.size + 3 ≤ w1.heap.size := Nat.le_trans (by simp) hb1.size
  have k00 : Below w.heap.size w w1 := Below.thru (bl3 _ _ _ _) (by simp <;> omega) hb1
  have a00 : B3 w.heap.size s xa pa w1 := B3.keep (by refine ⟨?_, ?_, ?_⟩ <;> simp [go_sem, World.cell?_alloc_past]) hb1 (by simp <;> omega)
  have b00 : Bd (w.heap.size + 1) (.int .u64 xd) (.pointer pd) w1 := Bd.keep (by refine ⟨?_, ?_⟩ <;> simp [go_sem, World.cell?_alloc_past]) hb1 (by simp <;> omega)
  have r00 : Rq (w.heap.size + 1 + 1) w1 := Rq.keep (rq_new _ (by simp)) hb1 (by simp <;> omega)
  go_wp2
  generalize hW : World.alloc w1 (Obj.cells #[Value.int IntKind.u64 xg, Value.pointer pg] 27) = W
  have hbW : Below w1.heap.size w1 W := by rw [← hW]; exact bl1 _ _
  have g0 : Bd w1.heap.size (.int .u64 xg) (.pointer pg) W := by rw [← hW]; refine ⟨?_, ?_⟩ <;> simp [go_sem]
  have z0 : w1.heap.size + 1 ≤ W.heap.size := by rw [← hW]; simp
  clear hW
  have hbW : Below w1.heap.size w1 W.drew := hbW.drew
  have g0 : Bd w1.heap.size (.int .u64 xg) (.pointer pg) W.drew := g0
  have a0 : B3 w.heap.size s xa pa W.drew := B3.keep a00 hbW (by omega)
  have b0 : Bd (w.heap.size + 1) (.int .u64 xd) (.pointer pd) W.drew := Bd.keep b00 hbW (by omega)
  have r0 : Rq (w.heap.size + 1 + 1) W.drew := Rq.keep r00 hbW (by omega)
  have k0 : Below w.heap.size w W.drew := Below.thru k00 k00.size hbW
  have z0 : w1.heap.size + 1 ≤ W.drew.heap.size := z0
  have q0 := C7.mk a0 b0 g0
  go_region_held3 (fun w' => w'.cell? ⟨w.heap.size, 0, none⟩ = some (.bool s) ∧ w'.cell? ⟨w.heap.size, 1, none⟩ = some (.int .u64 xa) ∧ w'.cell? ⟨w.heap.size, 2, none⟩ = some (.pointer pa) ∧ w'.cell? ⟨w.heap.size + 1, 0, none⟩ = some (.int .u64 xd) ∧ w'.cell? ⟨w.heap.size + 1, 1, none⟩ = some (.pointer pd) ∧ w'.cell? ⟨w1.heap.size, 0, none⟩ = some (.int .u64 xg) ∧ w'.cell? ⟨w1.heap.size, 1, none⟩ = some (.pointer pg))
    (first | (with_reducible exact q4) | (with_reducible exact q3) | (with_reducible exact q2) | (with_reducible exact q1) | (with_reducible exact q0))
    (first
      | (go_at_call 92; (with_reducible refine (part_any (.agg #[.bool s, .int .u64 xa, .pointer pa]) (.agg #[.int .u64 xg, .pointer pg]) n g W.drew (HN.out.keep (B := w.heap.size) k0 (Nat.le_refl _)) (HG.out.keep hbW (Nat.le_refl _)) ho1).mono ?_); rintro e w2 ⟨hb2, v2, rfl, hs2⟩
         have a1 := B3.keep a0 hb2 (by omega); have b1 := Bd.keep b0 hb2 (by omega); have g1 := Bd.keep g0 hb2 (by omega); have q1 := C7.mk a1 b1 g1; have r1 := Rq.keep r0 hb2 (by omega); have k1 := Below.thru k0 k0.size hb2; have z1 : w1.heap.size + 1 ≤ w2.heap.size := Nat.le_trans z0 hb2.size)
      | (go_at_call 93; (with_reducible refine (share_any (.agg #[.int .u64 xd, .pointer pd]) (.agg #[.int .u64 xg, .pointer pg]) d g w2 (HD.out.keep (B := w.heap.size) k1 (Nat.le_refl _)) ((HG.out.keep hbW (Nat.le_refl _)).keep hb2 (Nat.le_refl _)) ho2).mono ?_); rintro e w3 ⟨hb3, v3, rfl, hs3⟩
         have a2 := B3.keep a1 hb3 (by omega); have b2 := Bd.keep b1 hb3 (by omega); have g2 := Bd.keep g1 hb3 (by omega); have q2 := C7.mk a2 b2 g2; have r2 := Rq.keep r1 hb3 (by omega); have k2 := Below.thru k1 k1.size hb3; have z2 : w1.heap.size + 1 ≤ w3.heap.size := Nat.le_trans z1 hb3.size)
      | (go_at_call 69; (with_reducible refine (lowest_any v2 v3 _ (d / g) w3 (hs2.keep hb3 (Nat.le_refl _)) hs3 hdp HR.out).mono ?_); rintro e w4 ⟨hb4, v4, rfl, hs4⟩
         have a3 := B3.keep a2 hb4 (by omega); have b3 := Bd.keep b2 hb4 (by omega); have g3 := Bd.keep g2 hb4 (by omega); have q3 := C7.mk a3 b3 g3; have r3 := Rq.keep r2 hb4 (by omega); have k3 := Below.thru k2 k2.size hb4; have z3 : w1.heap.size + 1 ≤ w4.heap.size := Nat.le_trans z2 hb4.size; obtain ⟨s5, x5, p5, y5, q5, rfl⟩ := hs4.agg; obtain ⟨s6, x6, p6, y6, q6, m1, m2, m3, m4, m5, m6, m7, m8, m9, m10⟩ := r3.cells; have q4 := C7.mk (a3.keep (C := w.heap.size + 1 + 1) (below5 (Below.refl _ _) (Nat.le_refl _) (.bool s5) (.int .u64 x5) (.pointer p5) (.int .u64 y5) (.pointer q5)) (by omega)) (b3.keep (C := w.heap.size + 1 + 1) (below5 (Below.refl _ _) (Nat.le_refl _) _ _ _ _ _) (by omega)) (g3.keep5 (by omega) _ _ _ _ _)))
  obtain ⟨n1, n2, n3, n4, n5⟩ := five_cells m1 m2 m3 m4 m5 (.bool s5) (.int .u64 x5) (.pointer p5) (.int .u64 y5) (.pointer q5)
  unfold st5 at n1 n2 n3 n4 n5
  go_wp2
  exact bodyPost_ret (v := .agg #[.bool s5, .int .u64 x5, .pointer p5, .int .u64 y5, .pointer q5]) (by simp [results, Try.results90, go_sem, n1, n2, n3, n4, n5]) rfl ⟨below5 k3 (by omega) _ _ _ _ _, _, rfl, hs4.store r3.odd (grown5 _ _ _ _ _ _ _)⟩
end Go.Proofs.Ytjjomjjgoceklaa
