import Derived.Test.YtjjomjjgoceklaaH
import Derived.RegionTactic
import Derived.ChangeAlike
import Derived.StillTailTactics
namespace Go.Proofs.Ytjjomjjgoceklaa
open Go.RowKit

def PCn (a b : Nat) (w : World) (e : Ending) (w' : World) : Prop := Below w.heap.size w w' ∧ e = .returned (.int .i64 (cmpN a b))
theorem PCn.ret {a b : Nat} {w w' : World} {n : Int} (hb : Below w.heap.size w w') (h : n = cmpN a b) : PCn a b w (.returned (.int .i64 n)) w' := ⟨hb, by rw [h]⟩
set_option maxRecDepth 100000 in
theorem compare_any (va vb : Value) (a b : Nat) (w : World) (ha : Dg w va a) (hb : Dg w vb b) : Calls Try.prog 53 #[va, vb] w (PCn a b w) := by
  have HA := Lib.hid ha; have HB := Lib.hid hb
  rcases ha with ⟨hn, rfl⟩ | ⟨ba, sva, wsa, rfl, a2, a3, a4, a5, a6, a7⟩
  · rcases hb with ⟨hm, rfl⟩ | ⟨bb, svb, wsb, rfl, b2, b3, b4, b5, b6, b7⟩
    · clear hn hm HA HB
      rcases Nat.lt_trichotomy a b with h | h | h
      · have g1 : ((a : Int) == (b : Int)) = false := by rw [beq_eq_false_iff_ne]; omega
        have g2 : decide (b < a) = false := by simp; omega
        go_enter Try.func53, Try.ntmps53
        go_wp2_with (first | (go_at_call 47; refine (isSmall_small _ _).mono ?_; rintro e w1 ⟨rfl, rfl⟩) | (go_at_call 58; refine (signOf_f _).mono ?_; rintro e w1 ⟨rfl, rfl⟩))
        go_ret
        exact PCn.ret (Below.thru (bl2 _ _ _) (by simp; omega) (bl2 _ _ _)) (cmpN_lt h).symm
      · subst h
        go_enter Try.func53, Try.ntmps53
        go_wp2_with (first | (go_at_call 47; refine (isSmall_small _ _).mono ?_; rintro e w1 ⟨rfl, rfl⟩))
        go_ret
        exact PCn.ret (Below.thru (bl2 _ _ _) (by simp; omega) (bl2 _ _ _)) (cmpN_eq rfl).symm
      · have g1 : ((a : Int) == (b : Int)) = false := by rw [beq_eq_false_iff_ne]; omega
        have g2 : decide (b < a) = true := by simp; omega
        go_enter Try.func53, Try.ntmps53
        go_wp2_with (first | (go_at_call 47; refine (isSmall_small _ _).mono ?_; rintro e w1 ⟨rfl, rfl⟩) | (go_at_call 58; refine (signOf_t _).mono ?_; rintro e w1 ⟨rfl, rfl⟩))
        go_ret
        exact PCn.ret (Below.thru (bl2 _ _ _) (by simp; omega) (bl2 _ _ _)) (cmpN_gt h).symm
    · clear b2 b3 b4 b5 b6 b7 hn
      go_enter Try.func53, Try.ntmps53
      go_wp2_with (go_at_call 47; first | ((with_reducible refine (isSmall_small _ _).mono ?_); rintro e w1 ⟨rfl, rfl⟩) | ((with_reducible refine (isSmall_big _ _ _).mono ?_); rintro e w1 ⟨rfl, rfl⟩))
      generalize hW : World.alloc _ (Obj.cells #[Value.int IntKind.u64 0, Value.pointer (some ⟨bb, 0, none⟩)] 27) = W
      have f1 : Below w.heap.size w W := by rw [← hW]; exact Below.thru (bl2 _ _ _) (by simp; omega) (bl2 _ _ _)
      have f2 : W.heap.size = w.heap.size + 4 := by rw [← hW]; simp
      have f3 : Bx w.heap.size (.int .u64 (a : Int)) (.pointer none) (.int .u64 0) (.pointer (some ⟨bb, 0, none⟩)) W := by
        rw [← hW]; refine ⟨?_, ?_, ?_, ?_⟩ <;> simp [go_sem, World.cell?_alloc_past]
      clear hW
      have f3 : Bx w.heap.size (.int .u64 (a : Int)) (.pointer none) (.int .u64 0) (.pointer (some ⟨bb, 0, none⟩)) W.drew := f3
      have f1 : Below w.heap.size w W.drew := f1.drew
      have f2 : w.heap.size + 2 ≤ W.drew.heap.size := by show _ ≤ W.heap.size; omega
      go_region_held3 (fun w' => w'.cell? ⟨w.heap.size, 0, none⟩ = some (.int .u64 (a : Int)) ∧ w'.cell? ⟨w.heap.size, 1, none⟩ = some (.pointer none) ∧ w'.cell? ⟨w.heap.size + 1, 0, none⟩ = some (.int .u64 0) ∧ w'.cell? ⟨w.heap.size + 1, 1, none⟩ = some (.pointer (some ⟨bb, 0, none⟩)))
        (first | exact d3 | exact d2 | exact d1 | exact f3)
        (first
          | (go_at_call 81; (with_reducible refine (words_any (.agg #[.int .u64 (a : Int), .pointer none]) a W.drew (HA.out.keep (B := w.heap.size) f1 (Nat.le_refl _))).mono ?_); rintro e w1 ⟨hb1, v1, ws1, rfl, hs1, hn1, hv1⟩
             have d1 := Bx.keep f3 hb1 (by omega); have k1 := Below.thru f1 f1.size hb1; have z1 : w.heap.size + 2 ≤ w1.heap.size := Nat.le_trans f2 hb1.size)
          | (go_at_call 81; (with_reducible refine (words_any (.agg #[.int .u64 0, .pointer (some ⟨bb, 0, none⟩)]) b w1 (HB.out.keep (B := w.heap.size) k1 (Nat.le_refl _))).mono ?_); rintro e w2 ⟨hb2, v2, ws2, rfl, hs2, hn2, hv2⟩
             have d2 := Bx.keep d1 hb2 (by omega); have k2 := Below.thru k1 k1.size hb2; have z2 : w.heap.size + 2 ≤ w2.heap.size := Nat.le_trans z1 hb2.size)
          | (go_at_call 82; (with_reducible refine (compareWords_any v1 v2 ws1 ws2 w2 (hs1.keep hb2 (Nat.le_refl _)) hs2 hn1 hn2).mono ?_); rintro e w3 ⟨hb3, rfl⟩
             have d3 := Bx.keep d2 hb3 (by omega); have k3 := Below.thru k2 k2.size hb3))
      go_wp2
      go_ret
      exact PCn.ret k3 rfl

  · obtain ⟨xb, pb, rfl⟩ := hb.agg
    clear hb a2 a3 a4 a5 a6 a7
    go_enter Try.func53, Try.ntmps53
    go_wp2_with (go_at_call 47; refine (isSmall_big _ _ _).mono ?_; rintro e w1 ⟨rfl, rfl⟩)
    generalize hW : World.alloc _ (Obj.cells #[Value.int IntKind.u64 0, Value.pointer (some ⟨ba, 0, none⟩)] 27) = W
    have f1 : Below w.heap.size w W := by rw [← hW]; exact bl3 _ _ _ _
    have f2 : W.heap.size = w.heap.size + 3 := by rw [← hW]; simp
    have f3 : Bx w.heap.size (.int .u64 0) (.pointer (some ⟨ba, 0, none⟩)) (.int .u64 xb) (.pointer pb) W := by
      rw [← hW]; refine ⟨?_, ?_, ?_, ?_⟩ <;> simp [go_sem, World.cell?_alloc_past]
    clear hW
    have f3 : Bx w.heap.size (.int .u64 0) (.pointer (some ⟨ba, 0, none⟩)) (.int .u64 xb) (.pointer pb) W.drew := f3
    have f1 : Below w.heap.size w W.drew := f1.drew
    have f2 : w.heap.size + 2 ≤ W.drew.heap.size := by show _ ≤ W.heap.size; omega
    go_region_held3 (fun w' => w'.cell? ⟨w.heap.size, 0, none⟩ = some (.int .u64 0) ∧ w'.cell? ⟨w.heap.size, 1, none⟩ = some (.pointer (some ⟨ba, 0, none⟩)) ∧ w'.cell? ⟨w.heap.size + 1, 0, none⟩ = some (.int .u64 xb) ∧ w'.cell? ⟨w.heap.size + 1, 1, none⟩ = some (.pointer pb))
      (first | exact d3 | exact d2 | exact d1 | exact f3)
      (first
        | (go_at_call 81; (with_reducible refine (words_any (.agg #[.int .u64 0, .pointer (some ⟨ba, 0, none⟩)]) a W.drew (HA.out.keep (B := w.heap.size) f1 (Nat.le_refl _))).mono ?_); rintro e w1 ⟨hb1, v1, ws1, rfl, hs1, hn1, hv1⟩
           have d1 := Bx.keep f3 hb1 (by omega); have k1 := Below.thru f1 f1.size hb1; have z1 : w.heap.size + 2 ≤ w1.heap.size := Nat.le_trans f2 hb1.size)
        | (go_at_call 81; (with_reducible refine (words_any (.agg #[.int .u64 xb, .pointer pb]) b w1 (HB.out.keep (B := w.heap.size) k1 (Nat.le_refl _))).mono ?_); rintro e w2 ⟨hb2, v2, ws2, rfl, hs2, hn2, hv2⟩
           have d2 := Bx.keep d1 hb2 (by omega); have k2 := Below.thru k1 k1.size hb2; have z2 : w.heap.size + 2 ≤ w2.heap.size := Nat.le_trans z1 hb2.size)
        | (go_at_call 82; (with_reducible refine (compareWords_any v1 v2 ws1 ws2 w2 (hs1.keep hb2 (Nat.le_refl _)) hs2 hn1 hn2).mono ?_); rintro e w3 ⟨hb3, rfl⟩
           have d3 := Bx.keep d2 hb3 (by omega); have k3 := Below.thru k2 k2.size hb3))
    go_wp2
    go_ret
    exact PCn.ret k3 rfl

/-! signed integers -/
/-- v is a Z value that stands for z -/
def Zr (w : World) (v : Value) (z : Int) : Prop :=
  ∃ (s : Bool) (x : Int) (p : Option Addr) (n : Nat), v = .agg #[.bool s, .int .u64 x, .pointer p] ∧ Dg w (.agg #[.int .u64 x, .pointer p]) n ∧ (s = true → n ≠ 0) ∧ z = if s then -(n : Int) else (n : Int)
def PZ (z : Int) (w : World) (e : Ending) (w' : World) : Prop := Below w.heap.size w w' ∧ ∃ v, e = .returned v ∧ Zr w' v z
theorem Zr.keep {w w' : World} {v : Value} {z : Int} {B : Nat} (h : Zr w v z) (hb : Below B w w') (hB : w.heap.size ≤ B) : Zr w' v z := by
  obtain ⟨s, x, p, n, h1, h2, h3, h4⟩ := h
  exact ⟨s, x, p, n, h1, h2.keep hb hB, h3, h4⟩
theorem Zr.store {w w' : World} {v : Value} {z : Int} {T : Nat} (h : Zr w v z) (hT : Odd T w) (hg : w.grownBy w' (some T)) : Zr w' v z := by
  obtain ⟨s, x, p, n, h1, h2, h3, h4⟩ := h
  exact ⟨s, x, p, n, h1, h2.store hT hg, h3, h4⟩
theorem three_cells {w : World} {T : Nat} {p q r : Value} (h1 : w.cell? ⟨T, 0, none⟩ = some p) (h2 : w.cell? ⟨T, 1, none⟩ = some q) (h3 : w.cell? ⟨T, 2, none⟩ = some r) (u v z : Value) :
    (((w.setCell ⟨T, 0, none⟩ u).setCell ⟨T, 1, none⟩ v).setCell ⟨T, 2, none⟩ z).cell? ⟨T, 0, none⟩ = some u ∧ (((w.setCell ⟨T, 0, none⟩ u).setCell ⟨T, 1, none⟩ v).setCell ⟨T, 2, none⟩ z).cell? ⟨T, 1, none⟩ = some v ∧ (((w.setCell ⟨T, 0, none⟩ u).setCell ⟨T, 1, none⟩ v).setCell ⟨T, 2, none⟩ z).cell? ⟨T, 2, none⟩ = some z := by
  obtain ⟨e1, e2⟩ := two_cells h1 h2 u v
  have e3 : ((w.setCell ⟨T, 0, none⟩ u).setCell ⟨T, 1, none⟩ v).cell? ⟨T, 2, none⟩ = some r := by
    rw [World.cell?_setCell_other _ _ _ _ (by simp), World.cell?_setCell_other _ _ _ _ (by simp)]; exact h3
  exact ⟨by rw [World.cell?_setCell_other _ _ _ _ (by simp)]; exact e1, by rw [World.cell?_setCell_other _ _ _ _ (by simp)]; exact e2, World.cell?_setCell_same' _ _ _ (by rw [e3]; rfl)⟩

theorem signed_f (x : Int) (p : Option Addr) (n : Nat) (w : World) (h : Dg w (.agg #[.int .u64 x, .pointer p]) n) : Calls Try.prog 51 #[.agg #[.int .u64 x, .pointer p], .bool false] w (PZ (n : Int) w) := by
  have H := Lib.hid h
  clear h
  go_enter Try.func51, Try.ntmps51
  go_wp2
  go_region
  go_wp2
  refine bodyPost_ret (v := .agg #[.bool false, .int .u64 x, .pointer p]) (by simp [results, Try.results51, go_sem]) rfl ⟨?_, _, rfl, false, x, p, n, rfl, H.out.keep (B := w.heap.size) ?_ (Nat.le_refl _), by simp, by simp⟩
  · exact (bl2 _ _ _).drew
  · exact (bl2 _ _ _).drew
theorem signed_t (x : Int) (p : Option Addr) (n : Nat) (w : World) (h : Dg w (.agg #[.int .u64 x, .pointer p]) n) : Calls Try.prog 51 #[.agg #[.int .u64 x, .pointer p], .bool true] w (PZ (-(n : Int)) w) := by
  have H := Lib.hid h
  clear h
  by_cases hz : n = 0
  · have hd : decide (n = 0) = true := by simp [hz]
    have HZ := Lib.hid hz
    clear hz
    go_enter Try.func51, Try.ntmps51
    go_wp2
    go_region_held3 (fun w' => w'.cell? ⟨w.heap.size, 0, none⟩ = some (.int .u64 x) ∧ w'.cell? ⟨w.heap.size, 1, none⟩ = some (.pointer p))
      (first | go_keep | (simp [go_sem, World.cell?_alloc_past]; done))
      (first | (go_at_call 57; (with_reducible refine (isZero_any _ (H.out.keep (B := w.heap.size) (bl2 _ _ _).drew (Nat.le_refl _))).mono ?_); rintro e w1 ⟨rfl, c1, t1, rfl⟩))
    go_wp2
    refine bodyPost_ret (v := .agg #[.bool false, .int .u64 x, .pointer p]) (by simp [results, Try.results51, go_sem]) rfl ⟨?_, _, rfl, false, x, p, n, rfl, H.out.keep (B := w.heap.size) ?_ (Nat.le_refl _), by simp, by rw [HZ.out]; simp⟩
    · exact Below.thru (bl2 _ _ _) (by simp; omega) (bl2 _ _ _).drew
    · exact Below.thru (bl2 _ _ _) (by simp; omega) (bl2 _ _ _).drew
  · have hd : decide (n = 0) = false := by simp [hz]
    have HZ := Lib.hid hz
    clear hz
    go_enter Try.func51, Try.ntmps51
    go_wp2
    go_region_held3 (fun w' => w'.cell? ⟨w.heap.size, 0, none⟩ = some (.int .u64 x) ∧ w'.cell? ⟨w.heap.size, 1, none⟩ = some (.pointer p))
      (first | go_keep | (simp [go_sem, World.cell?_alloc_past]; done))
      (first | (go_at_call 57; (with_reducible refine (isZero_any _ (H.out.keep (B := w.heap.size) (bl2 _ _ _).drew (Nat.le_refl _))).mono ?_); rintro e w1 ⟨rfl, c1, t1, rfl⟩))
    go_wp2
    refine bodyPost_ret (v := .agg #[.bool true, .int .u64 x, .pointer p]) (by simp [results, Try.results51, go_sem]) rfl ⟨?_, _, rfl, true, x, p, n, rfl, H.out.keep (B := w.heap.size) ?_ (Nat.le_refl _), fun _ => HZ.out, by simp⟩
    · exact Below.thru (bl2 _ _ _) (by simp; omega) (bl2 _ _ _).drew
    · exact Below.thru (bl2 _ _ _) (by simp; omega) (bl2 _ _ _).drew
/-- signed, both signs -/
theorem signed_any (v : Value) (n : Nat) (s : Bool) (w : World) (h : Dg w v n) : Calls Try.prog 51 #[v, .bool s] w (PZ (if s then -(n : Int) else (n : Int)) w) := by
  obtain ⟨x, p, rfl⟩ := h.agg
  cases s with
  | false => exact signed_f x p n w h
  | true => exact signed_t x p n w h
theorem Zr.dg {w : World} {v : Value} {z : Int} (h : Zr w v z) : ∃ (s : Bool) (x : Int) (p : Option Addr), v = .agg #[.bool s, .int .u64 x, .pointer p] ∧ Dg w (.agg #[.int .u64 x, .pointer p]) z.natAbs ∧ (s = true → z < 0) ∧ (s = false → 0 ≤ z) := by
  obtain ⟨s, x, p, n, h1, h2, h3, h4⟩ := h
  cases s with
  | false => refine ⟨_, x, p, h1, h2.cast ?_, by simp, fun _ => ?_⟩ <;> simp at h4 <;> omega
  | true =>
    have := h3 rfl
    refine ⟨_, x, p, h1, h2.cast ?_, fun _ => ?_, by simp⟩ <;> simp at h4 <;> omega
theorem Zr.cast {w : World} {v : Value} {y z : Int} (h : Zr w v y) (e : y = z) : Zr w v z := e ▸ h
/-- the three cells of a boxed Z at B -/
def B3 (B : Nat) (s : Bool) (x : Int) (p : Option Addr) (w : World) : Prop := w.cell? ⟨B, 0, none⟩ = some (.bool s) ∧ w.cell? ⟨B, 1, none⟩ = some (.int .u64 x) ∧ w.cell? ⟨B, 2, none⟩ = some (.pointer p)
theorem B3.keep {B C : Nat} {s : Bool} {x : Int} {p : Option Addr} {w w' : World} (h : B3 B s x p w) (hb : Below C w w') (hB : B < C) : B3 B s x p w' :=
  ⟨(hb.cell (p := ⟨B, 0, none⟩) hB).trans h.1, (hb.cell (p := ⟨B, 1, none⟩) hB).trans h.2.1, (hb.cell (p := ⟨B, 2, none⟩) hB).trans h.2.2⟩
theorem B3.stored {B T : Nat} {s : Bool} {x : Int} {p : Option Addr} {w : World} (h : B3 B s x p w) (hB : B < T) (u v z : Value) : B3 B s x p (((w.setCell ⟨T, 0, none⟩ u).setCell ⟨T, 1, none⟩ v).setCell ⟨T, 2, none⟩ z) :=
  h.keep (C := T) ((((Below.refl _ _).setCell (by simp) _).setCell (by simp) _).setCell (by simp) _) hB
theorem neg_any (v : Value) (z : Int) (w : World) (h : Zr w v z) : Calls Try.prog 20 #[v] w (PZ (-z) w) := by
  obtain ⟨s, x, p, rfl, hd, h1, h2⟩ := h.dg
  have H := Lib.hid hd
  clear hd h
  have H1 := Lib.hid h1; have H2 := Lib.hid h2
  clear h1 h2
  go_enter Try.func20, Try.ntmps20
  go_wp2_with fail
  refine (signed_any _ z.natAbs (!s) _ (H.out.keep (bl2 _ _ _) (Nat.le_refl _))).mono ?_
  rintro e w1 ⟨hb1, v1, rfl, hz1⟩
  obtain ⟨s1, x1, p1, n1, rfl, hd1, h3, h4⟩ := hz1
  have r0 : Rz (w.heap.size + 1) w1 := (rz_new _ (by simp)).keep hb1 (by simp)
  obtain ⟨sq, xq, pq, m1, m2, m3, m4, m5, m6⟩ := r0.cells
  obtain ⟨g1, g2, g3⟩ := three_cells m1 m2 m3 (.bool s1) (.int .u64 x1) (.pointer p1)
  have H4 := Lib.hid h4
  clear h4
  go_wp2
  refine bodyPost_ret (v := .agg #[.bool s1, .int .u64 x1, .pointer p1]) (by simp [results, Try.results20, go_sem, g1, g2, g3]) rfl ⟨(((Below.thru (bl2 _ _ _) (by simp; omega) hb1).setCell (by simp) _).setCell (by simp) _).setCell (by simp) _, _, rfl, Zr.store ⟨s1, x1, p1, n1, rfl, hd1, h3, ?_⟩ r0.odd (grown3 _ _ _ _ _ _ _ _)⟩
  have h4 := H4.out
  have h1 := H1.out; have h2 := H2.out
  rw [← h4]
  cases s <;> simp at h1 h2 ⊢ <;> omega
end Go.Proofs.Ytjjomjjgoceklaa
