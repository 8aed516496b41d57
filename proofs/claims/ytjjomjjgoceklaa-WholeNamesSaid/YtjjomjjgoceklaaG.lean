import Derived.Test.YtjjomjjgoceklaaF
import Derived.Deep.RegionHeld3
namespace Go.Proofs.Ytjjomjjgoceklaa
open Go.RowKit

def PWs (n : Nat) (w : World) (e : Ending) (w' : World) : Prop := Below w.heap.size w w' ∧ ∃ v' ws, e = .returned v' ∧ Sl w' v' ws ∧ Nrm ws ∧ val ws = n
theorem words_any (v : Value) (n : Nat) (w : World) (h : Dg w v n) : Calls Try.prog 81 #[v] w (PWs n w) := by
  rcases h with ⟨hn, rfl⟩ | ⟨b, sv, ws, rfl, h2, h3, h4, h5, h6, h7⟩
  · by_cases hz : n = 0
    · subst hz
      go_enter Try.func81, Try.ntmps81
      go_wp2
      go_ret
      exact ⟨bl1 _ _, _, [], rfl, ⟨Wds.nil, by simp, .inl ⟨rfl, rfl⟩⟩, by simp [Nrm], rfl⟩
    · have h : ((n : Int) == 0) = false := by rw [beq_eq_false_iff_ne]; omega
      have HZ := Lib.hid hz
      clear hz
      go_enter Try.func81, Try.ntmps81
      go_wp2
      go_ret
      refine ⟨bl2 _ _ _, _, [n], rfl, ⟨?_, by simp, .inr ⟨w.heap.size + 1, 0, 1, rfl, by simp, by simp, ?_⟩⟩, by simp [Nrm, HZ.out], by simp [val]⟩
      · intro x hx; simp only [List.mem_singleton] at hx; rw [hx]; exact hn
      · intro i hi
        have : i = 0 := by simp at hi; omega
        subst this
        have := cell_alloc_new1 (w.alloc (.cells #[.int .u64 (n : Int), .pointer none] 27)) (.int .u64 (n : Int)) 24
        rw [World.size_alloc] at this
        simp at this ⊢
  · have HS := Lib.hid h4; have HV := Lib.hid h7
    clear h4 h7
    obtain ⟨p, cap, rfl, _, _⟩ := HS.out.opened
    go_enter Try.func81, Try.ntmps81
    go_wp2
    go_ret
    exact ⟨bl1 _ _, _, ws, rfl, HS.out.keep (bl1 _ _) (Nat.le_refl _), h5, HV.out.symm⟩

theorem nrm_len {ws : List Nat} {n k : Nat} (h : Nrm ws) (hv : val ws = n) (hn : n < WB ^ k) : ws.length ≤ k := by
  by_cases he : ws = []
  · subst he; simp
  · have h1 := val_ge ws h he
    rcases Nat.lt_or_ge k ws.length with h2 | h2
    · have h3 : WB ^ k ≤ WB ^ (ws.length - 1) := Nat.pow_le_pow_right WB_pos (by omega)
      omega
    · exact h2
theorem Dg.agg {w : World} {v : Value} {n : Nat} (h : Dg w v n) : ∃ (x : Int) (p : Option Addr), v = .agg #[.int .u64 x, .pointer p] := by
  rcases h with ⟨_, rfl⟩ | ⟨_, _, _, rfl, _⟩
  · exact ⟨_, _, rfl⟩
  · exact ⟨_, _, rfl⟩
/-- a number of at most 1000 words -/
def Sz (n : Nat) : Prop := ∃ k, k ≤ 1000 ∧ n < WB ^ k
theorem Sz.len {n : Nat} {ws : List Nat} (hn : Sz n) (h : Nrm ws) (hv : val ws = n) : ws.length ≤ 1000 := by
  obtain ⟨k, hk, h1⟩ := hn
  exact Nat.le_trans (nrm_len h hv h1) hk
/-- the four cells of two boxes at B and B + 1 -/
def Bx (B : Nat) (x y z t : Value) (w : World) : Prop := w.cell? ⟨B, 0, none⟩ = some x ∧ w.cell? ⟨B, 1, none⟩ = some y ∧ w.cell? ⟨B + 1, 0, none⟩ = some z ∧ w.cell? ⟨B + 1, 1, none⟩ = some t
theorem Bx.keep {B C : Nat} {x y z t : Value} {w w' : World} (h : Bx B x y z t w) (hb : Below C w w') (hB : B + 1 < C) : Bx B x y z t w' :=
  ⟨(hb.cell (p := ⟨B, 0, none⟩) (show B < C by omega)).trans h.1, (hb.cell (p := ⟨B, 1, none⟩) (show B < C by omega)).trans h.2.1, (hb.cell (p := ⟨B + 1, 0, none⟩) (show B + 1 < C from hB)).trans h.2.2.1, (hb.cell (p := ⟨B + 1, 1, none⟩) (show B + 1 < C from hB)).trans h.2.2.2⟩
theorem Bx.store2 {B : Nat} {x y z t : Value} {w : World} (h : Bx B x y z t w) (u v : Value) : Bx B x y z t ((w.setCell ⟨B + 1 + 1, 0, none⟩ u).setCell ⟨B + 1 + 1, 1, none⟩ v) :=
  h.keep (C := B + 1 + 1) (((Below.refl _ _).setCell (by simp) _).setCell (by simp) _) (by omega)
/-- block T holds no list of digits -/
structure Odd (T : Nat) (w : World) : Prop where
  pair : ∀ (o : Nat) (x y : Int), w.cell? ⟨T, o, none⟩ = some (.int .u64 x) → w.cell? ⟨T, o + 1, none⟩ = some (.int .u64 y) → False
  head : ∀ (p : Option Addr) (l c : Nat), w.cell? ⟨T, 0, none⟩ = some (.slice p l c) → False
/-- digits stay while a block that holds no list of digits is written -/
theorem Dg.store {w w' : World} {v : Value} {n T : Nat} (h : Dg w v n) (hT : Odd T w) (hg : w.grownBy w' (some T)) : Dg w' v n := by
  rcases h with h | ⟨b, sv, ws, h1, h2, h3, h4, h5, h6, h7⟩
  · exact .inl h
  · have key : ∀ (b : Nat), b < w.heap.size → b ≠ T → ∀ o, w'.cell? ⟨b, o, none⟩ = w.cell? ⟨b, o, none⟩ := fun b hb hne o => World.cell?_of_block (hg.block b hb (by intro e; cases e; exact hne rfl))
    obtain ⟨g1, g2, ⟨rfl, rfl⟩ | ⟨b', o, cap, hv, hc, hlt, hcell⟩⟩ := h4
    · simp at h6
    · have hne : b ≠ T := by
        rintro rfl
        rw [hv] at h3
        exact hT.head _ _ _ h3
      have hne' : b' ≠ T := by
        rintro rfl
        exact hT.pair o _ _ (hcell 0 (by omega)) (hcell 1 (by omega))
      exact .inr ⟨b, sv, ws, h1, Nat.lt_of_lt_of_le h2 hg.size, (key b h2 hne 0).trans h3, ⟨g1, g2, .inr ⟨b', o, cap, hv, hc, Nat.lt_of_lt_of_le hlt hg.size, fun i hi => (key b' hlt hne' _).trans (hcell i hi)⟩⟩, h5, h6, h7⟩
/-- the digits result's box at T -/
def Rs (T : Nat) (w : World) : Prop := ∃ (x : Int) (p : Option Addr), w.heap[T]? = some (.cells #[.int .u64 x, .pointer p] 27)
theorem Rs.keep {T C : Nat} {w w' : World} (h : Rs T w) (hb : Below C w w') (hT : T < C) : Rs T w' := by
  obtain ⟨x, p, h⟩ := h
  exact ⟨x, p, (hb.block T hT).trans h⟩
theorem Rs.alloc {T : Nat} {w : World} (h : Rs T w) (o : Obj) : Rs T (w.alloc o) := by
  obtain ⟨x, p, h⟩ := h
  exact ⟨x, p, (Below.heap_alloc w o T (Array.getElem?_eq_some_iff.1 h).1).trans h⟩
theorem rs_new (w : World) {T : Nat} (hT : T = w.heap.size) : Rs T (w.alloc (.cells #[.int .u64 0, .pointer none] 27)) := by
  subst hT; exact ⟨0, none, Go.Deep.blk_alloc_new _ _⟩
theorem Rs.cells {T : Nat} {w : World} (h : Rs T w) : ∃ (x : Int) (p : Option Addr), w.cell? ⟨T, 0, none⟩ = some (.int .u64 x) ∧ w.cell? ⟨T, 1, none⟩ = some (.pointer p) ∧ w.frozen? ⟨T, 0, none⟩ = false ∧ w.frozen? ⟨T, 1, none⟩ = false := by
  obtain ⟨x, p, h⟩ := h
  exact ⟨x, p, by simp [World.cell?, h], by simp [World.cell?, h], by simp [World.frozen?, h], by simp [World.frozen?, h]⟩
theorem Rs.odd {T : Nat} {w : World} (h : Rs T w) : Odd T w := by
  obtain ⟨x, p, h⟩ := h
  have hc : ∀ o, w.cell? ⟨T, o, none⟩ = (#[Value.int .u64 x, .pointer p] : Array Value)[o]? := fun o => by simp [World.cell?, h]
  refine ⟨fun o x' y' h1 h2 => ?_, fun p l c h1 => ?_⟩
  · rw [hc] at h1 h2
    match o with
    | 0 => simp at h2
    | 1 => simp at h1
    | o + 2 => simp at h1
  · rw [hc] at h1; simp at h1
/-- the Z result's box at T -/
def Rz (T : Nat) (w : World) : Prop := ∃ (s : Bool) (x : Int) (p : Option Addr), w.heap[T]? = some (.cells #[.bool s, .int .u64 x, .pointer p] 29)
theorem Rz.keep {T C : Nat} {w w' : World} (h : Rz T w) (hb : Below C w w') (hT : T < C) : Rz T w' := by
  obtain ⟨s, x, p, h⟩ := h
  exact ⟨s, x, p, (hb.block T hT).trans h⟩
theorem Rz.alloc {T : Nat} {w : World} (h : Rz T w) (o : Obj) : Rz T (w.alloc o) := by
  obtain ⟨s, x, p, h⟩ := h
  exact ⟨s, x, p, (Below.heap_alloc w o T (Array.getElem?_eq_some_iff.1 h).1).trans h⟩
theorem rz_new (w : World) {T : Nat} (hT : T = w.heap.size) : Rz T (w.alloc (.cells #[.bool false, .int .u64 0, .pointer none] 29)) := by
  subst hT; exact ⟨false, 0, none, Go.Deep.blk_alloc_new _ _⟩
theorem Rz.cells {T : Nat} {w : World} (h : Rz T w) : ∃ (s : Bool) (x : Int) (p : Option Addr), w.cell? ⟨T, 0, none⟩ = some (.bool s) ∧ w.cell? ⟨T, 1, none⟩ = some (.int .u64 x) ∧ w.cell? ⟨T, 2, none⟩ = some (.pointer p) ∧ w.frozen? ⟨T, 0, none⟩ = false ∧ w.frozen? ⟨T, 1, none⟩ = false ∧ w.frozen? ⟨T, 2, none⟩ = false := by
  obtain ⟨s, x, p, h⟩ := h
  exact ⟨s, x, p, by simp [World.cell?, h], by simp [World.cell?, h], by simp [World.cell?, h], by simp [World.frozen?, h], by simp [World.frozen?, h], by simp [World.frozen?, h]⟩
theorem Rz.odd {T : Nat} {w : World} (h : Rz T w) : Odd T w := by
  obtain ⟨s, x, p, h⟩ := h
  have hc : ∀ o, w.cell? ⟨T, o, none⟩ = (#[Value.bool s, .int .u64 x, .pointer p] : Array Value)[o]? := fun o => by simp [World.cell?, h]
  refine ⟨fun o x' y' h1 h2 => ?_, fun p l c h1 => ?_⟩
  · rw [hc] at h1 h2
    match o with
    | 0 => simp at h1
    | 1 => simp at h2
    | 2 => simp at h1
    | o + 3 => simp at h1
  · rw [hc] at h1; simp at h1
theorem grown2 (w : World) (T i j : Nat) (u v : Value) : w.grownBy ((w.setCell ⟨T, i, none⟩ u).setCell ⟨T, j, none⟩ v) (some T) := only_setCell (p := ⟨T, j, none⟩) (only_setCell (p := ⟨T, i, none⟩) (World.grownBy.refl _ _) rfl _) rfl _
theorem grown3 (w : World) (T i j k : Nat) (u v z : Value) : w.grownBy (((w.setCell ⟨T, i, none⟩ u).setCell ⟨T, j, none⟩ v).setCell ⟨T, k, none⟩ z) (some T) := only_setCell (p := ⟨T, k, none⟩) (grown2 w T i j u v) rfl _
theorem two_cells {w : World} {T : Nat} {p q : Value} (h1 : w.cell? ⟨T, 0, none⟩ = some p) (h2 : w.cell? ⟨T, 1, none⟩ = some q) (u v : Value) :
    ((w.setCell ⟨T, 0, none⟩ u).setCell ⟨T, 1, none⟩ v).cell? ⟨T, 0, none⟩ = some u ∧ ((w.setCell ⟨T, 0, none⟩ u).setCell ⟨T, 1, none⟩ v).cell? ⟨T, 1, none⟩ = some v := by
  have e1 : (w.setCell ⟨T, 0, none⟩ u).cell? ⟨T, 0, none⟩ = some u := World.cell?_setCell_same' _ _ _ (by rw [h1]; rfl)
  have e2 : (w.setCell ⟨T, 0, none⟩ u).cell? ⟨T, 1, none⟩ = some q := by rw [World.cell?_setCell_other _ _ _ _ (by simp)]; exact h2
  exact ⟨by rw [World.cell?_setCell_other _ _ _ _ (by simp)]; exact e1, World.cell?_setCell_same' _ _ _ (by rw [e2]; rfl)⟩
theorem Dg.cast {w : World} {v : Value} {m n : Nat} (h : Dg w v m) (e : m = n) : Dg w v n := e ▸ h
set_option maxRecDepth 100000 in
theorem plus_any (va vb : Value) (a b : Nat) (w : World) (ha : Dg w va a) (hb : Dg w vb b) (la : Sz a) (lb : Sz b) : Calls Try.prog 52 #[va, vb] w (PDg (a + b) w) := by
  have HA := Lib.hid ha; have HB := Lib.hid hb
  rcases ha with ⟨hn, rfl⟩ | ⟨ba, sva, wsa, rfl, a2, a3, a4, a5, a6, a7⟩
  · rcases hb with ⟨hm, rfl⟩ | ⟨bb, svb, wsb, rfl, b2, b3, b4, b5, b6, b7⟩
    · obtain ⟨s, k, hs, hk, HE, hrun⟩ := add64_run0 a b hn hm
      by_cases hz : k = 0
      · subst hz
        have hrun : ∀ w : World, (callFunc 78 #[.int .u64 (a : Int), .int .u64 (b : Int), .int .u64 0]).run Try.prog w = .ok (.value (.tuple #[.int .u64 (s : Int), .int .u64 0])) w := hrun
        go_enter Try.func52, Try.ntmps52
        go_wp2_with (go_at_call 47; refine (isSmall_small _ _).mono ?_; rintro e w1 ⟨rfl, rfl⟩)
        exact bodyPost_ret (v := .agg #[.int .u64 s, .pointer none]) (by simp [results, Try.results52, go_sem]) rfl ⟨Below.thru (bl3 _ _ _ _) (by simp; omega) (bl2 _ _ _), _, rfl, .inl ⟨by have := HE.out; rw [Nat.mul_zero, Nat.add_zero] at this; rw [← this]; exact hs, by have := HE.out; rw [Nat.mul_zero, Nat.add_zero] at this; rw [← this]⟩⟩
      · have h : ((k : Int) == 0) = false := by rw [beq_eq_false_iff_ne]; omega
        clear hz
        go_enter Try.func52, Try.ntmps52
        go_wp2_with (go_at_call 47; refine (isSmall_small _ _).mono ?_; rintro e w1 ⟨rfl, rfl⟩)
        clear hrun h hk hs HE
        generalize hW : World.alloc _ (Obj.cells #[Value.int IntKind.u64 ↑b, Value.pointer none] 27) = W
        have f1 : Below w.heap.size w W := by rw [← hW]; exact Below.thru (bl3 _ _ _ _) (by simp; omega) (bl2 _ _ _)
        have f2 : W.heap.size = w.heap.size + 5 := by rw [← hW]; simp
        have f3 : Bx w.heap.size (.int .u64 (a : Int)) (.pointer none) (.int .u64 (b : Int)) (.pointer none) W := by
          rw [← hW]; refine ⟨?_, ?_, ?_, ?_⟩ <;> simp [go_sem, World.cell?_alloc_past]
        have f4 : Rs (w.heap.size + 1 + 1) W := by
          rw [← hW]; exact (((rs_new _ (by simp)).alloc _).alloc _)
        clear hW
        have f3 : Bx w.heap.size (.int .u64 (a : Int)) (.pointer none) (.int .u64 (b : Int)) (.pointer none) W.drew := f3
        have f4 : Rs (w.heap.size + 1 + 1) W.drew := f4
        have f1 : Below w.heap.size w W.drew := f1.drew
        have f2 : w.heap.size + 3 ≤ W.drew.heap.size := by show _ ≤ W.heap.size; omega
        go_region_held3 (fun w' => w'.cell? ⟨w.heap.size, 0, none⟩ = some (.int .u64 (a : Int)) ∧ w'.cell? ⟨w.heap.size, 1, none⟩ = some (.pointer none) ∧ w'.cell? ⟨w.heap.size + 1, 0, none⟩ = some (.int .u64 (b : Int)) ∧ w'.cell? ⟨w.heap.size + 1, 1, none⟩ = some (.pointer none))
          (first | exact Bx.store2 d4 _ _ | exact d4 | exact d3 | exact d2 | exact d1 | exact f3)
          (first
            | (go_at_call 81; (with_reducible refine (words_any (.agg #[.int .u64 (a : Int), .pointer none]) a W.drew (HA.out.keep (B := w.heap.size) f1 (Nat.le_refl _))).mono ?_); rintro e w1 ⟨hb1, v1, ws1, rfl, hs1, hn1, hv1⟩
               have d1 := Bx.keep f3 hb1 (by omega); have r1 := Rs.keep f4 hb1 (by omega); have k1 := Below.thru f1 f1.size hb1; have z1 : w.heap.size + 3 ≤ w1.heap.size := Nat.le_trans f2 hb1.size)
            | (go_at_call 81; (with_reducible refine (words_any (.agg #[.int .u64 (b : Int), .pointer none]) b w1 (HB.out.keep (B := w.heap.size) k1 (Nat.le_refl _))).mono ?_); rintro e w2 ⟨hb2, v2, ws2, rfl, hs2, hn2, hv2⟩
               have d2 := Bx.keep d1 hb2 (by omega); have r2 := Rs.keep r1 hb2 (by omega); have k2 := Below.thru k1 k1.size hb2; have z2 : w.heap.size + 3 ≤ w2.heap.size := Nat.le_trans z1 hb2.size)
            | (go_at_call 80; (with_reducible refine (addWords_both v1 v2 ws1 ws2 w2 (hs1.keep hb2 (Nat.le_refl _)) hs2 (Nat.le_trans (la.len hn1 hv1) (by omega)) (Nat.le_trans (lb.len hn2 hv2) (by omega))).mono ?_); rintro e w3 ⟨ws3, hw3, hv3, hb3, v3, rfl, hs3⟩
               have d3 := Bx.keep d2 hb3 (by omega); have r3 := Rs.keep r2 hb3 (by omega); have k3 := Below.thru k2 k2.size hb3; have z3 : w.heap.size + 3 ≤ w3.heap.size := Nat.le_trans z2 hb3.size)
            | (go_at_call 79; (with_reducible refine (digitsOf_any v3 (norm ws3) w3 hs3 (norm_nrm _)).mono ?_); rintro e w4 ⟨hb4, v4, rfl, hs4⟩
               have d4 := Bx.keep d3 hb4 (by omega); have r4 := Rs.keep r3 hb4 (by omega); obtain ⟨p4, q4, m1, m2, m3, m4⟩ := r4.cells; obtain ⟨x4, y4, rfl⟩ := hs4.agg; have k4 := Below.thru k3 k3.size hb4; have z4 : w.heap.size + 3 ≤ w4.heap.size := Nat.le_trans z3 hb4.size))
        obtain ⟨n1, n2⟩ := two_cells m1 m2 (.int .u64 x4) (.pointer y4)
        go_wp2
        exact bodyPost_ret (v := .agg #[.int .u64 x4, .pointer y4]) (by simp [results, Try.results52, go_sem, n1, n2]) rfl ⟨(k4.setCell (by simp; omega) _).setCell (by simp; omega) _, _, rfl, (hs4.store r4.odd (grown2 _ _ _ _ _ _)).cast (by rw [val_norm, hv3, hv1, hv2])⟩

    · clear b2 b3 b4 b5 b6 b7
      go_enter Try.func52, Try.ntmps52
      go_wp2_with (go_at_call 47; first | ((with_reducible refine (isSmall_small _ _).mono ?_); rintro e w1 ⟨rfl, rfl⟩) | ((with_reducible refine (isSmall_big _ _ _).mono ?_); rintro e w1 ⟨rfl, rfl⟩))
      clear hn
      generalize hW : World.alloc _ (Obj.cells #[Value.int IntKind.u64 0, Value.pointer (some ⟨bb, 0, none⟩)] 27) = W
      have f1 : Below w.heap.size w W := by rw [← hW]; exact Below.thru (bl3 _ _ _ _) (by simp; omega) (bl2 _ _ _)
      have f2 : W.heap.size = w.heap.size + 5 := by rw [← hW]; simp
      have f3 : Bx w.heap.size (.int .u64 (a : Int)) (.pointer none) (.int .u64 0) (.pointer (some ⟨bb, 0, none⟩)) W := by
        rw [← hW]; refine ⟨?_, ?_, ?_, ?_⟩ <;> simp [go_sem, World.cell?_alloc_past]
      have f4 : Rs (w.heap.size + 1 + 1) W := by
        rw [← hW]; exact (((rs_new _ (by simp)).alloc _).alloc _)
      clear hW
      have f3 : Bx w.heap.size (.int .u64 (a : Int)) (.pointer none) (.int .u64 0) (.pointer (some ⟨bb, 0, none⟩)) W.drew := f3
      have f4 : Rs (w.heap.size + 1 + 1) W.drew := f4
      have f1 : Below w.heap.size w W.drew := f1.drew
      have f2 : w.heap.size + 3 ≤ W.drew.heap.size := by show _ ≤ W.heap.size; omega
      go_region_held3 (fun w' => w'.cell? ⟨w.heap.size, 0, none⟩ = some (.int .u64 (a : Int)) ∧ w'.cell? ⟨w.heap.size, 1, none⟩ = some (.pointer none) ∧ w'.cell? ⟨w.heap.size + 1, 0, none⟩ = some (.int .u64 0) ∧ w'.cell? ⟨w.heap.size + 1, 1, none⟩ = some (.pointer (some ⟨bb, 0, none⟩)))
        (first | exact Bx.store2 d4 _ _ | exact d4 | exact d3 | exact d2 | exact d1 | exact f3)
        (first
          | (go_at_call 81; (with_reducible refine (words_any (.agg #[.int .u64 (a : Int), .pointer none]) a W.drew (HA.out.keep (B := w.heap.size) f1 (Nat.le_refl _))).mono ?_); rintro e w1 ⟨hb1, v1, ws1, rfl, hs1, hn1, hv1⟩
             have d1 := Bx.keep f3 hb1 (by omega); have r1 := Rs.keep f4 hb1 (by omega); have k1 := Below.thru f1 f1.size hb1; have z1 : w.heap.size + 3 ≤ w1.heap.size := Nat.le_trans f2 hb1.size)
          | (go_at_call 81; (with_reducible refine (words_any (.agg #[.int .u64 0, .pointer (some ⟨bb, 0, none⟩)]) b w1 (HB.out.keep (B := w.heap.size) k1 (Nat.le_refl _))).mono ?_); rintro e w2 ⟨hb2, v2, ws2, rfl, hs2, hn2, hv2⟩
             have d2 := Bx.keep d1 hb2 (by omega); have r2 := Rs.keep r1 hb2 (by omega); have k2 := Below.thru k1 k1.size hb2; have z2 : w.heap.size + 3 ≤ w2.heap.size := Nat.le_trans z1 hb2.size)
          | (go_at_call 80; (with_reducible refine (addWords_both v1 v2 ws1 ws2 w2 (hs1.keep hb2 (Nat.le_refl _)) hs2 (Nat.le_trans (la.len hn1 hv1) (by omega)) (Nat.le_trans (lb.len hn2 hv2) (by omega))).mono ?_); rintro e w3 ⟨ws3, hw3, hv3, hb3, v3, rfl, hs3⟩
             have d3 := Bx.keep d2 hb3 (by omega); have r3 := Rs.keep r2 hb3 (by omega); have k3 := Below.thru k2 k2.size hb3; have z3 : w.heap.size + 3 ≤ w3.heap.size := Nat.le_trans z2 hb3.size)
          | (go_at_call 79; (with_reducible refine (digitsOf_any v3 (norm ws3) w3 hs3 (norm_nrm _)).mono ?_); rintro e w4 ⟨hb4, v4, rfl, hs4⟩
             have d4 := Bx.keep d3 hb4 (by omega); have r4 := Rs.keep r3 hb4 (by omega); obtain ⟨p4, q4, m1, m2, m3, m4⟩ := r4.cells; obtain ⟨x4, y4, rfl⟩ := hs4.agg; have k4 := Below.thru k3 k3.size hb4; have z4 : w.heap.size + 3 ≤ w4.heap.size := Nat.le_trans z3 hb4.size))
      obtain ⟨n1, n2⟩ := two_cells m1 m2 (.int .u64 x4) (.pointer y4)
      go_wp2
      exact bodyPost_ret (v := .agg #[.int .u64 x4, .pointer y4]) (by simp [results, Try.results52, go_sem, n1, n2]) rfl ⟨(k4.setCell (by simp; omega) _).setCell (by simp; omega) _, _, rfl, (hs4.store r4.odd (grown2 _ _ _ _ _ _)).cast (by rw [val_norm, hv3, hv1, hv2])⟩

  · obtain ⟨xb, pb, rfl⟩ := hb.agg
    clear hb a2 a3 a4 a5 a6 a7
    go_enter Try.func52, Try.ntmps52
    go_wp2_with (go_at_call 47; refine (isSmall_big _ _ _).mono ?_; rintro e w1 ⟨rfl, rfl⟩)
    skip
    generalize hW : World.alloc _ (Obj.cells #[Value.int IntKind.u64 0, Value.pointer (some ⟨ba, 0, none⟩)] 27) = W
    have f1 : Below w.heap.size w W := by rw [← hW]; exact Below.thru (bl3 _ _ _ _) (by simp; omega) (bl1 _ _)
    have f2 : W.heap.size = w.heap.size + 4 := by rw [← hW]; simp
    have f3 : Bx w.heap.size (.int .u64 0) (.pointer (some ⟨ba, 0, none⟩)) (.int .u64 xb) (.pointer pb) W := by
      rw [← hW]; refine ⟨?_, ?_, ?_, ?_⟩ <;> simp [go_sem, World.cell?_alloc_past]
    have f4 : Rs (w.heap.size + 1 + 1) W := by
      rw [← hW]; exact ((rs_new _ (by simp)).alloc _)
    clear hW
    have f3 : Bx w.heap.size (.int .u64 0) (.pointer (some ⟨ba, 0, none⟩)) (.int .u64 xb) (.pointer pb) W.drew := f3
    have f4 : Rs (w.heap.size + 1 + 1) W.drew := f4
    have f1 : Below w.heap.size w W.drew := f1.drew
    have f2 : w.heap.size + 3 ≤ W.drew.heap.size := by show _ ≤ W.heap.size; omega
    go_region_held3 (fun w' => w'.cell? ⟨w.heap.size, 0, none⟩ = some (.int .u64 0) ∧ w'.cell? ⟨w.heap.size, 1, none⟩ = some (.pointer (some ⟨ba, 0, none⟩)) ∧ w'.cell? ⟨w.heap.size + 1, 0, none⟩ = some (.int .u64 xb) ∧ w'.cell? ⟨w.heap.size + 1, 1, none⟩ = some (.pointer pb))
      (first | exact Bx.store2 d4 _ _ | exact d4 | exact d3 | exact d2 | exact d1 | exact f3)
      (first
        | (go_at_call 81; (with_reducible refine (words_any (.agg #[.int .u64 0, .pointer (some ⟨ba, 0, none⟩)]) a W.drew (HA.out.keep (B := w.heap.size) f1 (Nat.le_refl _))).mono ?_); rintro e w1 ⟨hb1, v1, ws1, rfl, hs1, hn1, hv1⟩
           have d1 := Bx.keep f3 hb1 (by omega); have r1 := Rs.keep f4 hb1 (by omega); have k1 := Below.thru f1 f1.size hb1; have z1 : w.heap.size + 3 ≤ w1.heap.size := Nat.le_trans f2 hb1.size)
        | (go_at_call 81; (with_reducible refine (words_any (.agg #[.int .u64 xb, .pointer pb]) b w1 (HB.out.keep (B := w.heap.size) k1 (Nat.le_refl _))).mono ?_); rintro e w2 ⟨hb2, v2, ws2, rfl, hs2, hn2, hv2⟩
           have d2 := Bx.keep d1 hb2 (by omega); have r2 := Rs.keep r1 hb2 (by omega); have k2 := Below.thru k1 k1.size hb2; have z2 : w.heap.size + 3 ≤ w2.heap.size := Nat.le_trans z1 hb2.size)
        | (go_at_call 80; (with_reducible refine (addWords_both v1 v2 ws1 ws2 w2 (hs1.keep hb2 (Nat.le_refl _)) hs2 (Nat.le_trans (la.len hn1 hv1) (by omega)) (Nat.le_trans (lb.len hn2 hv2) (by omega))).mono ?_); rintro e w3 ⟨ws3, hw3, hv3, hb3, v3, rfl, hs3⟩
           have d3 := Bx.keep d2 hb3 (by omega); have r3 := Rs.keep r2 hb3 (by omega); have k3 := Below.thru k2 k2.size hb3; have z3 : w.heap.size + 3 ≤ w3.heap.size := Nat.le_trans z2 hb3.size)
        | (go_at_call 79; (with_reducible refine (digitsOf_any v3 (norm ws3) w3 hs3 (norm_nrm _)).mono ?_); rintro e w4 ⟨hb4, v4, rfl, hs4⟩
           have d4 := Bx.keep d3 hb4 (by omega); have r4 := Rs.keep r3 hb4 (by omega); obtain ⟨p4, q4, m1, m2, m3, m4⟩ := r4.cells; obtain ⟨x4, y4, rfl⟩ := hs4.agg; have k4 := Below.thru k3 k3.size hb4; have z4 : w.heap.size + 3 ≤ w4.heap.size := Nat.le_trans z3 hb4.size))
    obtain ⟨n1, n2⟩ := two_cells m1 m2 (.int .u64 x4) (.pointer y4)
    go_wp2
    exact bodyPost_ret (v := .agg #[.int .u64 x4, .pointer y4]) (by simp [results, Try.results52, go_sem, n1, n2]) rfl ⟨(k4.setCell (by simp; omega) _).setCell (by simp; omega) _, _, rfl, (hs4.store r4.odd (grown2 _ _ _ _ _ _)).cast (by rw [val_norm, hv3, hv1, hv2])⟩

end Go.Proofs.Ytjjomjjgoceklaa
