import Derived.Test.YtljmhejljpfaiaaGreatQg
import Derived.Test.YtljmhejljpfaiaaGreatBn
namespace Go.Proofs.YtljmhejljpfaiaaGreat
set_option maxRecDepth 100000
open Go.RowKit Go.Shelf

/-! comparisons: what they turn, to the letter -/
/-- draws, and blocks behind -/
def Qw (w w' : World) : Prop := ∃ q os, w' = Sort.grow (w.drewN q) os
theorem Qw.refl (w : World) : Qw w w := ⟨0, #[], by simp [Sort.grow, World.drewN]⟩
theorem Qw.below {w w' : World} (h : Qw w w') : Below w.heap.size w w' := by
  obtain ⟨q, os, rfl⟩ := h
  exact below_regrown w (w.drewN q).drawn os
theorem Qw.size {w w' : World} (h : Qw w w') : w.heap.size ≤ w'.heap.size := h.below.size
theorem Qw.thru {a b c : World} (h : Qw a b) (_ : a.heap.size ≤ b.heap.size) (k : Qw b c) : Qw a c := by
  obtain ⟨q, os, rfl⟩ := h
  obtain ⟨r, ps, rfl⟩ := k
  exact ⟨q + r, os ++ ps, by rw [← Sort.grow_grow, ← World.drewN_drewN]; rfl⟩
theorem Qw.cell {w w' : World} (h : Qw w w') {p : Addr} (hp : p.block < w.heap.size) : w'.cell? p = w.cell? p := h.below.cell (p := p) hp
theorem Qw.drew {w w' : World} (h : Qw w w') : Qw w w'.drew := by
  obtain ⟨q, os, rfl⟩ := h
  exact ⟨q + 1, os, rfl⟩
theorem qw1 (w : World) (o : Obj) : Qw w (w.alloc o) := ⟨0, #[o], by rw [Sort.alloc_eq_grow]; rfl⟩
theorem qw2 (w : World) (o o' : Obj) : Qw w ((w.alloc o).alloc o') := (qw1 w o).thru (qw1 w o).size (qw1 _ o')
theorem isNaNq_any (x : Int) (w : World) : Calls Tryz.prog 82 #[.int .i64 x] w fun e w' => e = .returned (.bool false) ∧ Qw w w' := by
  go_enter Tryz.func82, Tryz.ntmps82
  go_wp2
  go_ret
  exact ⟨rfl, Qw.refl _⟩
set_option maxHeartbeats 1000000 in
theorem compareq_any (a b : Int) (w : World) : Calls Tryz.prog 50 #[.int .i64 a, .int .i64 b] w fun e w' => e = .returned (.int .i64 (cmpI a b)) ∧ Qw w w' := by
  have HA := Lib.hid (fun W => isNaNq_any a W)
  have HB := Lib.hid (fun W => isNaNq_any b W)
  by_cases h1 : a < b
  · have HC : Hid (cmpI a b = -1) := by show _ = _; unfold cmpI; rw [if_pos h1]
    go_enter Tryz.func50, Tryz.ntmps50
    go_wp2_with fail
    refine (HA.out _).mono ?_
    rintro e w1 ⟨rfl, hb1⟩
    go_wp2_with fail
    refine (HB.out _).mono ?_
    rintro e w2 ⟨rfl, hb2⟩
    have k2 := Qw.thru hb1 hb1.size hb2
    clear hb1 hb2
    go_wp2
    go_ret
    exact ⟨by rw [HC.out]; rfl, k2⟩
  · by_cases h2 : b < a
    · have HC : Hid (cmpI a b = 1) := by show _ = _; unfold cmpI; rw [if_neg h1, if_pos h2]
      go_enter Tryz.func50, Tryz.ntmps50
      go_wp2_with fail
      refine (HA.out _).mono ?_
      rintro e w1 ⟨rfl, hb1⟩
      go_wp2_with fail
      refine (HB.out _).mono ?_
      rintro e w2 ⟨rfl, hb2⟩
      have k2 := Qw.thru hb1 hb1.size hb2
      clear hb1 hb2
      go_wp2
      go_ret
      exact ⟨by rw [HC.out]; rfl, k2⟩
    · have HC : Hid (cmpI a b = 0) := by show _ = _; unfold cmpI; rw [if_neg h1, if_neg h2]
      go_enter Tryz.func50, Tryz.ntmps50
      go_wp2_with fail
      refine (HA.out _).mono ?_
      rintro e w1 ⟨rfl, hb1⟩
      go_wp2_with fail
      refine (HB.out _).mono ?_
      rintro e w2 ⟨rfl, hb2⟩
      have k2 := Qw.thru hb1 hb1.size hb2
      clear hb1 hb2
      go_wp2
      go_ret
      exact ⟨by rw [HC.out]; rfl, k2⟩
end Go.Proofs.YtljmhejljpfaiaaGreat
namespace Go.Proofs.YtljmhejljpfaiaaGreat
set_option maxRecDepth 100000
set_option maxRecDepth 100000
open Go.RowKit Go.Shelf

/-! inOrder of two, lower -/
set_option maxHeartbeats 1000000 in
theorem inOrderq_any (B : Nat) (a b : Int) (w : World) (h0 : w.cell? ⟨B, 0, none⟩ = some (.int .i64 a)) (h1 : w.cell? ⟨B, 1, none⟩ = some (.int .i64 b)) : Calls Tryz.prog 49 #[.slice (some ⟨B, 0, none⟩) 2 2] w fun e w' => e = .returned (.int .i64 (ord2 a b)) ∧ Qw w w' := by
  have HO : Hid (ord2 a b = if a = 0 then b else a) := rfl
  go_enter Tryz.func49, Tryz.ntmps49
  go_wp2
  go_loopw [7, 4] (fun i _ wr => ∃ k : Nat, k ≤ 2 ∧ i = .int .i64 k ∧ Hid ((1 ≤ k → a = 0) ∧ (2 ≤ k → b = 0)) ∧ wr = w) (fun i _ _ => 2 - (intOf i).toNat)
  case atStart => exact ⟨0, by omega, rfl, ⟨fun h => absurd h (by omega), fun h => absurd h (by omega)⟩, rfl⟩
  case round =>
    obtain ⟨k, hk, rfl, HK, rfl⟩ := hrel
    have hk3 : k = 0 ∨ k = 1 ∨ k = 2 := by omega
    clear hk
    rcases hk3 with rfl | rfl | rfl
    · by_cases ha : a = 0
      · have HA := Lib.hid ha
        have ga : (a != 0) = false := by simpa using ha
        clear ha
        go_wp2
        go_roundw
        case rel => exact ⟨1, by omega, by go_num, ⟨fun _ => HA.out, fun h => absurd h (by omega)⟩, trivial⟩
        case measure => decide
      · have ga : (a != 0) = true := by simpa using ha
        have HR : Hid (ord2 a b = a) := by show _ = _; rw [HO.out, if_neg ha]
        clear ha
        go_wp2
        go_ret
        exact ⟨by rw [HR.out]; rfl, Qw.refl _⟩
    · have HA := Lib.hid (HK.out.1 (Nat.le_refl _))
      have HR : Hid (ord2 a b = b) := by show _ = _; rw [HO.out, if_pos HA.out]
      by_cases hb : b = 0
      · have HB := Lib.hid hb
        have gb : (b != 0) = false := by simpa using hb
        clear hb
        go_wp2
        go_roundw
        case rel => exact ⟨2, by omega, by go_num, ⟨fun _ => HA.out, fun _ => HB.out⟩, trivial⟩
        case measure => decide
      · have gb : (b != 0) = true := by simpa using hb
        clear hb
        go_wp2
        go_ret
        exact ⟨by rw [HR.out]; rfl, Qw.refl _⟩
    · have HR : Hid (ord2 a b = 0) := by show _ = _; rw [HO.out, if_pos (HK.out.1 (by omega)), HK.out.2 (by omega)]
      go_wp2
      go_ret
      exact ⟨by rw [HR.out]; rfl, Qw.refl _⟩
set_option maxHeartbeats 2000000 in
theorem lowerq_any (x1 z1 x2 z2 : Int) (w : World) : Calls Tryz.prog 21 #[.agg #[.int .i64 x1, .int .i64 z1], .agg #[.int .i64 x2, .int .i64 z2]] w fun e w' => e = .returned (.int .i64 (lowI x1 z1 x2 z2)) ∧ Qw w w' := by
  have HZ := Lib.hid (fun W => compareq_any z1 z2 W)
  have HX := Lib.hid (fun W => compareq_any x1 x2 W)
  have HO := Lib.hid (fun B W h0 h1 => inOrderq_any B (cmpI z1 z2) (cmpI x1 x2) W h0 h1)
  have HR : Hid (lowI x1 z1 x2 z2 = ord2 (cmpI z1 z2) (cmpI x1 x2)) := rfl
  have s1 : B2 w.heap.size x1 z1 ((w.alloc (.cells #[.int .i64 x1, .int .i64 z1] 37)).alloc (.cells #[.int .i64 x2, .int .i64 z2] 37)) := ⟨by simp [go_sem], by simp [go_sem], by simp [go_sem], by simp [go_sem]⟩
  have s2 : B2 (w.heap.size + 1) x2 z2 ((w.alloc (.cells #[.int .i64 x1, .int .i64 z1] 37)).alloc (.cells #[.int .i64 x2, .int .i64 z2] 37)) := ⟨by simp [go_sem], by simp [go_sem], by simp [go_sem], by simp [go_sem]⟩
  have k0 := qw2 w (.cells #[.int .i64 x1, .int .i64 z1] 37) (.cells #[.int .i64 x2, .int .i64 z2] 37)
  go_enter Tryz.func21, Tryz.ntmps21
  go_wp2_with fail
  generalize (w.alloc (.cells #[.int .i64 x1, .int .i64 z1] 37)).alloc (.cells #[.int .i64 x2, .int .i64 z2] 37) = w0 at *
  generalize cmpI z1 z2 = u at *
  generalize cmpI x1 x2 = v at *
  have q0 : w0.drew.cell? ⟨w.heap.size, 0, none⟩ = some (.int .i64 x1) ∧ w0.drew.cell? ⟨w.heap.size, 1, none⟩ = some (.int .i64 z1) ∧ w0.drew.cell? ⟨w.heap.size + 1, 0, none⟩ = some (.int .i64 x2) ∧ w0.drew.cell? ⟨w.heap.size + 1, 1, none⟩ = some (.int .i64 z2) := ⟨s1.1, s1.2.1, s2.1, s2.2.1⟩
  have k0 := k0.drew
  clear s1 s2
  go_region_held3 (fun w' => w'.cell? ⟨w.heap.size, 0, none⟩ = some (.int .i64 x1) ∧ w'.cell? ⟨w.heap.size, 1, none⟩ = some (.int .i64 z1) ∧ w'.cell? ⟨w.heap.size + 1, 0, none⟩ = some (.int .i64 x2) ∧ w'.cell? ⟨w.heap.size + 1, 1, none⟩ = some (.int .i64 z2))
    (first | (with_reducible exact q4) | (with_reducible exact q3) | (with_reducible exact q2) | (with_reducible exact q1) | (with_reducible exact q0))
    (first
      | (go_at_call 50; first | (with_reducible refine (HZ.out w0.drew).mono ?_) | (with_reducible refine (HX.out w0.drew).mono ?_)
         rintro e w1 ⟨rfl, hb1⟩
         have q1 : w1.cell? ⟨w.heap.size, 0, none⟩ = some (.int .i64 x1) ∧ w1.cell? ⟨w.heap.size, 1, none⟩ = some (.int .i64 z1) ∧ w1.cell? ⟨w.heap.size + 1, 0, none⟩ = some (.int .i64 x2) ∧ w1.cell? ⟨w.heap.size + 1, 1, none⟩ = some (.int .i64 z2) := ⟨(hb1.cell (p := ⟨_, _, none⟩) (cell_lt q0.1)).trans q0.1, (hb1.cell (p := ⟨_, _, none⟩) (cell_lt q0.2.1)).trans q0.2.1, (hb1.cell (p := ⟨_, _, none⟩) (cell_lt q0.2.2.1)).trans q0.2.2.1, (hb1.cell (p := ⟨_, _, none⟩) (cell_lt q0.2.2.2)).trans q0.2.2.2⟩; have k1 := Qw.thru k0 k0.size hb1)
      | (go_at_call 50; first | (with_reducible refine (HZ.out w1).mono ?_) | (with_reducible refine (HX.out w1).mono ?_)
         rintro e w2 ⟨rfl, hb2⟩
         have q2 : w2.cell? ⟨w.heap.size, 0, none⟩ = some (.int .i64 x1) ∧ w2.cell? ⟨w.heap.size, 1, none⟩ = some (.int .i64 z1) ∧ w2.cell? ⟨w.heap.size + 1, 0, none⟩ = some (.int .i64 x2) ∧ w2.cell? ⟨w.heap.size + 1, 1, none⟩ = some (.int .i64 z2) := ⟨(hb2.cell (p := ⟨_, _, none⟩) (cell_lt q1.1)).trans q1.1, (hb2.cell (p := ⟨_, _, none⟩) (cell_lt q1.2.1)).trans q1.2.1, (hb2.cell (p := ⟨_, _, none⟩) (cell_lt q1.2.2.1)).trans q1.2.2.1, (hb2.cell (p := ⟨_, _, none⟩) (cell_lt q1.2.2.2)).trans q1.2.2.2⟩; have k2 := Qw.thru k1 k1.size hb2; have q3 : (w2.alloc (.cells #[.int .i64 u, .int .i64 v] 3)).cell? ⟨w.heap.size, 0, none⟩ = some (.int .i64 x1) ∧ (w2.alloc (.cells #[.int .i64 u, .int .i64 v] 3)).cell? ⟨w.heap.size, 1, none⟩ = some (.int .i64 z1) ∧ (w2.alloc (.cells #[.int .i64 u, .int .i64 v] 3)).cell? ⟨w.heap.size + 1, 0, none⟩ = some (.int .i64 x2) ∧ (w2.alloc (.cells #[.int .i64 u, .int .i64 v] 3)).cell? ⟨w.heap.size + 1, 1, none⟩ = some (.int .i64 z2) := ⟨((qw1 w2 (.cells #[.int .i64 u, .int .i64 v] 3)).cell (p := ⟨_, _, none⟩) (cell_lt q2.1)).trans q2.1, ((qw1 w2 (.cells #[.int .i64 u, .int .i64 v] 3)).cell (p := ⟨_, _, none⟩) (cell_lt q2.2.1)).trans q2.2.1, ((qw1 w2 (.cells #[.int .i64 u, .int .i64 v] 3)).cell (p := ⟨_, _, none⟩) (cell_lt q2.2.2.1)).trans q2.2.2.1, ((qw1 w2 (.cells #[.int .i64 u, .int .i64 v] 3)).cell (p := ⟨_, _, none⟩) (cell_lt q2.2.2.2)).trans q2.2.2.2⟩)
      | (go_at_call 49; (refine (HO.out w2.heap.size _ (by simp [go_sem]) (by simp [go_sem])).mono ?_); rintro e w3 ⟨rfl, hb3⟩; have q4 : w3.cell? ⟨w.heap.size, 0, none⟩ = some (.int .i64 x1) ∧ w3.cell? ⟨w.heap.size, 1, none⟩ = some (.int .i64 z1) ∧ w3.cell? ⟨w.heap.size + 1, 0, none⟩ = some (.int .i64 x2) ∧ w3.cell? ⟨w.heap.size + 1, 1, none⟩ = some (.int .i64 z2) := ⟨(hb3.cell (p := ⟨_, _, none⟩) (cell_lt q3.1)).trans q3.1, (hb3.cell (p := ⟨_, _, none⟩) (cell_lt q3.2.1)).trans q3.2.1, (hb3.cell (p := ⟨_, _, none⟩) (cell_lt q3.2.2.1)).trans q3.2.2.1, (hb3.cell (p := ⟨_, _, none⟩) (cell_lt q3.2.2.2)).trans q3.2.2.2⟩; have k3 := Qw.thru (Qw.thru k2 k2.size (qw1 w2 _)) (Qw.thru k2 k2.size (qw1 w2 _)).size hb3))
  all_goals
    go_wp2
    go_ret
    exact ⟨by rw [HR.out]; rfl, k3⟩
end Go.Proofs.YtljmhejljpfaiaaGreat
