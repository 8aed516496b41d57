import Derived.Test.YtjjomjjgoceklaaGreatKae
import Derived.RegionTactic
import Derived.ChangeAlike
import Derived.StillTailTactics
namespace Go.Proofs.YtjjomjjgoceklaaGreat
set_option maxRecDepth 100000
open Go.RowKit

theorem wrap_sub (a b : Nat) (ha : Wd a) (h : b ≤ a) : IntKind.u64.wrap ((a : Int) - (b : Int)) = ((a - b : Nat) : Int) := by
  unfold Wd WB at ha; rw [IntKind.wrap_u64]; omega
theorem len_of_val {a b : List Nat} (_wb : Wds b) (_na : Nrm a) (nb : Nrm b) (wa : Wds a) (h : val b ≤ val a) : b.length ≤ a.length := by
  rcases Nat.lt_or_ge a.length b.length with h1 | h1
  · have := val_len_lt wa nb h1; omega
  · exact h1
set_option maxRecDepth 100000 in
theorem minus_any (va vb : Value) (a b : Nat) (w : World) (ha : Dg w va a) (hb : Dg w vb b) (la : Sz a) (lb : Sz b) (hle : b ≤ a) : Calls Tryz.prog 125 #[va, vb] w (PDg (a - b) w) := by
  have HA := Lib.hid ha; have HB := Lib.hid hb
  have HLE := Lib.hid hle
  clear hle
  rcases ha with ⟨hn, rfl⟩ | ⟨ba, sva, wsa, rfl, a2, a3, a4, a5, a6, a7⟩
  · rcases hb with ⟨hm, rfl⟩ | ⟨bb, svb, wsb, rfl, b2, b3, b4, b5, b6, b7⟩
    · obtain ⟨d, hd⟩ : ∃ d : Nat, d = a - b := ⟨_, rfl⟩
      have hw : IntKind.u64.wrap ((a : Int) - (b : Int)) = (d : Int) := by rw [hd]; exact wrap_sub a b hn HLE.out
      have HD := Lib.hid hd
      have hdw : Wd d := by rw [hd]; unfold Wd at hn ⊢; omega
      clear hd
      go_enter Tryz.func125, Tryz.ntmps125
      go_wp2_with (go_at_call 123; refine (isSmall_small _ _).mono ?_; rintro e w1 ⟨rfl, rfl⟩)
      exact bodyPost_ret (v := .agg #[.int .u64 d, .pointer none]) (by simp [results, Tryz.results125, go_sem]) rfl ⟨Below.thru (bl3 _ _ _ _) (by simp; omega) (bl2 _ _ _), _, rfl, .inl ⟨by rw [← HD.out]; exact hdw, by rw [← HD.out]⟩⟩
    · clear b2 b3 b4 b5 b6 b7
      go_enter Tryz.func125, Tryz.ntmps125
      go_wp2_with (go_at_call 123; first | ((with_reducible refine (isSmall_small _ _).mono ?_); rintro e w1 ⟨rfl, rfl⟩) | ((with_reducible refine (isSmall_big _ _ _).mono ?_); rintro e w1 ⟨rfl, rfl⟩))
      clear hn
      generalize hW : World.alloc _ (Obj.cells #[Value.int IntKind.u64 0, Value.pointer (some ⟨bb, 0, none⟩)] 26) = W
      have f1 : Below w.heap.size w W := by rw [← hW]; exact Below.thru (bl3 _ _ _ _) (by simp; omega) (bl2 _ _ _)
      have f2 : W.heap.size = w.heap.size + 5 := by rw [← hW]; simp
      have f3 : Bx w.heap.size (.int .u64 (a : Int)) (.pointer none) (.int .u64 0) (.pointer (some ⟨bb, 0, none⟩)) W := by
        rw [← hW]; refine ⟨?_, ?_, ?_, ?_⟩ <;> simp [go_sem, World.cell?_alloc_past]
      have f4 : Rs (w.heap.size + 1 + 1) W := by
        rw [← hW]; exact (((rs_new _ (by simp)).alloc _).alloc _)
      clear hW
      have f3 : Bx w.heap.size (.int .u64 (a : Int)) (.pointer none) (.int .u64 0) (.pointer (some ⟨bb, 0, none⟩)) W.drew := f3
      have f4 : Rs (w.heap.size + 1 + 1) W.drew := f4
      have f1 : Below w.heap.size w W.drew := f1.drew
      have f2 : w.heap.size + 3 ≤ W.drew.heap.size := by show _ ≤ W.heap.size; omega
      go_region_held3 (fun w' => w'.cell? ⟨w.heap.size, 0, none⟩ = some (.int .u64 (a : Int)) ∧ w'.cell? ⟨w.heap.size, 1, none⟩ = some (.pointer none) ∧ w'.cell? ⟨w.heap.size + 1, 0, none⟩ = some (.int .u64 0) ∧ w'.cell? ⟨w.heap.size + 1, 1, none⟩ = some (.pointer (some ⟨bb, 0, none⟩)))
        (first | exact Bx.store2 d4 _ _ | exact d4 | exact d3 | exact d2 | exact d1 | exact f3)
        (first
          | (go_at_call 133; (with_reducible refine (words_any (.agg #[.int .u64 (a : Int), .pointer none]) a W.drew (HA.out.keep (B := w.heap.size) f1 (Nat.le_refl _))).mono ?_); rintro e w1 ⟨hb1, v1, ws1, rfl, hs1, hn1, hv1⟩
             have d1 := Bx.keep f3 hb1 (by omega); have r1 := Rs.keep f4 hb1 (by omega); have k1 := Below.thru f1 f1.size hb1; have z1 : w.heap.size + 3 ≤ w1.heap.size := Nat.le_trans f2 hb1.size)
          | (go_at_call 133; (with_reducible refine (words_any (.agg #[.int .u64 0, .pointer (some ⟨bb, 0, none⟩)]) b w1 (HB.out.keep (B := w.heap.size) k1 (Nat.le_refl _))).mono ?_); rintro e w2 ⟨hb2, v2, ws2, rfl, hs2, hn2, hv2⟩
             have d2 := Bx.keep d1 hb2 (by omega); have r2 := Rs.keep r1 hb2 (by omega); have k2 := Below.thru k1 k1.size hb2; have z2 : w.heap.size + 3 ≤ w2.heap.size := Nat.le_trans z1 hb2.size)
          | (go_at_call 146; have q2 : val ws2 ≤ val ws1 := (by rw [hv1, hv2]; exact HLE.out); have q3 := len_of_val hs2.1 hn1 hn2 hs1.1 q2; (with_reducible refine (subtractWords_any v1 v2 ws1 ws2 w2 (hs1.keep hb2 (Nat.le_refl _)) hs2 (Nat.le_trans (la.len hn1 hv1) (by omega)) (Nat.le_trans (lb.len hn2 hv2) (by omega)) q3 q2).mono ?_); rintro e w3 ⟨ws3, hw3, hv3, hb3, v3, rfl, hs3⟩
             have d3 := Bx.keep d2 hb3 (by omega); have r3 := Rs.keep r2 hb3 (by omega); have k3 := Below.thru k2 k2.size hb3; have z3 : w.heap.size + 3 ≤ w3.heap.size := Nat.le_trans z2 hb3.size)
          | (go_at_call 122; (with_reducible refine (digitsOf_any v3 (norm ws3) w3 hs3 (norm_nrm _)).mono ?_); rintro e w4 ⟨hb4, v4, rfl, hs4⟩
             have d4 := Bx.keep d3 hb4 (by omega); have r4 := Rs.keep r3 hb4 (by omega); obtain ⟨p4, q4, m1, m2, m3, m4⟩ := r4.cells; obtain ⟨x4, y4, rfl⟩ := hs4.agg; have k4 := Below.thru k3 k3.size hb4; have z4 : w.heap.size + 3 ≤ w4.heap.size := Nat.le_trans z3 hb4.size))
      obtain ⟨n1, n2⟩ := two_cells m1 m2 (.int .u64 x4) (.pointer y4)
      go_wp2
      exact bodyPost_ret (v := .agg #[.int .u64 x4, .pointer y4]) (by simp [results, Tryz.results125, go_sem, n1, n2]) rfl ⟨(k4.setCell (by simp; omega) _).setCell (by simp; omega) _, _, rfl, (hs4.store r4.odd (grown2 _ _ _ _ _ _)).cast (by rw [val_norm, hv3, hv1, hv2])⟩

  · obtain ⟨xb, pb, rfl⟩ := hb.agg
    clear hb a2 a3 a4 a5 a6 a7
    go_enter Tryz.func125, Tryz.ntmps125
    go_wp2_with (go_at_call 123; refine (isSmall_big _ _ _).mono ?_; rintro e w1 ⟨rfl, rfl⟩)
    skip
    generalize hW : World.alloc _ (Obj.cells #[Value.int IntKind.u64 0, Value.pointer (some ⟨ba, 0, none⟩)] 26) = W
    have f1 : Below w.heap.size w W := by rw [← hW]; exact Below.thru (bl3 _ _ _ _) (by simp; omega) (bl1 _ _)
    have f2 : W.heap.size = w.heap.size + 4 := by rw [← hW]; simp
    have f3 : Bx w.heap.size (.int .u64 0) (.pointer (some ⟨ba, 0, none⟩)) (.int .u64 xb) (.pointer pb) W := by
      rw [← hW]; refine ⟨?_, ?_, ?_, ?_⟩ <;> simp [go_sem, World.cell?_alloc_past]
    have f4 : Rs (w.heap.size + 1 + 1) W := by
      rw [← hW]; exact ((rs_new _ (by simp)).alloc _)
    clear hW
    have f3 : Bx w.heap.size (.int .u64 0) (.pointer (some ⟨ba, 0, none⟩)) (.int .u64 xb) (.pointer pb) W.drew := f3
    have f4 : Rs (w.heap.size + 1 + 1) W.drew := f4
    have f1 : Below w.heap.size w W.drew := f1.drew
    have f2 : w.heap.size + 3 ≤ W.drew.heap.size := by show _ ≤ W.heap.size; omega
    go_region_held3 (fun w' => w'.cell? ⟨w.heap.size, 0, none⟩ = some (.int .u64 0) ∧ w'.cell? ⟨w.heap.size, 1, none⟩ = some (.pointer (some ⟨ba, 0, none⟩)) ∧ w'.cell? ⟨w.heap.size + 1, 0, none⟩ = some (.int .u64 xb) ∧ w'.cell? ⟨w.heap.size + 1, 1, none⟩ = some (.pointer pb))
      (first | exact Bx.store2 d4 _ _ | exact d4 | exact d3 | exact d2 | exact d1 | exact f3)
      (first
        | (go_at_call 133; (with_reducible refine (words_any (.agg #[.int .u64 0, .pointer (some ⟨ba, 0, none⟩)]) a W.drew (HA.out.keep (B := w.heap.size) f1 (Nat.le_refl _))).mono ?_); rintro e w1 ⟨hb1, v1, ws1, rfl, hs1, hn1, hv1⟩
           have d1 := Bx.keep f3 hb1 (by omega); have r1 := Rs.keep f4 hb1 (by omega); have k1 := Below.thru f1 f1.size hb1; have z1 : w.heap.size + 3 ≤ w1.heap.size := Nat.le_trans f2 hb1.size)
        | (go_at_call 133; (with_reducible refine (words_any (.agg #[.int .u64 xb, .pointer pb]) b w1 (HB.out.keep (B := w.heap.size) k1 (Nat.le_refl _))).mono ?_); rintro e w2 ⟨hb2, v2, ws2, rfl, hs2, hn2, hv2⟩
           have d2 := Bx.keep d1 hb2 (by omega); have r2 := Rs.keep r1 hb2 (by omega); have k2 := Below.thru k1 k1.size hb2; have z2 : w.heap.size + 3 ≤ w2.heap.size := Nat.le_trans z1 hb2.size)
        | (go_at_call 146; have q2 : val ws2 ≤ val ws1 := (by rw [hv1, hv2]; exact HLE.out); have q3 := len_of_val hs2.1 hn1 hn2 hs1.1 q2; (with_reducible refine (subtractWords_any v1 v2 ws1 ws2 w2 (hs1.keep hb2 (Nat.le_refl _)) hs2 (Nat.le_trans (la.len hn1 hv1) (by omega)) (Nat.le_trans (lb.len hn2 hv2) (by omega)) q3 q2).mono ?_); rintro e w3 ⟨ws3, hw3, hv3, hb3, v3, rfl, hs3⟩
           have d3 := Bx.keep d2 hb3 (by omega); have r3 := Rs.keep r2 hb3 (by omega); have k3 := Below.thru k2 k2.size hb3; have z3 : w.heap.size + 3 ≤ w3.heap.size := Nat.le_trans z2 hb3.size)
        | (go_at_call 122; (with_reducible refine (digitsOf_any v3 (norm ws3) w3 hs3 (norm_nrm _)).mono ?_); rintro e w4 ⟨hb4, v4, rfl, hs4⟩
           have d4 := Bx.keep d3 hb4 (by omega); have r4 := Rs.keep r3 hb4 (by omega); obtain ⟨p4, q4, m1, m2, m3, m4⟩ := r4.cells; obtain ⟨x4, y4, rfl⟩ := hs4.agg; have k4 := Below.thru k3 k3.size hb4; have z4 : w.heap.size + 3 ≤ w4.heap.size := Nat.le_trans z3 hb4.size))
    obtain ⟨n1, n2⟩ := two_cells m1 m2 (.int .u64 x4) (.pointer y4)
    go_wp2
    exact bodyPost_ret (v := .agg #[.int .u64 x4, .pointer y4]) (by simp [results, Tryz.results125, go_sem, n1, n2]) rfl ⟨(k4.setCell (by simp; omega) _).setCell (by simp; omega) _, _, rfl, (hs4.store r4.odd (grown2 _ _ _ _ _ _)).cast (by rw [val_norm, hv3, hv1, hv2])⟩

theorem mul64_ex (x y : Nat) (hx : Wd x) (hy : Wd y) : ∃ h l : Nat, Wd l ∧ Wd h ∧ Hid (WB * h + l = x * y) ∧ ∀ w : World,
    Calls Tryz.prog 134 #[.int .u64 (x : Int), .int .u64 (y : Int)] w fun e w' => e = .returned (.tuple #[.int .u64 (h : Int), .int .u64 (l : Int)]) ∧ w' = w := by
  unfold Wd WB at *
  refine ⟨x * y / 18446744073709551616, x * y % 18446744073709551616, Nat.mod_lt _ (by omega), Nat.div_lt_of_lt_mul (Nat.mul_lt_mul'' hx hy), Nat.div_add_mod _ _, fun w => Tryz.bits_Mul64 x y hx hy w⟩
set_option maxRecDepth 100000 in
theorem times_any (va vb : Value) (a b : Nat) (w : World) (ha : Dg w va a) (hb : Dg w vb b) (la : Sz a) (lb : Sz b) : Calls Tryz.prog 112 #[va, vb] w (PDg (a * b) w) := by
  have HA := Lib.hid ha; have HB := Lib.hid hb
  rcases ha with ⟨hn, rfl⟩ | ⟨ba, sva, wsa, rfl, a2, a3, a4, a5, a6, a7⟩
  · rcases hb with ⟨hm, rfl⟩ | ⟨bb, svb, wsb, rfl, b2, b3, b4, b5, b6, b7⟩
    · obtain ⟨h, l, hl, hh, HE, hmul⟩ := mul64_ex a b hn hm
      have HM := Lib.hid hmul
      clear hmul
      by_cases hz : h = 0
      · subst hz
        go_enter Tryz.func112, Tryz.ntmps112
        go_wp2_with (first | (go_at_call 123; refine (isSmall_small _ _).mono ?_; rintro e w1 ⟨rfl, rfl⟩) | (go_at_call 134; refine (HM.out _).mono ?_; rintro e w1 ⟨rfl, rfl⟩))
        exact bodyPost_ret (v := .agg #[.int .u64 l, .pointer none]) (by simp [results, Tryz.results112, go_sem]) rfl ⟨Below.thru (bl3 _ _ _ _) (by simp; omega) (bl2 _ _ _), _, rfl, .inl ⟨by have := HE.out; rw [Nat.mul_zero, Nat.zero_add] at this; rw [← this]; exact hl, by have := HE.out; rw [Nat.mul_zero, Nat.zero_add] at this; rw [← this]⟩⟩
      · have hne : ((h : Int) == 0) = false := by rw [beq_eq_false_iff_ne]; omega
        clear hz
        go_enter Tryz.func112, Tryz.ntmps112
        go_wp2_with (first | (go_at_call 123; refine (isSmall_small _ _).mono ?_; rintro e w1 ⟨rfl, rfl⟩) | (go_at_call 134; refine (HM.out _).mono ?_; rintro e w1 ⟨rfl, rfl⟩))
        clear HM hne hh hl HE
        generalize hW : World.alloc _ (Obj.cells #[Value.int IntKind.u64 ↑b, Value.pointer none] 26) = W
        have f1 : Below w.heap.size w W := by rw [← hW]; exact Below.thru (bl3 _ _ _ _) (by simp; omega) (bl2 _ _ _)
        have f2 : W.heap.size = w.heap.size + 5 := by rw [← hW]; simp
        have f3 : Bx w.heap.size (.int .u64 (a : Int)) (.pointer none) (.int .u64 (b : Int)) (.pointer none) W := by
          rw [← hW]; refine ⟨?_, ?_, ?_, ?_⟩ <;> simp [go_sem, World.cell?_alloc_past]
        have f4 : Rs (w.heap.size + 1 + 1) W := by
          rw [← hW]; exact (((rs_new _ (by simp)).alloc _).alloc _)
        clear hW
        have f3 : Bx w.heap.size (.int .u64 (a : Int)) (.pointer none) (.int .u64 (b : Int)) (.pointer none) W.drew := f3
        have f4 : Rs (w.heap.size + 1 + 1) W.drew := f4
        have f1 : Below w.heap.size w W.drew := f1.drew
        have f2 : w.heap.size + 3 ≤ W.drew.heap.size := by show _ ≤ W.heap.size; omega
        go_region_held3 (fun w' => w'.cell? ⟨w.heap.size, 0, none⟩ = some (.int .u64 (a : Int)) ∧ w'.cell? ⟨w.heap.size, 1, none⟩ = some (.pointer none) ∧ w'.cell? ⟨w.heap.size + 1, 0, none⟩ = some (.int .u64 (b : Int)) ∧ w'.cell? ⟨w.heap.size + 1, 1, none⟩ = some (.pointer none))
          (first | exact Bx.store2 d4 _ _ | exact d4 | exact d3 | exact d2 | exact d1 | exact f3)
          (first
            | (go_at_call 133; (with_reducible refine (words_any (.agg #[.int .u64 (a : Int), .pointer none]) a W.drew (HA.out.keep (B := w.heap.size) f1 (Nat.le_refl _))).mono ?_); rintro e w1 ⟨hb1, v1, ws1, rfl, hs1, hn1, hv1⟩
               have d1 := Bx.keep f3 hb1 (by omega); have r1 := Rs.keep f4 hb1 (by omega); have k1 := Below.thru f1 f1.size hb1; have z1 : w.heap.size + 3 ≤ w1.heap.size := Nat.le_trans f2 hb1.size)
            | (go_at_call 133; (with_reducible refine (words_any (.agg #[.int .u64 (b : Int), .pointer none]) b w1 (HB.out.keep (B := w.heap.size) k1 (Nat.le_refl _))).mono ?_); rintro e w2 ⟨hb2, v2, ws2, rfl, hs2, hn2, hv2⟩
               have d2 := Bx.keep d1 hb2 (by omega); have r2 := Rs.keep r1 hb2 (by omega); have k2 := Below.thru k1 k1.size hb2; have z2 : w.heap.size + 3 ≤ w2.heap.size := Nat.le_trans z1 hb2.size)
            | (go_at_call 135; (with_reducible refine (multiplyWords_any v1 v2 ws1 ws2 w2 (hs1.keep hb2 (Nat.le_refl _)) hs2 (Nat.le_trans (la.len hn1 hv1) (by omega)) (Nat.le_trans (lb.len hn2 hv2) (by omega))).mono ?_); rintro e w3 ⟨ws3, hw3, hv3, hb3, v3, rfl, hs3⟩
               have d3 := Bx.keep d2 hb3 (by omega); have r3 := Rs.keep r2 hb3 (by omega); have k3 := Below.thru k2 k2.size hb3; have z3 : w.heap.size + 3 ≤ w3.heap.size := Nat.le_trans z2 hb3.size)
            | (go_at_call 122; (with_reducible refine (digitsOf_any v3 (norm ws3) w3 hs3 (norm_nrm _)).mono ?_); rintro e w4 ⟨hb4, v4, rfl, hs4⟩
               have d4 := Bx.keep d3 hb4 (by omega); have r4 := Rs.keep r3 hb4 (by omega); obtain ⟨p4, q4, m1, m2, m3, m4⟩ := r4.cells; obtain ⟨x4, y4, rfl⟩ := hs4.agg; have k4 := Below.thru k3 k3.size hb4; have z4 : w.heap.size + 3 ≤ w4.heap.size := Nat.le_trans z3 hb4.size))
        obtain ⟨n1, n2⟩ := two_cells m1 m2 (.int .u64 x4) (.pointer y4)
        go_wp2
        exact bodyPost_ret (v := .agg #[.int .u64 x4, .pointer y4]) (by simp [results, Tryz.results112, go_sem, n1, n2]) rfl ⟨(k4.setCell (by simp; omega) _).setCell (by simp; omega) _, _, rfl, (hs4.store r4.odd (grown2 _ _ _ _ _ _)).cast (by rw [val_norm, hv3, hv1, hv2])⟩

    · clear b2 b3 b4 b5 b6 b7
      go_enter Tryz.func112, Tryz.ntmps112
      go_wp2_with (go_at_call 123; first | ((with_reducible refine (isSmall_small _ _).mono ?_); rintro e w1 ⟨rfl, rfl⟩) | ((with_reducible refine (isSmall_big _ _ _).mono ?_); rintro e w1 ⟨rfl, rfl⟩))
      clear hn
      generalize hW : World.alloc _ (Obj.cells #[Value.int IntKind.u64 0, Value.pointer (some ⟨bb, 0, none⟩)] 26) = W
      have f1 : Below w.heap.size w W := by rw [← hW]; exact Below.thru (bl3 _ _ _ _) (by simp; omega) (bl2 _ _ _)
      have f2 : W.heap.size = w.heap.size + 5 := by rw [← hW]; simp
      have f3 : Bx w.heap.size (.int .u64 (a : Int)) (.pointer none) (.int .u64 0) (.pointer (some ⟨bb, 0, none⟩)) W := by
        rw [← hW]; refine ⟨?_, ?_, ?_, ?_⟩ <;> simp [go_sem, World.cell?_alloc_past]
      have f4 : Rs (w.heap.size + 1 + 1) W := by
        rw [← hW]; exact (((rs_new _ (by simp)).alloc _).alloc _)
      clear hW
      have f3 : Bx w.heap.size (.int .u64 (a : Int)) (.pointer none) (.int .u64 0) (.pointer (some ⟨bb, 0, none⟩)) W.drew := f3
      have f4 : Rs (w.heap.size + 1 + 1) W.drew := f4
      have f1 : Below w.heap.size w W.drew := f1.drew
      have f2 : w.heap.size + 3 ≤ W.drew.heap.size := by show _ ≤ W.heap.size; omega
      go_region_held3 (fun w' => w'.cell? ⟨w.heap.size, 0, none⟩ = some (.int .u64 (a : Int)) ∧ w'.cell? ⟨w.heap.size, 1, none⟩ = some (.pointer none) ∧ w'.cell? ⟨w.heap.size + 1, 0, none⟩ = some (.int .u64 0) ∧ w'.cell? ⟨w.heap.size + 1, 1, none⟩ = some (.pointer (some ⟨bb, 0, none⟩)))
        (first | exact Bx.store2 d4 _ _ | exact d4 | exact d3 | exact d2 | exact d1 | exact f3)
        (first
          | (go_at_call 133; (with_reducible refine (words_any (.agg #[.int .u64 (a : Int), .pointer none]) a W.drew (HA.out.keep (B := w.heap.size) f1 (Nat.le_refl _))).mono ?_); rintro e w1 ⟨hb1, v1, ws1, rfl, hs1, hn1, hv1⟩
             have d1 := Bx.keep f3 hb1 (by omega); have r1 := Rs.keep f4 hb1 (by omega); have k1 := Below.thru f1 f1.size hb1; have z1 : w.heap.size + 3 ≤ w1.heap.size := Nat.le_trans f2 hb1.size)
          | (go_at_call 133; (with_reducible refine (words_any (.agg #[.int .u64 0, .pointer (some ⟨bb, 0, none⟩)]) b w1 (HB.out.keep (B := w.heap.size) k1 (Nat.le_refl _))).mono ?_); rintro e w2 ⟨hb2, v2, ws2, rfl, hs2, hn2, hv2⟩
             have d2 := Bx.keep d1 hb2 (by omega); have r2 := Rs.keep r1 hb2 (by omega); have k2 := Below.thru k1 k1.size hb2; have z2 : w.heap.size + 3 ≤ w2.heap.size := Nat.le_trans z1 hb2.size)
          | (go_at_call 135; (with_reducible refine (multiplyWords_any v1 v2 ws1 ws2 w2 (hs1.keep hb2 (Nat.le_refl _)) hs2 (Nat.le_trans (la.len hn1 hv1) (by omega)) (Nat.le_trans (lb.len hn2 hv2) (by omega))).mono ?_); rintro e w3 ⟨ws3, hw3, hv3, hb3, v3, rfl, hs3⟩
             have d3 := Bx.keep d2 hb3 (by omega); have r3 := Rs.keep r2 hb3 (by omega); have k3 := Below.thru k2 k2.size hb3; have z3 : w.heap.size + 3 ≤ w3.heap.size := Nat.le_trans z2 hb3.size)
          | (go_at_call 122; (with_reducible refine (digitsOf_any v3 (norm ws3) w3 hs3 (norm_nrm _)).mono ?_); rintro e w4 ⟨hb4, v4, rfl, hs4⟩
             have d4 := Bx.keep d3 hb4 (by omega); have r4 := Rs.keep r3 hb4 (by omega); obtain ⟨p4, q4, m1, m2, m3, m4⟩ := r4.cells; obtain ⟨x4, y4, rfl⟩ := hs4.agg; have k4 := Below.thru k3 k3.size hb4; have z4 : w.heap.size + 3 ≤ w4.heap.size := Nat.le_trans z3 hb4.size))
      obtain ⟨n1, n2⟩ := two_cells m1 m2 (.int .u64 x4) (.pointer y4)
      go_wp2
      exact bodyPost_ret (v := .agg #[.int .u64 x4, .pointer y4]) (by simp [results, Tryz.results112, go_sem, n1, n2]) rfl ⟨(k4.setCell (by simp; omega) _).setCell (by simp; omega) _, _, rfl, (hs4.store r4.odd (grown2 _ _ _ _ _ _)).cast (by rw [val_norm, hv3, hv1, hv2])⟩

  · obtain ⟨xb, pb, rfl⟩ := hb.agg
    clear hb a2 a3 a4 a5 a6 a7
    go_enter Tryz.func112, Tryz.ntmps112
    go_wp2_with (go_at_call 123; refine (isSmall_big _ _ _).mono ?_; rintro e w1 ⟨rfl, rfl⟩)
    skip
    generalize hW : World.alloc _ (Obj.cells #[Value.int IntKind.u64 0, Value.pointer (some ⟨ba, 0, none⟩)] 26) = W
    have f1 : Below w.heap.size w W := by rw [← hW]; exact Below.thru (bl3 _ _ _ _) (by simp; omega) (bl1 _ _)
    have f2 : W.heap.size = w.heap.size + 4 := by rw [← hW]; simp
    have f3 : Bx w.heap.size (.int .u64 0) (.pointer (some ⟨ba, 0, none⟩)) (.int .u64 xb) (.pointer pb) W := by
      rw [← hW]; refine ⟨?_, ?_, ?_, ?_⟩ <;> simp [go_sem, World.cell?_alloc_past]
    have f4 : Rs (w.heap.size + 1 + 1) W := by
      rw [← hW]; exact ((rs_new _ (by simp)).alloc _)
    clear hW
    have f3 : Bx w.heap.size (.int .u64 0) (.pointer (some ⟨ba, 0, none⟩)) (.int .u64 xb) (.pointer pb) W.drew := f3
    have f4 : Rs (w.heap.size + 1 + 1) W.drew := f4
    have f1 : Below w.heap.size w W.drew := f1.drew
    have f2 : w.heap.size + 3 ≤ W.drew.heap.size := by show _ ≤ W.heap.size; omega
    go_region_held3 (fun w' => w'.cell? ⟨w.heap.size, 0, none⟩ = some (.int .u64 0) ∧ w'.cell? ⟨w.heap.size, 1, none⟩ = some (.pointer (some ⟨ba, 0, none⟩)) ∧ w'.cell? ⟨w.heap.size + 1, 0, none⟩ = some (.int .u64 xb) ∧ w'.cell? ⟨w.heap.size + 1, 1, none⟩ = some (.pointer pb))
      (first | exact Bx.store2 d4 _ _ | exact d4 | exact d3 | exact d2 | exact d1 | exact f3)
      (first
        | (go_at_call 133; (with_reducible refine (words_any (.agg #[.int .u64 0, .pointer (some ⟨ba, 0, none⟩)]) a W.drew (HA.out.keep (B := w.heap.size) f1 (Nat.le_refl _))).mono ?_); rintro e w1 ⟨hb1, v1, ws1, rfl, hs1, hn1, hv1⟩
           have d1 := Bx.keep f3 hb1 (by omega); have r1 := Rs.keep f4 hb1 (by omega); have k1 := Below.thru f1 f1.size hb1; have z1 : w.heap.size + 3 ≤ w1.heap.size := Nat.le_trans f2 hb1.size)
        | (go_at_call 133; (with_reducible refine (words_any (.agg #[.int .u64 xb, .pointer pb]) b w1 (HB.out.keep (B := w.heap.size) k1 (Nat.le_refl _))).mono ?_); rintro e w2 ⟨hb2, v2, ws2, rfl, hs2, hn2, hv2⟩
           have d2 := Bx.keep d1 hb2 (by omega); have r2 := Rs.keep r1 hb2 (by omega); have k2 := Below.thru k1 k1.size hb2; have z2 : w.heap.size + 3 ≤ w2.heap.size := Nat.le_trans z1 hb2.size)
        | (go_at_call 135; (with_reducible refine (multiplyWords_any v1 v2 ws1 ws2 w2 (hs1.keep hb2 (Nat.le_refl _)) hs2 (Nat.le_trans (la.len hn1 hv1) (by omega)) (Nat.le_trans (lb.len hn2 hv2) (by omega))).mono ?_); rintro e w3 ⟨ws3, hw3, hv3, hb3, v3, rfl, hs3⟩
           have d3 := Bx.keep d2 hb3 (by omega); have r3 := Rs.keep r2 hb3 (by omega); have k3 := Below.thru k2 k2.size hb3; have z3 : w.heap.size + 3 ≤ w3.heap.size := Nat.le_trans z2 hb3.size)
        | (go_at_call 122; (with_reducible refine (digitsOf_any v3 (norm ws3) w3 hs3 (norm_nrm _)).mono ?_); rintro e w4 ⟨hb4, v4, rfl, hs4⟩
           have d4 := Bx.keep d3 hb4 (by omega); have r4 := Rs.keep r3 hb4 (by omega); obtain ⟨p4, q4, m1, m2, m3, m4⟩ := r4.cells; obtain ⟨x4, y4, rfl⟩ := hs4.agg; have k4 := Below.thru k3 k3.size hb4; have z4 : w.heap.size + 3 ≤ w4.heap.size := Nat.le_trans z3 hb4.size))
    obtain ⟨n1, n2⟩ := two_cells m1 m2 (.int .u64 x4) (.pointer y4)
    go_wp2
    exact bodyPost_ret (v := .agg #[.int .u64 x4, .pointer y4]) (by simp [results, Tryz.results112, go_sem, n1, n2]) rfl ⟨(k4.setCell (by simp; omega) _).setCell (by simp; omega) _, _, rfl, (hs4.store r4.odd (grown2 _ _ _ _ _ _)).cast (by rw [val_norm, hv3, hv1, hv2])⟩

end Go.Proofs.YtjjomjjgoceklaaGreat
namespace Go.Proofs.YtjjomjjgoceklaaGreat
set_option maxRecDepth 100000
open Go.RowKit

def PCn (a b : Nat) (w : World) (e : Ending) (w' : World) : Prop := Below w.heap.size w w' ∧ e = .returned (.int .i64 (cmpN a b))
theorem PCn.ret {a b : Nat} {w w' : World} {n : Int} (hb : Below w.heap.size w w') (h : n = cmpN a b) : PCn a b w (.returned (.int .i64 n)) w' := ⟨hb, by rw [h]⟩
set_option maxRecDepth 100000 in
theorem compare_any (va vb : Value) (a b : Nat) (w : World) (ha : Dg w va a) (hb : Dg w vb b) : Calls Tryz.prog 117 #[va, vb] w (PCn a b w) := by
  have HA := Lib.hid ha; have HB := Lib.hid hb
  rcases ha with ⟨hn, rfl⟩ | ⟨ba, sva, wsa, rfl, a2, a3, a4, a5, a6, a7⟩
  · rcases hb with ⟨hm, rfl⟩ | ⟨bb, svb, wsb, rfl, b2, b3, b4, b5, b6, b7⟩
    · clear hn hm HA HB
      rcases Nat.lt_trichotomy a b with h | h | h
      · have g1 : ((a : Int) == (b : Int)) = false := by rw [beq_eq_false_iff_ne]; omega
        have g2 : decide (b < a) = false := by simp; omega
        go_enter Tryz.func117, Tryz.ntmps117
        go_wp2_with (first | (go_at_call 123; refine (isSmall_small _ _).mono ?_; rintro e w1 ⟨rfl, rfl⟩) | (go_at_call 90; refine (signOf_f _).mono ?_; rintro e w1 ⟨rfl, rfl⟩))
        go_ret
        exact PCn.ret (Below.thru (bl2 _ _ _) (by simp; omega) (bl2 _ _ _)) (cmpN_lt h).symm
      · subst h
        go_enter Tryz.func117, Tryz.ntmps117
        go_wp2_with (first | (go_at_call 123; refine (isSmall_small _ _).mono ?_; rintro e w1 ⟨rfl, rfl⟩))
        go_ret
        exact PCn.ret (Below.thru (bl2 _ _ _) (by simp; omega) (bl2 _ _ _)) (cmpN_eq rfl).symm
      · have g1 : ((a : Int) == (b : Int)) = false := by rw [beq_eq_false_iff_ne]; omega
        have g2 : decide (b < a) = true := by simp; omega
        go_enter Tryz.func117, Tryz.ntmps117
        go_wp2_with (first | (go_at_call 123; refine (isSmall_small _ _).mono ?_; rintro e w1 ⟨rfl, rfl⟩) | (go_at_call 90; refine (signOf_t _).mono ?_; rintro e w1 ⟨rfl, rfl⟩))
        go_ret
        exact PCn.ret (Below.thru (bl2 _ _ _) (by simp; omega) (bl2 _ _ _)) (cmpN_gt h).symm
    · clear b2 b3 b4 b5 b6 b7 hn
      go_enter Tryz.func117, Tryz.ntmps117
      go_wp2_with (go_at_call 123; first | ((with_reducible refine (isSmall_small _ _).mono ?_); rintro e w1 ⟨rfl, rfl⟩) | ((with_reducible refine (isSmall_big _ _ _).mono ?_); rintro e w1 ⟨rfl, rfl⟩))
      generalize hW : World.alloc _ (Obj.cells #[Value.int IntKind.u64 0, Value.pointer (some ⟨bb, 0, none⟩)] 26) = W
      have f1 : Below w.heap.size w W := by rw [← hW]; exact Below.thru (bl2 _ _ _) (by simp; omega) (bl2 _ _ _)
      have f2 : W.heap.size = w.heap.size + 4 := by rw [← hW]; simp
      have f3 : Bx w.heap.size (.int .u64 (a : Int)) (.pointer none) (.int .u64 0) (.pointer (some ⟨bb, 0, none⟩)) W := by
        rw [← hW]; refine ⟨?_, ?_, ?_, ?_⟩ <;> simp [go_sem, World.cell?_alloc_past]
      clear hW
      have f3 : Bx w.heap.size (.int .u64 (a : Int)) (.pointer none) (.int .u64 0) (.pointer (some ⟨bb, 0, none⟩)) W.drew := f3
      have f1 : Below w.heap.size w W.drew := f1.drew
      have f2 : w.heap.size + 2 ≤ W.drew.heap.size := by show _ ≤ W.heap.size; omega
      go_region_held3 (fun w' => w'.cell? ⟨w.heap.size, 0, none⟩ = some (.int .u64 (a : Int)) ∧ w'.cell? ⟨w.heap.size, 1, none⟩ = some (.pointer none) ∧ w'.cell? ⟨w.heap.size + 1, 0, none⟩ = some (.int .u64 0) ∧ w'.cell? ⟨w.heap.size + 1, 1, none⟩ = some (.pointer (some ⟨bb, 0, none⟩)))
        (first | exact d3 | exact d2 | exact d1 | exact f3)
        (first
          | (go_at_call 133; (with_reducible refine (words_any (.agg #[.int .u64 (a : Int), .pointer none]) a W.drew (HA.out.keep (B := w.heap.size) f1 (Nat.le_refl _))).mono ?_); rintro e w1 ⟨hb1, v1, ws1, rfl, hs1, hn1, hv1⟩
             have d1 := Bx.keep f3 hb1 (by omega); have k1 := Below.thru f1 f1.size hb1; have z1 : w.heap.size + 2 ≤ w1.heap.size := Nat.le_trans f2 hb1.size)
          | (go_at_call 133; (with_reducible refine (words_any (.agg #[.int .u64 0, .pointer (some ⟨bb, 0, none⟩)]) b w1 (HB.out.keep (B := w.heap.size) k1 (Nat.le_refl _))).mono ?_); rintro e w2 ⟨hb2, v2, ws2, rfl, hs2, hn2, hv2⟩
             have d2 := Bx.keep d1 hb2 (by omega); have k2 := Below.thru k1 k1.size hb2; have z2 : w.heap.size + 2 ≤ w2.heap.size := Nat.le_trans z1 hb2.size)
          | (go_at_call 138; (with_reducible refine (compareWords_any v1 v2 ws1 ws2 w2 (hs1.keep hb2 (Nat.le_refl _)) hs2 hn1 hn2).mono ?_); rintro e w3 ⟨hb3, rfl⟩
             have d3 := Bx.keep d2 hb3 (by omega); have k3 := Below.thru k2 k2.size hb3))
      go_wp2
      go_ret
      exact PCn.ret k3 rfl

  · obtain ⟨xb, pb, rfl⟩ := hb.agg
    clear hb a2 a3 a4 a5 a6 a7
    go_enter Tryz.func117, Tryz.ntmps117
    go_wp2_with (go_at_call 123; refine (isSmall_big _ _ _).mono ?_; rintro e w1 ⟨rfl, rfl⟩)
    generalize hW : World.alloc _ (Obj.cells #[Value.int IntKind.u64 0, Value.pointer (some ⟨ba, 0, none⟩)] 26) = W
    have f1 : Below w.heap.size w W := by rw [← hW]; exact bl3 _ _ _ _
    have f2 : W.heap.size = w.heap.size + 3 := by rw [← hW]; simp
    have f3 : Bx w.heap.size (.int .u64 0) (.pointer (some ⟨ba, 0, none⟩)) (.int .u64 xb) (.pointer pb) W := by
      rw [← hW]; refine ⟨?_, ?_, ?_, ?_⟩ <;> simp [go_sem, World.cell?_alloc_past]
    clear hW
    have f3 : Bx w.heap.size (.int .u64 0) (.pointer (some ⟨ba, 0, none⟩)) (.int .u64 xb) (.pointer pb) W.drew := f3
    have f1 : Below w.heap.size w W.drew := f1.drew
    have f2 : w.heap.size + 2 ≤ W.drew.heap.size := by show _ ≤ W.heap.size; omega
    go_region_held3 (fun w' => w'.cell? ⟨w.heap.size, 0, none⟩ = some (.int .u64 0) ∧ w'.cell? ⟨w.heap.size, 1, none⟩ = some (.pointer (some ⟨ba, 0, none⟩)) ∧ w'.cell? ⟨w.heap.size + 1, 0, none⟩ = some (.int .u64 xb) ∧ w'.cell? ⟨w.heap.size + 1, 1, none⟩ = some (.pointer pb))
      (first | exact d3 | exact d2 | exact d1 | exact f3)
      (first
        | (go_at_call 133; (with_reducible refine (words_any (.agg #[.int .u64 0, .pointer (some ⟨ba, 0, none⟩)]) a W.drew (HA.out.keep (B := w.heap.size) f1 (Nat.le_refl _))).mono ?_); rintro e w1 ⟨hb1, v1, ws1, rfl, hs1, hn1, hv1⟩
           have d1 := Bx.keep f3 hb1 (by omega); have k1 := Below.thru f1 f1.size hb1; have z1 : w.heap.size + 2 ≤ w1.heap.size := Nat.le_trans f2 hb1.size)
        | (go_at_call 133; (with_reducible refine (words_any (.agg #[.int .u64 xb, .pointer pb]) b w1 (HB.out.keep (B := w.heap.size) k1 (Nat.le_refl _))).mono ?_); rintro e w2 ⟨hb2, v2, ws2, rfl, hs2, hn2, hv2⟩
           have d2 := Bx.keep d1 hb2 (by omega); have k2 := Below.thru k1 k1.size hb2; have z2 : w.heap.size + 2 ≤ w2.heap.size := Nat.le_trans z1 hb2.size)
        | (go_at_call 138; (with_reducible refine (compareWords_any v1 v2 ws1 ws2 w2 (hs1.keep hb2 (Nat.le_refl _)) hs2 hn1 hn2).mono ?_); rintro e w3 ⟨hb3, rfl⟩
           have d3 := Bx.keep d2 hb3 (by omega); have k3 := Below.thru k2 k2.size hb3))
    go_wp2
    go_ret
    exact PCn.ret k3 rfl

/-! signed integers -/
/-- v is a Z value that stands for z -/
def Zr (w : World) (v : Value) (z : Int) : Prop :=
  ∃ (s : Bool) (x : Int) (p : Option Addr) (n : Nat), v = .agg #[.bool s, .int .u64 x, .pointer p] ∧ Dg w (.agg #[.int .u64 x, .pointer p]) n ∧ (s = true → n ≠ 0) ∧ z = if s then -(n : Int) else (n : Int)
def PZ (z : Int) (w : World) (e : Ending) (w' : World) : Prop := Below w.heap.size w w' ∧ ∃ v, e = .returned v ∧ Zr w' v z
theorem Zr.keep {w w' : World} {v : Value} {z : Int} {B : Nat} (h : Zr w v z) (hb : Below B w w') (hB : w.heap.size ≤ B) : Zr w' v z := by
  obtain ⟨s, x, p, n, h1, h2, h3, h4⟩ := h
  exact ⟨s, x, p, n, h1, h2.keep hb hB, h3, h4⟩
theorem Zr.store {w w' : World} {v : Value} {z : Int} {T : Nat} (h : Zr w v z) (hT : Odd T w) (hg : w.grownBy w' (some T)) : Zr w' v z := by
  obtain ⟨s, x, p, n, h1, h2, h3, h4⟩ := h
  exact ⟨s, x, p, n, h1, h2.store hT hg, h3, h4⟩
theorem three_cells {w : World} {T : Nat} {p q r : Value} (h1 : w.cell? ⟨T, 0, none⟩ = some p) (h2 : w.cell? ⟨T, 1, none⟩ = some q) (h3 : w.cell? ⟨T, 2, none⟩ = some r) (u v z : Value) :
    (((w.setCell ⟨T, 0, none⟩ u).setCell ⟨T, 1, none⟩ v).setCell ⟨T, 2, none⟩ z).cell? ⟨T, 0, none⟩ = some u ∧ (((w.setCell ⟨T, 0, none⟩ u).setCell ⟨T, 1, none⟩ v).setCell ⟨T, 2, none⟩ z).cell? ⟨T, 1, none⟩ = some v ∧ (((w.setCell ⟨T, 0, none⟩ u).setCell ⟨T, 1, none⟩ v).setCell ⟨T, 2, none⟩ z).cell? ⟨T, 2, none⟩ = some z := by
  obtain ⟨e1, e2⟩ := two_cells h1 h2 u v
  have e3 : ((w.setCell ⟨T, 0, none⟩ u).setCell ⟨T, 1, none⟩ v).cell? ⟨T, 2, none⟩ = some r := by
    rw [World.cell?_setCell_other _ _ _ _ (by simp), World.cell?_setCell_other _ _ _ _ (by simp)]; exact h3
  exact ⟨by rw [World.cell?_setCell_other _ _ _ _ (by simp)]; exact e1, by rw [World.cell?_setCell_other _ _ _ _ (by simp)]; exact e2, World.cell?_setCell_same' _ _ _ (by rw [e3]; rfl)⟩

theorem signed_f (x : Int) (p : Option Addr) (n : Nat) (w : World) (h : Dg w (.agg #[.int .u64 x, .pointer p]) n) : Calls Tryz.prog 87 #[.agg #[.int .u64 x, .pointer p], .bool false] w (PZ (n : Int) w) := by
  have H := Lib.hid h
  clear h
  go_enter Tryz.func87, Tryz.ntmps87
  go_wp2
  go_region
  go_wp2
  refine bodyPost_ret (v := .agg #[.bool false, .int .u64 x, .pointer p]) (by simp [results, Tryz.results87, go_sem]) rfl ⟨?_, _, rfl, false, x, p, n, rfl, H.out.keep (B := w.heap.size) ?_ (Nat.le_refl _), by simp, by simp⟩
  · exact (bl2 _ _ _).drew
  · exact (bl2 _ _ _).drew
theorem signed_t (x : Int) (p : Option Addr) (n : Nat) (w : World) (h : Dg w (.agg #[.int .u64 x, .pointer p]) n) : Calls Tryz.prog 87 #[.agg #[.int .u64 x, .pointer p], .bool true] w (PZ (-(n : Int)) w) := by
  have H := Lib.hid h
  clear h
  by_cases hz : n = 0
  · have hd : decide (n = 0) = true := by simp [hz]
    have HZ := Lib.hid hz
    clear hz
    go_enter Tryz.func87, Tryz.ntmps87
    go_wp2
    go_region_held3 (fun w' => w'.cell? ⟨w.heap.size, 0, none⟩ = some (.int .u64 x) ∧ w'.cell? ⟨w.heap.size, 1, none⟩ = some (.pointer p))
      (first | go_keep | (simp [go_sem, World.cell?_alloc_past]; done))
      (first | (go_at_call 89; (with_reducible refine (isZero_any _ (H.out.keep (B := w.heap.size) (bl2 _ _ _).drew (Nat.le_refl _))).mono ?_); rintro e w1 ⟨rfl, c1, t1, rfl⟩))
    go_wp2
    refine bodyPost_ret (v := .agg #[.bool false, .int .u64 x, .pointer p]) (by simp [results, Tryz.results87, go_sem]) rfl ⟨?_, _, rfl, false, x, p, n, rfl, H.out.keep (B := w.heap.size) ?_ (Nat.le_refl _), by simp, by rw [HZ.out]; simp⟩
    · exact Below.thru (bl2 _ _ _) (by simp; omega) (bl2 _ _ _).drew
    · exact Below.thru (bl2 _ _ _) (by simp; omega) (bl2 _ _ _).drew
  · have hd : decide (n = 0) = false := by simp [hz]
    have HZ := Lib.hid hz
    clear hz
    go_enter Tryz.func87, Tryz.ntmps87
    go_wp2
    go_region_held3 (fun w' => w'.cell? ⟨w.heap.size, 0, none⟩ = some (.int .u64 x) ∧ w'.cell? ⟨w.heap.size, 1, none⟩ = some (.pointer p))
      (first | go_keep | (simp [go_sem, World.cell?_alloc_past]; done))
      (first | (go_at_call 89; (with_reducible refine (isZero_any _ (H.out.keep (B := w.heap.size) (bl2 _ _ _).drew (Nat.le_refl _))).mono ?_); rintro e w1 ⟨rfl, c1, t1, rfl⟩))
    go_wp2
    refine bodyPost_ret (v := .agg #[.bool true, .int .u64 x, .pointer p]) (by simp [results, Tryz.results87, go_sem]) rfl ⟨?_, _, rfl, true, x, p, n, rfl, H.out.keep (B := w.heap.size) ?_ (Nat.le_refl _), fun _ => HZ.out, by simp⟩
    · exact Below.thru (bl2 _ _ _) (by simp; omega) (bl2 _ _ _).drew
    · exact Below.thru (bl2 _ _ _) (by simp; omega) (bl2 _ _ _).drew
/-- signed, both signs -/
theorem signed_any (v : Value) (n : Nat) (s : Bool) (w : World) (h : Dg w v n) : Calls Tryz.prog 87 #[v, .bool s] w (PZ (if s then -(n : Int) else (n : Int)) w) := by
  obtain ⟨x, p, rfl⟩ := h.agg
  cases s with
  | false => exact signed_f x p n w h
  | true => exact signed_t x p n w h
theorem Zr.dg {w : World} {v : Value} {z : Int} (h : Zr w v z) : ∃ (s : Bool) (x : Int) (p : Option Addr), v = .agg #[.bool s, .int .u64 x, .pointer p] ∧ Dg w (.agg #[.int .u64 x, .pointer p]) z.natAbs ∧ (s = true → z < 0) ∧ (s = false → 0 ≤ z) := by
  obtain ⟨s, x, p, n, h1, h2, h3, h4⟩ := h
  cases s with
  | false => refine ⟨_, x, p, h1, h2.cast ?_, by simp, fun _ => ?_⟩ <;> simp at h4 <;> omega
  | true =>
    have := h3 rfl
    refine ⟨_, x, p, h1, h2.cast ?_, fun _ => ?_, by simp⟩ <;> simp at h4 <;> omega
theorem Zr.cast {w : World} {v : Value} {y z : Int} (h : Zr w v y) (e : y = z) : Zr w v z := e ▸ h
/-- the three cells of a boxed Z at B -/
def B3 (B : Nat) (s : Bool) (x : Int) (p : Option Addr) (w : World) : Prop := w.cell? ⟨B, 0, none⟩ = some (.bool s) ∧ w.cell? ⟨B, 1, none⟩ = some (.int .u64 x) ∧ w.cell? ⟨B, 2, none⟩ = some (.pointer p)
theorem B3.keep {B C : Nat} {s : Bool} {x : Int} {p : Option Addr} {w w' : World} (h : B3 B s x p w) (hb : Below C w w') (hB : B < C) : B3 B s x p w' :=
  ⟨(hb.cell (p := ⟨B, 0, none⟩) hB).trans h.1, (hb.cell (p := ⟨B, 1, none⟩) hB).trans h.2.1, (hb.cell (p := ⟨B, 2, none⟩) hB).trans h.2.2⟩
theorem B3.stored {B T : Nat} {s : Bool} {x : Int} {p : Option Addr} {w : World} (h : B3 B s x p w) (hB : B < T) (u v z : Value) : B3 B s x p (((w.setCell ⟨T, 0, none⟩ u).setCell ⟨T, 1, none⟩ v).setCell ⟨T, 2, none⟩ z) :=
  h.keep (C := T) ((((Below.refl _ _).setCell (by simp) _).setCell (by simp) _).setCell (by simp) _) hB
theorem neg_any (v : Value) (z : Int) (w : World) (h : Zr w v z) : Calls Tryz.prog 81 #[v] w (PZ (-z) w) := by
  obtain ⟨s, x, p, rfl, hd, h1, h2⟩ := h.dg
  have H := Lib.hid hd
  clear hd h
  have H1 := Lib.hid h1; have H2 := Lib.hid h2
  clear h1 h2
  go_enter Tryz.func81, Tryz.ntmps81
  go_wp2_with fail
  refine (signed_any _ z.natAbs (!s) _ (H.out.keep (bl2 _ _ _) (Nat.le_refl _))).mono ?_
  rintro e w1 ⟨hb1, v1, rfl, hz1⟩
  obtain ⟨s1, x1, p1, n1, rfl, hd1, h3, h4⟩ := hz1
  have r0 : Rz (w.heap.size + 1) w1 := (rz_new _ (by simp)).keep hb1 (by simp)
  obtain ⟨sq, xq, pq, m1, m2, m3, m4, m5, m6⟩ := r0.cells
  obtain ⟨g1, g2, g3⟩ := three_cells m1 m2 m3 (.bool s1) (.int .u64 x1) (.pointer p1)
  have H4 := Lib.hid h4
  clear h4
  go_wp2
  refine bodyPost_ret (v := .agg #[.bool s1, .int .u64 x1, .pointer p1]) (by simp [results, Tryz.results81, go_sem, g1, g2, g3]) rfl ⟨(((Below.thru (bl2 _ _ _) (by simp; omega) hb1).setCell (by simp) _).setCell (by simp) _).setCell (by simp) _, _, rfl, Zr.store ⟨s1, x1, p1, n1, rfl, hd1, h3, ?_⟩ r0.odd (grown3 _ _ _ _ _ _ _ _)⟩
  have h4 := H4.out
  have h1 := H1.out; have h2 := H2.out
  rw [← h4]
  cases s <;> simp at h1 h2 ⊢ <;> omega
end Go.Proofs.YtjjomjjgoceklaaGreat
namespace Go.Proofs.YtjjomjjgoceklaaGreat
set_option maxRecDepth 100000
open Go.RowKit

theorem abs_any (v : Value) (z : Int) (w : World) (h : Zr w v z) : Calls Tryz.prog 113 #[v] w (PZ (z.natAbs : Int) w) := by
  obtain ⟨s, x, p, rfl, hd, h1, h2⟩ := h.dg
  have H := Lib.hid hd
  clear hd h h1 h2
  go_enter Tryz.func113, Tryz.ntmps113
  go_wp2
  exact bodyPost_ret (v := .agg #[.bool false, .int .u64 x, .pointer p]) (by simp [results, Tryz.results113, go_sem]) rfl ⟨bl2 _ _ _, _, rfl, false, x, p, z.natAbs, rfl, H.out.keep (bl2 _ _ _) (Nat.le_refl _), by simp, by simp⟩
theorem isZero_yes {v : Value} {n : Nat} (w : World) (h : Dg w v n) (hn : n = 0) : Calls Tryz.prog 89 #[v] w fun e w' => e = .returned (.bool true) ∧ ∃ c t, w' = (w.alloc (.cells c t)).alloc (.cells c t) :=
  (isZero_any w h).mono fun e w' ⟨h1, h2⟩ => ⟨by rw [h1, hn]; rfl, h2⟩
theorem isZero_no {v : Value} {n : Nat} (w : World) (h : Dg w v n) (hn : n ≠ 0) : Calls Tryz.prog 89 #[v] w fun e w' => e = .returned (.bool false) ∧ ∃ c t, w' = (w.alloc (.cells c t)).alloc (.cells c t) :=
  (isZero_any w h).mono fun e w' ⟨h1, h2⟩ => ⟨by rw [h1]; simp [hn], h2⟩
theorem i64_u64 (n : Int) (h1 : 0 ≤ n) (h2 : n ≤ 9223372036854775807) : IntKind.u64.wrap n = n := by
  rw [IntKind.wrap_u64]; omega
theorem i64_neg_u64 (n : Int) (h1 : n < 0) (h2 : -9223372036854775808 ≤ n) : IntKind.u64.wrap (wrap64 (-n)) = -n := by
  rw [IntKind.wrap_u64]; unfold wrap64; omega
/-- n is an int64 -/
def I64 (n : Int) : Prop := -9223372036854775808 ≤ n ∧ n ≤ 9223372036854775807
theorem int_any (n : Int) (w : World) (h : I64 n) : Calls Tryz.prog 78 #[.int .i64 n] w (PZ n w) := by
  by_cases hn : n < 0
  · have e := i64_neg_u64 n hn h.1
    obtain ⟨m, hm⟩ : ∃ m : Nat, (m : Int) = -n := ⟨n.natAbs, by omega⟩
    have hw : Wd m := by have := h.1; unfold Wd WB; omega
    obtain rfl : n = -(m : Int) := by omega
    rw [Int.neg_neg] at e
    clear h hm
    go_enter Tryz.func78, Tryz.ntmps78
    go_wp2
    exact bodyPost_ret (v := .agg #[.bool true, .int .u64 m, .pointer none]) (by simp [results, Tryz.results78, go_sem]) rfl ⟨bl1 _ _, _, rfl, true, m, none, m, rfl, .inl ⟨hw, rfl⟩, fun _ => by omega, by simp⟩
  · have e := i64_u64 n (by omega) h.2
    obtain ⟨m, rfl⟩ : ∃ m : Nat, n = (m : Int) := ⟨n.natAbs, by omega⟩
    have hw : Wd m := by have := h.2; unfold Wd WB; omega
    clear h
    go_enter Tryz.func78, Tryz.ntmps78
    go_wp2
    exact bodyPost_ret (v := .agg #[.bool false, .int .u64 m, .pointer none]) (by simp [results, Tryz.results78, go_sem]) rfl ⟨bl1 _ _, _, rfl, false, m, none, m, rfl, .inl ⟨hw, rfl⟩, by simp, by simp⟩
theorem sign_any (v : Value) (z : Int) (w : World) (h : Zr w v z) : Calls Tryz.prog 14 #[v] w fun e w' => Below w.heap.size w w' ∧ e = .returned (.int .i64 z.sign) := by
  obtain ⟨s, x, p, rfl, hd, h1, h2⟩ := h.dg
  have H := Lib.hid hd
  clear hd h
  by_cases hz : z = 0
  · have hq : z.natAbs = 0 := by omega
    have HQ := Lib.hid hq
    clear hq
    have HZ := Lib.hid hz
    clear h1 h2 hz
    go_enter Tryz.func14, Tryz.ntmps14
    go_wp2_with (go_at_call 89; refine (isZero_yes _ (H.out.keep (bl1 _ _) (Nat.le_refl _)) HQ.out).mono ?_; rintro e w1 ⟨rfl, c1, t1, rfl⟩)
    go_ret
    exact ⟨bl3 _ _ _ _, by rw [HZ.out]; rfl⟩
  · have hq : z.natAbs ≠ 0 := by omega
    have HQ := Lib.hid hq
    clear hq
    cases s with
    | false =>
      have hp : 0 < z := by have := h2 rfl; omega
      have HP := Lib.hid hp
      clear h1 h2 hz hp
      go_enter Tryz.func14, Tryz.ntmps14
      go_wp2_with (first | (go_at_call 89; refine (isZero_no _ (H.out.keep (bl1 _ _) (Nat.le_refl _)) HQ.out).mono ?_; rintro e w1 ⟨rfl, c1, t1, rfl⟩) | (go_at_call 90; refine (signOf_t _).mono ?_; rintro e w1 ⟨rfl, rfl⟩))
      go_ret
      exact ⟨bl3 _ _ _ _, by rw [Int.sign_eq_one_of_pos HP.out]; rfl⟩
    | true =>
      have hp := h1 rfl
      have HP := Lib.hid hp
      clear h1 h2 hz hp
      go_enter Tryz.func14, Tryz.ntmps14
      go_wp2_with (first | (go_at_call 89; refine (isZero_no _ (H.out.keep (bl1 _ _) (Nat.le_refl _)) HQ.out).mono ?_; rintro e w1 ⟨rfl, c1, t1, rfl⟩) | (go_at_call 90; refine (signOf_f _).mono ?_; rintro e w1 ⟨rfl, rfl⟩))
      go_ret
      exact ⟨bl3 _ _ _ _, by rw [Int.sign_eq_neg_one_of_neg HP.out]; rfl⟩
end Go.Proofs.YtjjomjjgoceklaaGreat
