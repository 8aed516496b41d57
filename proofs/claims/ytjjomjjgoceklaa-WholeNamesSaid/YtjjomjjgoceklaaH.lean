import Derived.Test.YtjjomjjgoceklaaG
namespace Go.Proofs.Ytjjomjjgoceklaa
open Go.RowKit

theorem wrap_sub (a b : Nat) (ha : Wd a) (h : b ≤ a) : IntKind.u64.wrap ((a : Int) - (b : Int)) = ((a - b : Nat) : Int) := by
  unfold Wd WB at ha; rw [IntKind.wrap_u64]; omega
theorem len_of_val {a b : List Nat} (_wb : Wds b) (_na : Nrm a) (nb : Nrm b) (wa : Wds a) (h : val b ≤ val a) : b.length ≤ a.length := by
  rcases Nat.lt_or_ge a.length b.length with h1 | h1
  · have := val_len_lt wa nb h1; omega
  · exact h1
set_option maxRecDepth 100000 in
theorem minus_any (va vb : Value) (a b : Nat) (w : World) (ha : Dg w va a) (hb : Dg w vb b) (la : Sz a) (lb : Sz b) (hle : b ≤ a) : Calls Try.prog 54 #[va, vb] w (PDg (a - b) w) := by
  have HA := Lib.hid ha; have HB := Lib.hid hb
  have HLE := Lib.hid hle
  clear hle
  rcases ha with ⟨hn, rfl⟩ | ⟨ba, sva, wsa, rfl, a2, a3, a4, a5, a6, a7⟩
  · rcases hb with ⟨hm, rfl⟩ | ⟨bb, svb, wsb, rfl, b2, b3, b4, b5, b6, b7⟩
    · obtain ⟨d, hd⟩ : ∃ d : Nat, d = a - b := ⟨_, rfl⟩
      have hw : IntKind.u64.wrap ((a : Int) - (b : Int)) = (d : Int) := by rw [hd]; exact wrap_sub a b hn HLE.out
      have HD := Lib.hid hd
      have hdw : Wd d := by rw [hd]; unfold Wd at hn ⊢; omega
      clear hd
      go_enter Try.func54, Try.ntmps54
      go_wp2_with (go_at_call 47; refine (isSmall_small _ _).mono ?_; rintro e w1 ⟨rfl, rfl⟩)
      exact bodyPost_ret (v := .agg #[.int .u64 d, .pointer none]) (by simp [results, Try.results54, go_sem]) rfl ⟨Below.thru (bl3 _ _ _ _) (by simp; omega) (bl2 _ _ _), _, rfl, .inl ⟨by rw [← HD.out]; exact hdw, by rw [← HD.out]⟩⟩
    · clear b2 b3 b4 b5 b6 b7
      go_enter Try.func54, Try.ntmps54
      go_wp2_with (go_at_call 47; first | ((with_reducible refine (isSmall_small _ _).mono ?_); rintro e w1 ⟨rfl, rfl⟩) | ((with_reducible refine (isSmall_big _ _ _).mono ?_); rintro e w1 ⟨rfl, rfl⟩))
      clear hn
      generalize hW : World.alloc _ (Obj.cells #[Value.int IntKind.u64 0, Value.pointer (some ⟨bb, 0, none⟩)] 27) = W
      have f1 : Below w.heap.size w W := by rw [← hW]; exact Below.thru (bl3 _ _ _ _) (by simp; omega) (bl2 _ _ _)
      have f2 : W.heap.size = w.heap.size + 5 := by rw [← hW]; simp
      have f3 : Bx w.heap.size (.int .u64 (a : Int)) (.pointer none) (.int .u64 0) (.pointer (some ⟨bb, 0, none⟩)) W := by
        rw [← hW]; refine ⟨?_, ?_, ?_, ?_⟩ <;> simp [go_sem, World.cell?_alloc_past]
      have f4 : Rs (w.heap.size + 1 + 1) W := by
        rw [← hW]; exact (((rs_new _ (by simp)).alloc _).alloc _)
      clear hW
      have f3 : Bx w.heap.size (.int .u64 (a : Int)) (.pointer none) (.int .u64 0) (.pointer (some ⟨bb, 0, none⟩)) W.drew := f3
      have f4 : Rs (w.heap.size + 1 + 1) W.drew := f4
      have f1 : Below w.heap.size w W.drew := f1.drew
      have f2 : w.heap.size + 3 ≤ W.drew.heap.size := by show _ ≤ W.heap.size; omega
      go_region_held3 (fun w' => w'.cell? ⟨w.heap.size, 0, none⟩ = some (.int .u64 (a : Int)) ∧ w'.cell? ⟨w.heap.size, 1, none⟩ = some (.pointer none) ∧ w'.cell? ⟨w.heap.size + 1, 0, none⟩ = some (.int .u64 0) ∧ w'.cell? ⟨w.heap.size + 1, 1, none⟩ = some (.pointer (some ⟨bb, 0, none⟩)))
        (first | exact Bx.store2 d4 _ _ | exact d4 | exact d3 | exact d2 | exact d1 | exact f3)
        (first
          | (go_at_call 81; (with_reducible refine (words_any (.agg #[.int .u64 (a : Int), .pointer none]) a W.drew (HA.out.keep (B := w.heap.size) f1 (Nat.le_refl _))).mono ?_); rintro e w1 ⟨hb1, v1, ws1, rfl, hs1, hn1, hv1⟩
             have d1 := Bx.keep f3 hb1 (by omega); have r1 := Rs.keep f4 hb1 (by omega); have k1 := Below.thru f1 f1.size hb1; have z1 : w.heap.size + 3 ≤ w1.heap.size := Nat.le_trans f2 hb1.size)
          | (go_at_call 81; (with_reducible refine (words_any (.agg #[.int .u64 0, .pointer (some ⟨bb, 0, none⟩)]) b w1 (HB.out.keep (B := w.heap.size) k1 (Nat.le_refl _))).mono ?_); rintro e w2 ⟨hb2, v2, ws2, rfl, hs2, hn2, hv2⟩
             have d2 := Bx.keep d1 hb2 (by omega); have r2 := Rs.keep r1 hb2 (by omega); have k2 := Below.thru k1 k1.size hb2; have z2 : w.heap.size + 3 ≤ w2.heap.size := Nat.le_trans z1 hb2.size)
          | (go_at_call 83; have q2 : val ws2 ≤ val ws1 := (by rw [hv1, hv2]; exact HLE.out); have q3 := len_of_val hs2.1 hn1 hn2 hs1.1 q2; (with_reducible refine (subtractWords_any v1 v2 ws1 ws2 w2 (hs1.keep hb2 (Nat.le_refl _)) hs2 (Nat.le_trans (la.len hn1 hv1) (by omega)) (Nat.le_trans (lb.len hn2 hv2) (by omega)) q3 q2).mono ?_); rintro e w3 ⟨ws3, hw3, hv3, hb3, v3, rfl, hs3⟩
             have d3 := Bx.keep d2 hb3 (by omega); have r3 := Rs.keep r2 hb3 (by omega); have k3 := Below.thru k2 k2.size hb3; have z3 : w.heap.size + 3 ≤ w3.heap.size := Nat.le_trans z2 hb3.size)
          | (go_at_call 79; (with_reducible refine (digitsOf_any v3 (norm ws3) w3 hs3 (norm_nrm _)).mono ?_); rintro e w4 ⟨hb4, v4, rfl, hs4⟩
             have d4 := Bx.keep d3 hb4 (by omega); have r4 := Rs.keep r3 hb4 (by omega); obtain ⟨p4, q4, m1, m2, m3, m4⟩ := r4.cells; obtain ⟨x4, y4, rfl⟩ := hs4.agg; have k4 := Below.thru k3 k3.size hb4; have z4 : w.heap.size + 3 ≤ w4.heap.size := Nat.le_trans z3 hb4.size))
      obtain ⟨n1, n2⟩ := two_cells m1 m2 (.int .u64 x4) (.pointer y4)
      go_wp2
      exact bodyPost_ret (v := .agg #[.int .u64 x4, .pointer y4]) (by simp [results, Try.results54, go_sem, n1, n2]) rfl ⟨(k4.setCell (by simp; omega) _).setCell (by simp; omega) _, _, rfl, (hs4.store r4.odd (grown2 _ _ _ _ _ _)).cast (by rw [val_norm, hv3, hv1, hv2])⟩

  · obtain ⟨xb, pb, rfl⟩ := hb.agg
    clear hb a2 a3 a4 a5 a6 a7
    go_enter Try.func54, Try.ntmps54
    go_wp2_with (go_at_call 47; refine (isSmall_big _ _ _).mono ?_; rintro e w1 ⟨rfl, rfl⟩)
    skip
    generalize hW : World.alloc _ (Obj.cells #[Value.int IntKind.u64 0, Value.pointer (some ⟨ba, 0, none⟩)] 27) = W
    have f1 : Below w.heap.size w W := by rw [← hW]; exact Below.thru (bl3 _ _ _ _) (by simp; omega) (bl1 _ _)
    have f2 : W.heap.size = w.heap.size + 4 := by rw [← hW]; simp
    have f3 : Bx w.heap.size (.int .u64 0) (.pointer (some ⟨ba, 0, none⟩)) (.int .u64 xb) (.pointer pb) W := by
      rw [← hW]; refine ⟨?_, ?_, ?_, ?_⟩ <;> simp [go_sem, World.cell?_alloc_past]
    have f4 : Rs (w.heap.size + 1 + 1) W := by
      rw [← hW]; exact ((rs_new _ (by simp)).alloc _)
    clear hW
    have f3 : Bx w.heap.size (.int .u64 0) (.pointer (some ⟨ba, 0, none⟩)) (.int .u64 xb) (.pointer pb) W.drew := f3
    have f4 : Rs (w.heap.size + 1 + 1) W.drew := f4
    have f1 : Below w.heap.size w W.drew := f1.drew
    have f2 : w.heap.size + 3 ≤ W.drew.heap.size := by show _ ≤ W.heap.size; omega
    go_region_held3 (fun w' => w'.cell? ⟨w.heap.size, 0, none⟩ = some (.int .u64 0) ∧ w'.cell? ⟨w.heap.size, 1, none⟩ = some (.pointer (some ⟨ba, 0, none⟩)) ∧ w'.cell? ⟨w.heap.size + 1, 0, none⟩ = some (.int .u64 xb) ∧ w'.cell? ⟨w.heap.size + 1, 1, none⟩ = some (.pointer pb))
      (first | exact Bx.store2 d4 _ _ | exact d4 | exact d3 | exact d2 | exact d1 | exact f3)
      (first
        | (go_at_call 81; (with_reducible refine (words_any (.agg #[.int .u64 0, .pointer (some ⟨ba, 0, none⟩)]) a W.drew (HA.out.keep (B := w.heap.size) f1 (Nat.le_refl _))).mono ?_); rintro e w1 ⟨hb1, v1, ws1, rfl, hs1, hn1, hv1⟩
           have d1 := Bx.keep f3 hb1 (by omega); have r1 := Rs.keep f4 hb1 (by omega); have k1 := Below.thru f1 f1.size hb1; have z1 : w.heap.size + 3 ≤ w1.heap.size := Nat.le_trans f2 hb1.size)
        | (go_at_call 81; (with_reducible refine (words_any (.agg #[.int .u64 xb, .pointer pb]) b w1 (HB.out.keep (B := w.heap.size) k1 (Nat.le_refl _))).mono ?_); rintro e w2 ⟨hb2, v2, ws2, rfl, hs2, hn2, hv2⟩
           have d2 := Bx.keep d1 hb2 (by omega); have r2 := Rs.keep r1 hb2 (by omega); have k2 := Below.thru k1 k1.size hb2; have z2 : w.heap.size + 3 ≤ w2.heap.size := Nat.le_trans z1 hb2.size)
        | (go_at_call 83; have q2 : val ws2 ≤ val ws1 := (by rw [hv1, hv2]; exact HLE.out); have q3 := len_of_val hs2.1 hn1 hn2 hs1.1 q2; (with_reducible refine (subtractWords_any v1 v2 ws1 ws2 w2 (hs1.keep hb2 (Nat.le_refl _)) hs2 (Nat.le_trans (la.len hn1 hv1) (by omega)) (Nat.le_trans (lb.len hn2 hv2) (by omega)) q3 q2).mono ?_); rintro e w3 ⟨ws3, hw3, hv3, hb3, v3, rfl, hs3⟩
           have d3 := Bx.keep d2 hb3 (by omega); have r3 := Rs.keep r2 hb3 (by omega); have k3 := Below.thru k2 k2.size hb3; have z3 : w.heap.size + 3 ≤ w3.heap.size := Nat.le_trans z2 hb3.size)
        | (go_at_call 79; (with_reducible refine (digitsOf_any v3 (norm ws3) w3 hs3 (norm_nrm _)).mono ?_); rintro e w4 ⟨hb4, v4, rfl, hs4⟩
           have d4 := Bx.keep d3 hb4 (by omega); have r4 := Rs.keep r3 hb4 (by omega); obtain ⟨p4, q4, m1, m2, m3, m4⟩ := r4.cells; obtain ⟨x4, y4, rfl⟩ := hs4.agg; have k4 := Below.thru k3 k3.size hb4; have z4 : w.heap.size + 3 ≤ w4.heap.size := Nat.le_trans z3 hb4.size))
    obtain ⟨n1, n2⟩ := two_cells m1 m2 (.int .u64 x4) (.pointer y4)
    go_wp2
    exact bodyPost_ret (v := .agg #[.int .u64 x4, .pointer y4]) (by simp [results, Try.results54, go_sem, n1, n2]) rfl ⟨(k4.setCell (by simp; omega) _).setCell (by simp; omega) _, _, rfl, (hs4.store r4.odd (grown2 _ _ _ _ _ _)).cast (by rw [val_norm, hv3, hv1, hv2])⟩

theorem mul64_ex (x y : Nat) (hx : Wd x) (hy : Wd y) : ∃ h l : Nat, Wd l ∧ Wd h ∧ Hid (WB * h + l = x * y) ∧ ∀ w : World,
    Calls Try.prog 84 #[.int .u64 (x : Int), .int .u64 (y : Int)] w fun e w' => e = .returned (.tuple #[.int .u64 (h : Int), .int .u64 (l : Int)]) ∧ w' = w := by
  unfold Wd WB at *
  refine ⟨x * y / 18446744073709551616, x * y % 18446744073709551616, Nat.mod_lt _ (by omega), Nat.div_lt_of_lt_mul (Nat.mul_lt_mul'' hx hy), Nat.div_add_mod _ _, fun w => Try.bits_Mul64 x y hx hy w⟩
set_option maxRecDepth 100000 in
theorem times_any (va vb : Value) (a b : Nat) (w : World) (ha : Dg w va a) (hb : Dg w vb b) (la : Sz a) (lb : Sz b) : Calls Try.prog 56 #[va, vb] w (PDg (a * b) w) := by
  have HA := Lib.hid ha; have HB := Lib.hid hb
  rcases ha with ⟨hn, rfl⟩ | ⟨ba, sva, wsa, rfl, a2, a3, a4, a5, a6, a7⟩
  · rcases hb with ⟨hm, rfl⟩ | ⟨bb, svb, wsb, rfl, b2, b3, b4, b5, b6, b7⟩
    · obtain ⟨h, l, hl, hh, HE, hmul⟩ := mul64_ex a b hn hm
      have HM := Lib.hid hmul
      clear hmul
      by_cases hz : h = 0
      · subst hz
        go_enter Try.func56, Try.ntmps56
        go_wp2_with (first | (go_at_call 47; refine (isSmall_small _ _).mono ?_; rintro e w1 ⟨rfl, rfl⟩) | (go_at_call 84; refine (HM.out _).mono ?_; rintro e w1 ⟨rfl, rfl⟩))
        exact bodyPost_ret (v := .agg #[.int .u64 l, .pointer none]) (by simp [results, Try.results56, go_sem]) rfl ⟨Below.thru (bl3 _ _ _ _) (by simp; omega) (bl2 _ _ _), _, rfl, .inl ⟨by have := HE.out; rw [Nat.mul_zero, Nat.zero_add] at this; rw [← this]; exact hl, by have := HE.out; rw [Nat.mul_zero, Nat.zero_add] at this; rw [← this]⟩⟩
      · have hne : ((h : Int) == 0) = false := by rw [beq_eq_false_iff_ne]; omega
        clear hz
        go_enter Try.func56, Try.ntmps56
        go_wp2_with (first | (go_at_call 47; refine (isSmall_small _ _).mono ?_; rintro e w1 ⟨rfl, rfl⟩) | (go_at_call 84; refine (HM.out _).mono ?_; rintro e w1 ⟨rfl, rfl⟩))
        clear HM hne hh hl HE
        generalize hW : World.alloc _ (Obj.cells #[Value.int IntKind.u64 ↑b, Value.pointer none] 27) = W
        have f1 : Below w.heap.size w W := by rw [← hW]; exact Below.thru (bl3 _ _ _ _) (by simp; omega) (bl2 _ _ _)
        have f2 : W.heap.size = w.heap.size + 5 := by rw [← hW]; simp
        have f3 : Bx w.heap.size (.int .u64 (a : Int)) (.pointer none) (.int .u64 (b : Int)) (.pointer none) W := by
          rw [← hW]; refine ⟨?_, ?_, ?_, ?_⟩ <;> simp [go_sem, World.cell?_alloc_past]
        have f4 : Rs (w.heap.size + 1 + 1) W := by
          rw [← hW]; exact (((rs_new _ (by simp)).alloc _).alloc _)
        clear hW
        have f3 : Bx w.heap.size (.int .u64 (a : Int)) (.pointer none) (.int .u64 (b : Int)) (.pointer none) W.drew := f3
        have f4 : Rs (w.heap.size + 1 + 1) W.drew := f4
        have f1 : Below w.heap.size w W.drew := f1.drew
        have f2 : w.heap.size + 3 ≤ W.drew.heap.size := by show _ ≤ W.heap.size; omega
        go_region_held3 (fun w' => w'.cell? ⟨w.heap.size, 0, none⟩ = some (.int .u64 (a : Int)) ∧ w'.cell? ⟨w.heap.size, 1, none⟩ = some (.pointer none) ∧ w'.cell? ⟨w.heap.size + 1, 0, none⟩ = some (.int .u64 (b : Int)) ∧ w'.cell? ⟨w.heap.size + 1, 1, none⟩ = some (.pointer none))
          (first | exact Bx.store2 d4 _ _ | exact d4 | exact d3 | exact d2 | exact d1 | exact f3)
          (first
            | (go_at_call 81; (with_reducible refine (words_any (.agg #[.int .u64 (a : Int), .pointer none]) a W.drew (HA.out.keep (B := w.heap.size) f1 (Nat.le_refl _))).mono ?_); rintro e w1 ⟨hb1, v1, ws1, rfl, hs1, hn1, hv1⟩
               have d1 := Bx.keep f3 hb1 (by omega); have r1 := Rs.keep f4 hb1 (by omega); have k1 := Below.thru f1 f1.size hb1; have z1 : w.heap.size + 3 ≤ w1.heap.size := Nat.le_trans f2 hb1.size)
            | (go_at_call 81; (with_reducible refine (words_any (.agg #[.int .u64 (b : Int), .pointer none]) b w1 (HB.out.keep (B := w.heap.size) k1 (Nat.le_refl _))).mono ?_); rintro e w2 ⟨hb2, v2, ws2, rfl, hs2, hn2, hv2⟩
               have d2 := Bx.keep d1 hb2 (by omega); have r2 := Rs.keep r1 hb2 (by omega); have k2 := Below.thru k1 k1.size hb2; have z2 : w.heap.size + 3 ≤ w2.heap.size := Nat.le_trans z1 hb2.size)
            | (go_at_call 85; (with_reducible refine (multiplyWords_any v1 v2 ws1 ws2 w2 (hs1.keep hb2 (Nat.le_refl _)) hs2 (Nat.le_trans (la.len hn1 hv1) (by omega)) (Nat.le_trans (lb.len hn2 hv2) (by omega))).mono ?_); rintro e w3 ⟨ws3, hw3, hv3, hb3, v3, rfl, hs3⟩
               have d3 := Bx.keep d2 hb3 (by omega); have r3 := Rs.keep r2 hb3 (by omega); have k3 := Below.thru k2 k2.size hb3; have z3 : w.heap.size + 3 ≤ w3.heap.size := Nat.le_trans z2 hb3.size)
            | (go_at_call 79; (with_reducible refine (digitsOf_any v3 (norm ws3) w3 hs3 (norm_nrm _)).mono ?_); rintro e w4 ⟨hb4, v4, rfl, hs4⟩
               have d4 := Bx.keep d3 hb4 (by omega); have r4 := Rs.keep r3 hb4 (by omega); obtain ⟨p4, q4, m1, m2, m3, m4⟩ := r4.cells; obtain ⟨x4, y4, rfl⟩ := hs4.agg; have k4 := Below.thru k3 k3.size hb4; have z4 : w.heap.size + 3 ≤ w4.heap.size := Nat.le_trans z3 hb4.size))
        obtain ⟨n1, n2⟩ := two_cells m1 m2 (.int .u64 x4) (.pointer y4)
        go_wp2
        exact bodyPost_ret (v := .agg #[.int .u64 x4, .pointer y4]) (by simp [results, Try.results56, go_sem, n1, n2]) rfl ⟨(k4.setCell (by simp; omega) _).setCell (by simp; omega) _, _, rfl, (hs4.store r4.odd (grown2 _ _ _ _ _ _)).cast (by rw [val_norm, hv3, hv1, hv2])⟩

    · clear b2 b3 b4 b5 b6 b7
      go_enter Try.func56, Try.ntmps56
      go_wp2_with (go_at_call 47; first | ((with_reducible refine (isSmall_small _ _).mono ?_); rintro e w1 ⟨rfl, rfl⟩) | ((with_reducible refine (isSmall_big _ _ _).mono ?_); rintro e w1 ⟨rfl, rfl⟩))
      clear hn
      generalize hW : World.alloc _ (Obj.cells #[Value.int IntKind.u64 0, Value.pointer (some ⟨bb, 0, none⟩)] 27) = W
      have f1 : Below w.heap.size w W := by rw [← hW]; exact Below.thru (bl3 _ _ _ _) (by simp; omega) (bl2 _ _ _)
      have f2 : W.heap.size = w.heap.size + 5 := by rw [← hW]; simp
      have f3 : Bx w.heap.size (.int .u64 (a : Int)) (.pointer none) (.int .u64 0) (.pointer (some ⟨bb, 0, none⟩)) W := by
        rw [← hW]; refine ⟨?_, ?_, ?_, ?_⟩ <;> simp [go_sem, World.cell?_alloc_past]
      have f4 : Rs (w.heap.size + 1 + 1) W := by
        rw [← hW]; exact (((rs_new _ (by simp)).alloc _).alloc _)
      clear hW
      have f3 : Bx w.heap.size (.int .u64 (a : Int)) (.pointer none) (.int .u64 0) (.pointer (some ⟨bb, 0, none⟩)) W.drew := f3
      have f4 : Rs (w.heap.size + 1 + 1) W.drew := f4
      have f1 : Below w.heap.size w W.drew := f1.drew
      have f2 : w.heap.size + 3 ≤ W.drew.heap.size := by show _ ≤ W.heap.size; omega
      go_region_held3 (fun w' => w'.cell? ⟨w.heap.size, 0, none⟩ = some (.int .u64 (a : Int)) ∧ w'.cell? ⟨w.heap.size, 1, none⟩ = some (.pointer none) ∧ w'.cell? ⟨w.heap.size + 1, 0, none⟩ = some (.int .u64 0) ∧ w'.cell? ⟨w.heap.size + 1, 1, none⟩ = some (.pointer (some ⟨bb, 0, none⟩)))
        (first | exact Bx.store2 d4 _ _ | exact d4 | exact d3 | exact d2 | exact d1 | exact f3)
        (first
          | (go_at_call 81; (with_reducible refine (words_any (.agg #[.int .u64 (a : Int), .pointer none]) a W.drew (HA.out.keep (B := w.heap.size) f1 (Nat.le_refl _))).mono ?_); rintro e w1 ⟨hb1, v1, ws1, rfl, hs1, hn1, hv1⟩
             have d1 := Bx.keep f3 hb1 (by omega); have r1 := Rs.keep f4 hb1 (by omega); have k1 := Below.thru f1 f1.size hb1; have z1 : w.heap.size + 3 ≤ w1.heap.size := Nat.le_trans f2 hb1.size)
          | (go_at_call 81; (with_reducible refine (words_any (.agg #[.int .u64 0, .pointer (some ⟨bb, 0, none⟩)]) b w1 (HB.out.keep (B := w.heap.size) k1 (Nat.le_refl _))).mono ?_); rintro e w2 ⟨hb2, v2, ws2, rfl, hs2, hn2, hv2⟩
             have d2 := Bx.keep d1 hb2 (by omega); have r2 := Rs.keep r1 hb2 (by omega); have k2 := Below.thru k1 k1.size hb2; have z2 : w.heap.size + 3 ≤ w2.heap.size := Nat.le_trans z1 hb2.size)
          | (go_at_call 85; (with_reducible refine (multiplyWords_any v1 v2 ws1 ws2 w2 (hs1.keep hb2 (Nat.le_refl _)) hs2 (Nat.le_trans (la.len hn1 hv1) (by omega)) (Nat.le_trans (lb.len hn2 hv2) (by omega))).mono ?_); rintro e w3 ⟨ws3, hw3, hv3, hb3, v3, rfl, hs3⟩
             have d3 := Bx.keep d2 hb3 (by omega); have r3 := Rs.keep r2 hb3 (by omega); have k3 := Below.thru k2 k2.size hb3; have z3 : w.heap.size + 3 ≤ w3.heap.size := Nat.le_trans z2 hb3.size)
          | (go_at_call 79; (with_reducible refine (digitsOf_any v3 (norm ws3) w3 hs3 (norm_nrm _)).mono ?_); rintro e w4 ⟨hb4, v4, rfl, hs4⟩
             have d4 := Bx.keep d3 hb4 (by omega); have r4 := Rs.keep r3 hb4 (by omega); obtain ⟨p4, q4, m1, m2, m3, m4⟩ := r4.cells; obtain ⟨x4, y4, rfl⟩ := hs4.agg; have k4 := Below.thru k3 k3.size hb4; have z4 : w.heap.size + 3 ≤ w4.heap.size := Nat.le_trans z3 hb4.size))
      obtain ⟨n1, n2⟩ := two_cells m1 m2 (.int .u64 x4) (.pointer y4)
      go_wp2
      exact bodyPost_ret (v := .agg #[.int .u64 x4, .pointer y4]) (by simp [results, Try.results56, go_sem, n1, n2]) rfl ⟨(k4.setCell (by simp; omega) _).setCell (by simp; omega) _, _, rfl, (hs4.store r4.odd (grown2 _ _ _ _ _ _)).cast (by rw [val_norm, hv3, hv1, hv2])⟩

  · obtain ⟨xb, pb, rfl⟩ := hb.agg
    clear hb a2 a3 a4 a5 a6 a7
    go_enter Try.func56, Try.ntmps56
    go_wp2_with (go_at_call 47; refine (isSmall_big _ _ _).mono ?_; rintro e w1 ⟨rfl, rfl⟩)
    skip
    generalize hW : World.alloc _ (Obj.cells #[Value.int IntKind.u64 0, Value.pointer (some ⟨ba, 0, none⟩)] 27) = W
    have f1 : Below w.heap.size w W := by rw [← hW]; exact Below.thru (bl3 _ _ _ _) (by simp; omega) (bl1 _ _)
    have f2 : W.heap.size = w.heap.size + 4 := by rw [← hW]; simp
    have f3 : Bx w.heap.size (.int .u64 0) (.pointer (some ⟨ba, 0, none⟩)) (.int .u64 xb) (.pointer pb) W := by
      rw [← hW]; refine ⟨?_, ?_, ?_, ?_⟩ <;> simp [go_sem, World.cell?_alloc_past]
    have f4 : Rs (w.heap.size + 1 + 1) W := by
      rw [← hW]; exact ((rs_new _ (by simp)).alloc _)
    clear hW
    have f3 : Bx w.heap.size (.int .u64 0) (.pointer (some ⟨ba, 0, none⟩)) (.int .u64 xb) (.pointer pb) W.drew := f3
    have f4 : Rs (w.heap.size + 1 + 1) W.drew := f4
    have f1 : Below w.heap.size w W.drew := f1.drew
    have f2 : w.heap.size + 3 ≤ W.drew.heap.size := by show _ ≤ W.heap.size; omega
    go_region_held3 (fun w' => w'.cell? ⟨w.heap.size, 0, none⟩ = some (.int .u64 0) ∧ w'.cell? ⟨w.heap.size, 1, none⟩ = some (.pointer (some ⟨ba, 0, none⟩)) ∧ w'.cell? ⟨w.heap.size + 1, 0, none⟩ = some (.int .u64 xb) ∧ w'.cell? ⟨w.heap.size + 1, 1, none⟩ = some (.pointer pb))
      (first | exact Bx.store2 d4 _ _ | exact d4 | exact d3 | exact d2 | exact d1 | exact f3)
      (first
        | (go_at_call 81; (with_reducible refine (words_any (.agg #[.int .u64 0, .pointer (some ⟨ba, 0, none⟩)]) a W.drew (HA.out.keep (B := w.heap.size) f1 (Nat.le_refl _))).mono ?_); rintro e w1 ⟨hb1, v1, ws1, rfl, hs1, hn1, hv1⟩
           have d1 := Bx.keep f3 hb1 (by omega); have r1 := Rs.keep f4 hb1 (by omega); have k1 := Below.thru f1 f1.size hb1; have z1 : w.heap.size + 3 ≤ w1.heap.size := Nat.le_trans f2 hb1.size)
        | (go_at_call 81; (with_reducible refine (words_any (.agg #[.int .u64 xb, .pointer pb]) b w1 (HB.out.keep (B := w.heap.size) k1 (Nat.le_refl _))).mono ?_); rintro e w2 ⟨hb2, v2, ws2, rfl, hs2, hn2, hv2⟩
           have d2 := Bx.keep d1 hb2 (by omega); have r2 := Rs.keep r1 hb2 (by omega); have k2 := Below.thru k1 k1.size hb2; have z2 : w.heap.size + 3 ≤ w2.heap.size := Nat.le_trans z1 hb2.size)
        | (go_at_call 85; (with_reducible refine (multiplyWords_any v1 v2 ws1 ws2 w2 (hs1.keep hb2 (Nat.le_refl _)) hs2 (Nat.le_trans (la.len hn1 hv1) (by omega)) (Nat.le_trans (lb.len hn2 hv2) (by omega))).mono ?_); rintro e w3 ⟨ws3, hw3, hv3, hb3, v3, rfl, hs3⟩
           have d3 := Bx.keep d2 hb3 (by omega); have r3 := Rs.keep r2 hb3 (by omega); have k3 := Below.thru k2 k2.size hb3; have z3 : w.heap.size + 3 ≤ w3.heap.size := Nat.le_trans z2 hb3.size)
        | (go_at_call 79; (with_reducible refine (digitsOf_any v3 (norm ws3) w3 hs3 (norm_nrm _)).mono ?_); rintro e w4 ⟨hb4, v4, rfl, hs4⟩
           have d4 := Bx.keep d3 hb4 (by omega); have r4 := Rs.keep r3 hb4 (by omega); obtain ⟨p4, q4, m1, m2, m3, m4⟩ := r4.cells; obtain ⟨x4, y4, rfl⟩ := hs4.agg; have k4 := Below.thru k3 k3.size hb4; have z4 : w.heap.size + 3 ≤ w4.heap.size := Nat.le_trans z3 hb4.size))
    obtain ⟨n1, n2⟩ := two_cells m1 m2 (.int .u64 x4) (.pointer y4)
    go_wp2
    exact bodyPost_ret (v := .agg #[.int .u64 x4, .pointer y4]) (by simp [results, Try.results56, go_sem, n1, n2]) rfl ⟨(k4.setCell (by simp; omega) _).setCell (by simp; omega) _, _, rfl, (hs4.store r4.odd (grown2 _ _ _ _ _ _)).cast (by rw [val_norm, hv3, hv1, hv2])⟩

end Go.Proofs.Ytjjomjjgoceklaa
