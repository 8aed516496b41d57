import Derived.Test.YtjjomjjgoceklaaGreatWb
import Derived.Test.YtjjomjjgoceklaaGreatKbd
namespace Go.Proofs.YtjjomjjgoceklaaGreat
set_option maxRecDepth 100000
open Go.RowKit

/-! the reference reads a text: digits, IsInt -/
theorem digitsr_any (s : ByteArray) (w : World) (hs : s.size ≤ 2000) (b : Bool) (hb : b = true ↔ NatP s) : Calls Tryz.prog 91 #[.string s] w (PB b w) := by
  have HB := Lib.hid hb
  clear hb
  go_enter Tryz.func91, Tryz.ntmps91
  go_wp2
  go_loop [3] (fun i => ∃ k : Nat, k ≤ s.size ∧ i = .int .i64 k ∧ Hid (∀ j, j < k → 48 ≤ byteAt s j ∧ byteAt s j ≤ 57)) (fun i => s.size - (intOf i).toNat)
  case atStart => exact ⟨0, Nat.zero_le _, rfl, fun j hj => absurd hj (Nat.not_lt_zero _)⟩
  case round =>
    obtain ⟨k, hk, rfl, HD⟩ := hrel
    by_cases hlt : k < s.size
    · have HX0 := Lib.hid (byteAt_get hlt)
      generalize hxe : (s[k]).toNat = x at HX0
      have HX : Hid (byteAt s k = x) := HX0.out
      have hc : (s[k]).toNat = x := hxe
      clear HX0
      rcases Nat.lt_or_ge x 48 with h1 | h1
      · have g1 : decide ((x : Int) < 48) = true := by simp; omega
        go_wp2
        go_ret
        refine ⟨Below.refl _ _, ?_⟩
        have : b = false := by
          rw [Bool.eq_false_iff]; intro e
          have := (HB.out.1 e).1 k hlt
          rw [HX.out] at this; omega
        rw [this]
        rfl
      · rcases Nat.lt_or_ge 57 x with h2 | h2
        · have g1 : decide ((x : Int) < 48) = false := by simp; omega
          have g2 : decide (57 < (x : Int)) = true := by simp; omega
          go_wp2
          go_ret
          refine ⟨Below.refl _ _, ?_⟩
          have : b = false := by
            rw [Bool.eq_false_iff]; intro e
            have := (HB.out.1 e).1 k hlt
            rw [HX.out] at this; omega
          rw [this]
          rfl
        · have g1 : decide ((x : Int) < 48) = false := by simp; omega
          have g2 : decide (57 < (x : Int)) = false := by simp; omega
          go_wp2
          go_round
          case rel => exact ⟨k + 1, by omega, by go_num, fun j hj => by
            rcases Nat.lt_or_ge j k with h3 | h3
            · exact HD.out j h3
            · obtain rfl : j = k := by omega
              rw [HX.out]; omega⟩
          case measure => simp [intOf]; omega
    · obtain rfl : k = s.size := by omega
      by_cases e1 : s.toList = [48]
      · have g1 : (s.toList == [48]) = true := by simp [e1]
        have HE := Lib.hid e1
        clear e1
        go_wp2
        go_ret
        exact ⟨Below.refl _ _, by rw [HB.out.2 ⟨HD.out, .inl HE.out⟩]; rfl⟩
      · have g1 : (s.toList == [48]) = false := by simp [e1]
        rcases Nat.eq_zero_or_pos s.size with h0 | h0
        · have e2 : s.toList = [] := toList_nil.2 h0
          have HE := Lib.hid e1; have H0 := Lib.hid h0
          clear e1 h0
          go_wp2
          go_ret
          refine ⟨Below.refl _ _, ?_⟩
          have : b = false := by
            rw [Bool.eq_false_iff]; intro e
            rcases (HB.out.1 e).2 with h | ⟨h, _⟩
            · exact HE.out h
            · have := H0.out; omega
          rw [this]; rfl
        · have e2 : ¬ s.toList = [] := fun e => by have := toList_nil.1 e; omega
          have e3 : s.toList.isEmpty = false := by simp [e2]
          have hx := byteAt_get h0
          by_cases hz : byteAt s 0 = 48
          · have g2 : (((s[0]).toNat : Int) != 48) = false := by rw [← hx, hz]; rfl
            have HE := Lib.hid e1; have HX := Lib.hid hz
            clear e1 hx hz
            go_wp2
            go_ret
            refine ⟨Below.refl _ _, ?_⟩
            have : b = false := by
              rw [Bool.eq_false_iff]; intro e
              rcases (HB.out.1 e).2 with h | ⟨_, h⟩
              · exact HE.out h
              · exact h HX.out
            rw [this]; rfl
          · have g2 : (((s[0]).toNat : Int) != 48) = true := by rw [← hx, bne_iff_ne]; omega
            have HE := Lib.hid e1; have HX := Lib.hid hz
            have hT := HB.out.2 ⟨HD.out, .inr ⟨h0, hz⟩⟩
            have HT := Lib.hid hT
            clear e1 hx hz hT
            go_wp2
            go_ret
            exact ⟨Below.refl _ _, by rw [HT.out]; rfl⟩
/-- an integer's text -/
def IntP (s : ByteArray) : Prop := (0 < s.size ∧ byteAt s 0 = 45 ∧ NatP (s.extract 1 s.size)) ∨ (¬ (0 < s.size ∧ byteAt s 0 = 45) ∧ NatP s)
theorem isIntr_any (s : ByteArray) (w : World) (hs : s.size ≤ 2000) (b : Bool) (hb : b = true ↔ IntP s) : Calls Tryz.prog 16 #[.string s] w (PB b w) := by
  by_cases h0 : 0 < s.size
  · have e2 : ¬ s.toList = [] := fun e => by have := toList_nil.1 e; omega
    have e3 : s.toList.isEmpty = false := by simp [e2]
    have hx := byteAt_get h0
    by_cases h1 : byteAt s 0 = 45
    · have g2 : (((s[0]).toNat : Int) == 45) = true := by rw [← hx, h1]; rfl
      have H := Lib.hid (digitsr_any (s.extract 1 s.size) w (by rw [ByteArray.size_extract]; omega) b (hb.trans ⟨fun h => h.elim (fun h => h.2.2) (fun h => absurd ⟨h0, h1⟩ h.1), fun h => .inl ⟨h0, h1, h⟩⟩))
      clear hb hx h1
      go_enter Tryz.func16, Tryz.ntmps16
      go_wp2_with fail
      refine H.out.mono ?_
      rintro e w1 ⟨hb1, rfl⟩
      go_wp2
      go_ret
      exact ⟨hb1, rfl⟩
    · have g2 : (((s[0]).toNat : Int) == 45) = false := by rw [← hx, beq_eq_false_iff_ne]; omega
      have H := Lib.hid (digitsr_any s w hs b (hb.trans ⟨fun h => h.elim (fun h => absurd h.2.1 h1) (fun h => h.2), fun h => .inr ⟨fun h' => h1 h'.2, h⟩⟩))
      clear hb hx h1
      go_enter Tryz.func16, Tryz.ntmps16
      go_wp2_with fail
      refine H.out.mono ?_
      rintro e w1 ⟨hb1, rfl⟩
      go_wp2
      go_ret
      exact ⟨hb1, rfl⟩
  · have e2 : s.toList = [] := toList_nil.2 (by omega)
    have H := Lib.hid (digitsr_any s w hs b (hb.trans ⟨fun h => h.elim (fun h => absurd h.1 h0) (fun h => h.2), fun h => .inr ⟨fun h' => h0 h'.1, h⟩⟩))
    clear hb h0
    go_enter Tryz.func16, Tryz.ntmps16
    go_wp2_with fail
    refine H.out.mono ?_
    rintro e w1 ⟨hb1, rfl⟩
    go_wp2
    go_ret
    exact ⟨hb1, rfl⟩
end Go.Proofs.YtjjomjjgoceklaaGreat
namespace Go.Proofs.YtjjomjjgoceklaaGreat
set_option maxRecDepth 100000
open Go.RowKit

/-! ZParse -/
theorem NatP.head {s : ByteArray} (h : NatP s) : 0 < s.size := by
  rcases h.2 with h | h
  · rcases Nat.eq_zero_or_pos s.size with e | e
    · rw [toList_nil.2 e] at h; cases h
    · exact e
  · exact h.1
def strSize (v : Value) : Nat := match v with | .string b => b.size | _ => 0
set_option maxHeartbeats 4000000 in
theorem zparseN_any (s : ByteArray) (w : World) (hs : s.size ≤ 1000) (hn : NatP s) : Calls Tryz.prog 18 #[.string s] w (PRZ (dec s s.size : Int) w) := by
  obtain ⟨i0, hi, hz0, hz1, hz2⟩ := info_parts Tryz.info3
  have h0 := hn.head
  have e2 : ¬ s.toList = [] := fun e => by have := toList_nil.1 e; omega
  have e3 : s.toList.isEmpty = false := by simp [e2]
  have hx := byteAt_get h0
  have g2 : (((s[0]).toNat : Int) == 45) = false := by rw [← hx, beq_eq_false_iff_ne]; have := hn.1 0 h0; omega
  have HD := Lib.hid hn.1
  clear hx hn
  go_enter Tryz.func18, Tryz.ntmps18
  go_wp2
  clear g2 e2 e3
  go_loopw [0, 3] (fun t v wr => ∃ (sx : ByteArray) (xs : List Nat), t = .string sx ∧ Hid (sx.size ≤ s.size ∧ 4 * xs.length ≤ s.size - sx.size + 3 ∧ (0 < sx.size → 4 * xs.length = s.size - sx.size)) ∧ Hid (∀ j, j < sx.size → byteAt sx j = byteAt s j) ∧ Hid (dec s s.size = rv xs + 10000 ^ xs.length * dec s sx.size) ∧ D4 xs ∧ wr.ownsRow (w.heap.size + 1) 3 1 v xs.length (dv xs) ∧ Below (w.heap.size + 1) (w.alloc (.cells #[.int .i64 0, .slice none 0 0] 41)) wr) (fun t _ _ => strSize t)
  case atStart => exact ⟨s, [], rfl, ⟨Nat.le_refl _, by simp, by simp⟩, fun _ _ => rfl, by show _ = _; simp [rv], D4.nil, World.ownsRow_nil _ _ _ _, Below.refl _ _⟩
  case round =>
    obtain ⟨sx, xs, rfl, HL, HB1, HV, hd4, hown, hB⟩ := hrel
    have hsx := HL.out.1
    by_cases hm : 0 < sx.size
    · have HL1 : Hid (4 * xs.length ≤ s.size - sx.size + 3) := HL.out.2.1
      have HL2 : Hid (4 * xs.length = s.size - sx.size) := HL.out.2.2 hm
      by_cases h4 : sx.size < 4
      · obtain ⟨wo, hwo⟩ : ∃ wo : World, wo = wr := ⟨_, rfl⟩
        rw [← hwo] at hown hB ⊢
        clear hwo
        go_wp2
        go_loopw [6, 5] (fun i x wr2 => ∃ (q X : Nat), 0 ≤ q ∧ q ≤ sx.size ∧ i = .int .i64 q ∧ x = .int .i64 X ∧ Hid (dec s q = 10 ^ (q - 0) * dec s 0 + X) ∧ Hid (X < 10 ^ (q - 0)) ∧ wr2 = wo) (fun i _ _ => sx.size - (intOf i).toNat)
        case atStart => exact ⟨0, 0, Nat.le_refl _, by omega, by first | rfl | go_num, rfl, by show _ = _; rw [Nat.sub_self, Nat.pow_zero, Nat.one_mul]; rfl, by show _ < _; rw [Nat.sub_self]; decide, rfl⟩
        case round =>
          obtain ⟨q, X, hq1, hq2, rfl, rfl, HX, HXL, hwr⟩ := hrel
          subst hwr
          by_cases hq : q < sx.size
          · have hX4 : X ≤ 1000 := by
              have h1 := HXL.out
              have h2 : 10 ^ (q - 0) ≤ 10 ^ 3 := Nat.pow_le_pow_right (by omega) (by omega)
              omega
            have hbx := byteAt_get hq
            have hbs := HB1.out q hq
            have hdg := HD.out q (by omega)
            generalize hxe : (sx[q]).toNat = xb at hbx
            have hxd : 48 ≤ xb ∧ xb ≤ 57 := by omega
            have HN1 : Hid (dec s (q + 1) = 10 ^ (q + 1 - 0) * dec s 0 + (10 * X + (xb - 48))) := by
              show _ = _
              have h3 : dec s (q + 1) = 10 * dec s q + (byteAt s q - 48) := rfl
              rw [h3, HX.out, ← hbs, hbx, show q + 1 - 0 = (q - 0) + 1 by omega, Nat.pow_succ, Nat.mul_add, ← Nat.mul_assoc, Nat.mul_comm 10 (10 ^ (q - 0))]
              omega
            have HN2 : Hid (10 * X + (xb - 48) < 10 ^ (q + 1 - 0)) := by
              show _ < _
              have h1 := HXL.out
              rw [show q + 1 - 0 = (q - 0) + 1 by omega, Nat.pow_succ]
              omega
            have hval : (10 : Int) * (X : Int) + ((xb : Int) - 48) = ((10 * X + (xb - 48) : Nat) : Int) := by omega
            clear hbx hbs hdg
            go_wp2
            go_roundw
            case rel => exact ⟨q + 1, 10 * X + (xb - 48), by omega, by omega, by go_num, congrArg (Value.int .i64) (by omega), HN1.out, HN2.out, trivial⟩
            case measure => simp [intOf]; omega
          · obtain rfl : q = sx.size := by omega
            have hX4 : X < 10000 := by
              have h1 := HXL.out
              have h2 : 10 ^ (sx.size - 0) ≤ 10 ^ 4 := Nat.pow_le_pow_right (by omega) (by omega)
              omega
            have hlen : xs.length ≤ 1000 := by have := HL1.out; omega
            have HV2 : Hid (dec s s.size = rv (xs ++ [X]) + 10000 ^ (xs ++ [X]).length * dec s 0) := by
              show _ = _
              have h1 := HX.out
              rw [HV.out, h1, rv_snoc, List.length_append, List.length_singleton, Nat.pow_succ]
              rw [show dec s 0 = 0 from rfl]
              simp only [Nat.mul_zero, Nat.zero_add, Nat.add_zero]
            have hbsz := hB.size
            simp only [World.size_alloc] at hbsz
            go_wp2_with (at_builtin; refine wpList_append_own _ rfl _ _ 39 rfl (w.heap.size + 1) 3 i0 (.int .i64 0) 1 8 Tryz.underlying39 hi hz0 hz1 hz2 rfl (by decide) _ _ _ rfl (hown.alloc _) ⟨wr.heap.size, 0, none⟩ 1 1 [.int .i64 (X : Int)] rfl rfl (cell_one_new _ _ _) (by simp [Value.oneCell']) (by unfold maxLen; omega) (by omega) (by simp; omega) ?_; intro v' w1 hown' hgrow _)
            have HO := Lib.hid (show w1.ownsRow (w.heap.size + 1) 3 1 v' (xs ++ [X]).length (dv (xs ++ [X])) by rw [dv_snoc, List.length_append]; exact hown')
            have HBL := Lib.hid ((hB.alloc (show w.heap.size + 1 ≤ wr.heap.size by omega) (.cells #[.int .i64 (X : Int)] 3)).grown hgrow (by simp; omega) (fun j e => ((hown.alloc (.cells #[.int .i64 (X : Int)] 3)).lt j e).1))
            clear hown' hgrow
            go_roundw
            case rel => exact ⟨ByteArray.empty, xs ++ [X], rfl, ⟨Nat.zero_le _, by rw [List.length_append, List.length_singleton]; have := HL2.out; show _ ≤ s.size - 0 + 3; omega, fun h => absurd h (by decide)⟩, fun j hj => absurd hj (Nat.not_lt_zero _), HV2.out, hd4.snoc hX4, HO.out, HBL.out⟩
            case measure => simp [strSize]; omega
      · have hk : (sx.size : Int) - 4 = ((sx.size - 4 : Nat) : Int) := by omega
        obtain ⟨wo, hwo⟩ : ∃ wo : World, wo = wr := ⟨_, rfl⟩
        rw [← hwo] at hown hB ⊢
        clear hwo
        go_wp2
        go_loopw [6, 5] (fun i x wr2 => ∃ (q X : Nat), (sx.size - 4) ≤ q ∧ q ≤ sx.size ∧ i = .int .i64 q ∧ x = .int .i64 X ∧ Hid (dec s q = 10 ^ (q - (sx.size - 4)) * dec s (sx.size - 4) + X) ∧ Hid (X < 10 ^ (q - (sx.size - 4))) ∧ wr2 = wo) (fun i _ _ => sx.size - (intOf i).toNat)
        case atStart => exact ⟨(sx.size - 4), 0, Nat.le_refl _, by omega, by first | rfl | go_num, rfl, by show _ = _; rw [Nat.sub_self, Nat.pow_zero, Nat.one_mul]; rfl, by show _ < _; rw [Nat.sub_self]; decide, rfl⟩
        case round =>
          obtain ⟨q, X, hq1, hq2, rfl, rfl, HX, HXL, hwr⟩ := hrel
          subst hwr
          by_cases hq : q < sx.size
          · have hX4 : X ≤ 1000 := by
              have h1 := HXL.out
              have h2 : 10 ^ (q - (sx.size - 4)) ≤ 10 ^ 3 := Nat.pow_le_pow_right (by omega) (by omega)
              omega
            have hbx := byteAt_get hq
            have hbs := HB1.out q hq
            have hdg := HD.out q (by omega)
            generalize hxe : (sx[q]).toNat = xb at hbx
            have hxd : 48 ≤ xb ∧ xb ≤ 57 := by omega
            have HN1 : Hid (dec s (q + 1) = 10 ^ (q + 1 - (sx.size - 4)) * dec s (sx.size - 4) + (10 * X + (xb - 48))) := by
              show _ = _
              have h3 : dec s (q + 1) = 10 * dec s q + (byteAt s q - 48) := rfl
              rw [h3, HX.out, ← hbs, hbx, show q + 1 - (sx.size - 4) = (q - (sx.size - 4)) + 1 by omega, Nat.pow_succ, Nat.mul_add, ← Nat.mul_assoc, Nat.mul_comm 10 (10 ^ (q - (sx.size - 4)))]
              omega
            have HN2 : Hid (10 * X + (xb - 48) < 10 ^ (q + 1 - (sx.size - 4))) := by
              show _ < _
              have h1 := HXL.out
              rw [show q + 1 - (sx.size - 4) = (q - (sx.size - 4)) + 1 by omega, Nat.pow_succ]
              omega
            have hval : (10 : Int) * (X : Int) + ((xb : Int) - 48) = ((10 * X + (xb - 48) : Nat) : Int) := by omega
            clear hbx hbs hdg
            go_wp2
            go_roundw
            case rel => exact ⟨q + 1, 10 * X + (xb - 48), by omega, by omega, by go_num, congrArg (Value.int .i64) (by omega), HN1.out, HN2.out, trivial⟩
            case measure => simp [intOf]; omega
          · obtain rfl : q = sx.size := by omega
            have hX4 : X < 10000 := by
              have h1 := HXL.out
              have h2 : 10 ^ (sx.size - (sx.size - 4)) ≤ 10 ^ 4 := Nat.pow_le_pow_right (by omega) (by omega)
              omega
            have hlen : xs.length ≤ 1000 := by have := HL1.out; omega
            have HV2 : Hid (dec s s.size = rv (xs ++ [X]) + 10000 ^ (xs ++ [X]).length * dec s (sx.size - 4)) := by
              show _ = _
              have h1 := HX.out
              rw [HV.out, h1, rv_snoc, List.length_append, List.length_singleton, Nat.pow_succ]
              rw [show sx.size - (sx.size - 4) = 4 by omega]
              simp only [Nat.mul_add, Nat.reducePow]
              rw [← Nat.mul_assoc]
              omega
            have hbsz := hB.size
            simp only [World.size_alloc] at hbsz
            go_wp2_with (at_builtin; refine wpList_append_own _ rfl _ _ 39 rfl (w.heap.size + 1) 3 i0 (.int .i64 0) 1 8 Tryz.underlying39 hi hz0 hz1 hz2 rfl (by decide) _ _ _ rfl (hown.alloc _) ⟨wr.heap.size, 0, none⟩ 1 1 [.int .i64 (X : Int)] rfl rfl (cell_one_new _ _ _) (by simp [Value.oneCell']) (by unfold maxLen; omega) (by omega) (by simp; omega) ?_; intro v' w1 hown' hgrow _)
            have HO := Lib.hid (show w1.ownsRow (w.heap.size + 1) 3 1 v' (xs ++ [X]).length (dv (xs ++ [X])) by rw [dv_snoc, List.length_append]; exact hown')
            have HBL := Lib.hid ((hB.alloc (show w.heap.size + 1 ≤ wr.heap.size by omega) (.cells #[.int .i64 (X : Int)] 3)).grown hgrow (by simp; omega) (fun j e => ((hown.alloc (.cells #[.int .i64 (X : Int)] 3)).lt j e).1))
            clear hown' hgrow
            go_roundw
            case rel => exact ⟨sx.extract 0 (sx.size - 4), xs ++ [X], rfl, by show _ ∧ _; rw [extract_size _ _ _ (by omega)]; exact ⟨by omega, by rw [List.length_append, List.length_singleton]; have := HL2.out; omega, by intro h; rw [List.length_append, List.length_singleton]; have := HL2.out; omega⟩, by intro j hj; rw [extract_size _ _ _ (by omega)] at hj; rw [byteAt_extract _ _ _ _ (by omega) (by omega), Nat.zero_add]; exact HB1.out j (by omega), by show _ = _; rw [extract_size _ _ _ (by omega)]; exact HV2.out, hd4.snoc hX4, HO.out, HBL.out⟩
            case measure => simp [strSize]; omega
    · have hz : sx.size = 0 := by omega
      have HV3 : Hid (rv xs = dec s s.size) := by
        show _ = _
        rw [HV.out, hz, show dec s 0 = 0 from rfl, Nat.mul_zero, Nat.add_zero]
      have hlen : xs.length ≤ 1000 := by have := HL.out.2.1; omega
      have HSL := Lib.hid (SlI.of_ownI (l := xs.map fun (x : Nat) => (x : Int)) (by rw [← dv_vi]; exact hown) (by rw [List.length_map]; omega))
      have HZr := hd4
      have c0 : wr.cell? ⟨w.heap.size, 0, none⟩ = some (.int .i64 0) := (hB.cell (p := ⟨w.heap.size, 0, none⟩) (Nat.lt_succ_self _)).trans (by simp [go_sem])
      have c1 : wr.cell? ⟨w.heap.size, 1, none⟩ = some (.slice none 0 0) := (hB.cell (p := ⟨w.heap.size, 1, none⟩) (Nat.lt_succ_self _)).trans (by simp [go_sem])
      have f0 : wr.frozen? ⟨w.heap.size, 0, none⟩ = false := (hB.frozen (p := ⟨w.heap.size, 0, none⟩) (Nat.lt_succ_self _)).trans (by simp [go_sem])
      have f1 : wr.frozen? ⟨w.heap.size, 1, none⟩ = false := (hB.frozen (p := ⟨w.heap.size, 1, none⟩) (Nat.lt_succ_self _)).trans (by simp [go_sem])
      have hbsz : w.heap.size + 1 ≤ wr.heap.size := by have := hB.size; simpa using this
      go_wp2_with fail
      have nI : NoI wr w.heap.size := ⟨_, 41, _, (hB.block _ (Nat.lt_succ_self _)).trans (Go.Deep.blk_alloc_new w (.cells #[.int .i64 0, .slice none 0 0] 41)), by decide⟩
      have hb0 := (bl1 w (.cells #[.int .i64 0, .slice none 0 0] 41)).trans (hB.mono (Nat.le_succ _))
      refine (made_any 1 _ _ _ HSL.out (cast_bd hd4) (by rw [iv_cast]; omega) (by rw [List.length_map]; omega)).mono ?_
      rintro e w2 ⟨hb2, v2, rfl, h2⟩
      rw [iv_cast, HV3.out] at h2
      have hZ := Lib.hid (h2.toZ (z := (dec s s.size : Int)) (fun h => (Int.sign_eq_one_of_pos (by omega)).symm))
      clear h2
      have r0' := (hb2.cell (p := ⟨w.heap.size, 0, none⟩) (show w.heap.size < wr.heap.size by omega)).trans c0
      have r1' := (hb2.cell (p := ⟨w.heap.size, 1, none⟩) (show w.heap.size < wr.heap.size by omega)).trans c1
      have f0' := (hb2.frozen (p := ⟨w.heap.size, 0, none⟩) (show w.heap.size < wr.heap.size by omega)).trans f0
      have f1' := (hb2.frozen (p := ⟨w.heap.size, 1, none⟩) (show w.heap.size < wr.heap.size by omega)).trans f1
      have nI2 : NoI w2 w.heap.size := by
        obtain ⟨c, t, f, h1, h2⟩ := nI
        exact ⟨c, t, f, (hb2.block _ (show w.heap.size < wr.heap.size by omega)).trans h1, h2⟩
      have hb3 := hb0.trans (hb2.mono (show w.heap.size ≤ wr.heap.size by omega))
      obtain ⟨pz, lz, cz, rfl⟩ := hZ.out.agg
      obtain ⟨g1, g2⟩ := two_cells r0' r1' (.int .i64 (dec s s.size : Int).sign) (.slice pz lz cz)
      have HF := Lib.hid (hZ.out.store nI2 (grown2 w2 w.heap.size 0 1 (.int .i64 (dec s s.size : Int).sign) (.slice pz lz cz)))
      generalize (dec s s.size : Int).sign = sg at *
      clear c0 c1 f0 f1 nI hb2 hb0 hown hB
      go_wp2
      exact bodyPost_ret (v := .agg #[.int .i64 sg, .slice pz lz cz]) (by simp [results, Tryz.results18, go_sem, g1, g2]) rfl ⟨(hb3.setCell (Nat.le_refl _) _).setCell (Nat.le_refl _) _, _, rfl, HF.out⟩
end Go.Proofs.YtjjomjjgoceklaaGreat
