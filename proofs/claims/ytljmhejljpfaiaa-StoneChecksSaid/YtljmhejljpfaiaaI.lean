import Derived.Test.YtljmhejljpfaiaaH
namespace Go.Proofs.Ytljmhejljpfaiaa
set_option maxRecDepth 100000
open Go.RowKit

theorem rconvex_few (p : Option Addr) (c : Nat) (n : Nat) (l : List Pt) (w : World) (hn : ¬ (3 ≤ n ∧ n ≤ 12)) (hm : n ≤ maxLen) : Calls Try.prog 88 #[.slice p n c] w (PBt (3 ≤ n ∧ n ≤ 12 ∧ Cr l) w) := by
  unfold maxLen at hm
  have HN := Lib.hid hn
  by_cases h1 : n < 3
  · have g1 : decide ((n : Int) < 3) = true := by simp; omega
    clear hn
    go_enter Try.func88, Try.ntmps88
    go_wp2
    go_ret
    exact PBt.no (fun h => HN.out ⟨h.1, h.2.1⟩) (Below.refl _ _)
  · have g1 : decide ((n : Int) < 3) = false := by simp; omega
    have g2 : decide (12 < (n : Int)) = true := by simp; omega
    clear hn
    go_enter Try.func88, Try.ntmps88
    go_wp2
    go_ret
    exact PBt.no (fun h => HN.out ⟨h.1, h.2.1⟩) (Below.refl _ _)
theorem rconvex_any (p : Option Addr) (c : Nat) (l : List Pt) (w : World) (h : Pts w (.slice p l.length c) l) (hs : ∀ i, i < l.length → Sm (px l i) ∧ Sm (pz l i)) : Calls Try.prog 88 #[.slice p l.length c] w (PBt (3 ≤ l.length ∧ l.length ≤ 12 ∧ Cr l) w) := by
  by_cases hn : 3 ≤ l.length ∧ l.length ≤ 12
  · obtain ⟨h0, p', c', hv, h⟩ := h
    simp only [Value.slice.injEq, true_and] at hv
    obtain ⟨rfl, rfl⟩ := hv
    rcases h with rfl | ⟨b, o, rfl, h, _⟩
    · simp at hn
    · exact (rconvex_some b o c l w h hn.1 hn.2 hs).mono fun e w' ⟨⟨bv, he, hbv⟩, hb⟩ => ⟨⟨bv, he, hbv.trans ⟨fun h => ⟨hn.1, hn.2, h⟩, fun h => h.2.2⟩⟩, hb⟩
  · exact rconvex_few p c l.length l w hn (by have := h.1; unfold maxLen; omega)
/-- the reference's test of a shape -/
def Pr (l : List Pt) : Prop := Bx l ∧ (3 ≤ l.length ∧ l.length ≤ 12 ∧ Cr l) ∧ mnx l l.length = 0 ∧ mnz l l.length = 0 ∧ fst l l.length = 0
set_option maxHeartbeats 2000000 in
theorem placed_some (b o c : Nat) (l : List Pt) (w : World) (hr : Row w b o l) (h3 : l ≠ []) (hm : l.length ≤ 4611686018427387904) : Calls Try.prog 49 #[.slice (some ⟨b, o, none⟩) l.length c] w (PBt (Pr l) w) := by
  have HR := Lib.hid hr
  obtain ⟨n, hn⟩ : ∃ n, n = l.length := ⟨_, rfl⟩
  rw [← hn] at hm ⊢
  have hn1 : 1 ≤ n := by rw [hn]; exact Nat.one_le_iff_ne_zero.2 (fun h => h3 (List.length_eq_zero_iff.1 h))
  have HN := Lib.hid hn
  clear hr hn h3
  go_enter Try.func49, Try.ntmps49
  go_wp2
  go_loopw [3] (fun i wr => ∃ k : Nat, k ≤ n ∧ i = .int .i64 k ∧ Hid (∀ j, j < k → (0 ≤ px l j ∧ px l j ≤ 2000) ∧ (0 ≤ pz l j ∧ pz l j ≤ 2000)) ∧ wr = w) (fun i _ => n - (intOf i).toNat)
  case atStart => exact ⟨0, Nat.zero_le _, rfl, fun j hj => absurd hj (by omega), rfl⟩
  case round =>
    obtain ⟨k, hk, rfl, HK, rfl⟩ := hrel
    by_cases hlt : k < n
    · have hrow := HR.out
      obtain ⟨ck, cz⟩ := hrow k (by rw [← HN.out]; exact hlt)
      clear hrow
      have HK2 : Hid (inB (px l k) 0 2000 = true → inB (pz l k) 0 2000 = true → ∀ j, j < k + 1 → (0 ≤ px l j ∧ px l j ≤ 2000) ∧ (0 ≤ pz l j ∧ pz l j ≤ 2000)) := fun h1 h2 j hj => by
        rcases Nat.lt_or_ge j k with q | q
        · exact HK.out j q
        · obtain rfl : j = k := by omega
          simp [inB] at h1 h2
          exact ⟨h1, h2⟩
      have HNo : Hid (Pr l → inB (px l k) 0 2000 = true ∧ inB (pz l k) 0 2000 = true) := fun h => by
        have := h.1 k (by rw [← HN.out]; exact hlt)
        exact ⟨inB_t this.1.1 this.1.2, inB_t this.2.1 this.2.2⟩
      cases q1 : inB (px l k) 0 2000 with
      | false =>
        go_wp2_with ((go_at_call 50; refine (in_any _ _ _ _).mono ?_; rintro e w' ⟨rfl, rfl⟩))
        go_ret
        exact PBt.no (fun h => by have := (HNo.out h).1; rw [q1] at this; cases this) (Below.refl _ _)
      | true =>
        cases q2 : inB (pz l k) 0 2000 with
        | false =>
          go_wp2_with ((go_at_call 50; refine (in_any _ _ _ _).mono ?_; rintro e w' ⟨rfl, rfl⟩))
          go_ret
          exact PBt.no (fun h => by have := (HNo.out h).2; rw [q2] at this; cases this) (Below.refl _ _)
        | true =>
          have HK3 := Lib.hid (HK2.out q1 q2)
          go_wp2_with ((go_at_call 50; refine (in_any _ _ _ _).mono ?_; rintro e w' ⟨rfl, rfl⟩))
          go_roundw
          case rel => exact ⟨k + 1, by omega, by go_num, HK3, trivial⟩
          case measure => simp [intOf]; omega
    · obtain rfl : k = n := by omega
      have HBx : Hid (Bx l) := fun i hi => HK.out i (by rw [HN.out]; exact hi)
      have HCV := Lib.hid (rconvex_any (some ⟨b, o, none⟩) c l wr ⟨by rw [← HN.out]; exact hm, _, _, rfl, .inr ⟨b, o, rfl, HR.out, HR.out.lt (by rw [← HN.out]; omega)⟩⟩ HBx.out.sm)
      have HLO : Hid (∀ W, Below wr.heap.size wr W → 3 ≤ k ∧ k ≤ 12 → Calls Try.prog 86 #[.slice (some ⟨b, o, none⟩) k c] W fun e w' => e = .returned (.agg #[.int .i64 (mnx l k), .int .i64 (mnz l k)]) ∧ Below W.heap.size W w') := fun W hW h => by
        have := low_any b o c l W (HR.out.keep hW) (by rw [← HN.out]; omega) (by rw [← HN.out]; omega)
        rw [← HN.out] at this
        exact this
      have HFI : Hid (∀ W, Below wr.heap.size wr W → 3 ≤ k ∧ k ≤ 12 → Calls Try.prog 89 #[.slice (some ⟨b, o, none⟩) k c] W fun e w' => e = .returned (.int .i64 (fst l k : Nat)) ∧ Below W.heap.size W w') := fun W hW h => by
        have := first_any b o c l W (HR.out.keep hW) (by rw [← HN.out]; omega) (by rw [← HN.out]; omega)
        rw [← HN.out] at this
        exact this
      have HPr : Hid (Pr l ↔ (3 ≤ k ∧ k ≤ 12 ∧ Cr l) ∧ mnx l k = 0 ∧ mnz l k = 0 ∧ fst l k = 0) := by
        show _ ↔ _
        have e := HN.out
        subst e
        exact ⟨fun h => h.2, fun h => ⟨HBx.out, h⟩⟩
      rw [← HN.out] at HCV
      have hf0 : ∀ W, (Instr.field 24 (.agg #[.int .i64 (mnx l k), .int .i64 (mnz l k)]) 0).run Try.prog W = .ok (.int .i64 (mnx l k)) W := fun _ => by kernel_rfl
      have hf1 : ∀ W, (Instr.field 24 (.agg #[.int .i64 (mnx l k), .int .i64 (mnz l k)]) 1).run Try.prog W = .ok (.int .i64 (mnz l k)) W := fun _ => by kernel_rfl
      go_wp2_with fail
      refine (HCV.out).mono ?_
      rintro e w1 ⟨⟨bv, rfl, hbv⟩, hb1⟩
      have HBV := Lib.hid hbv
      clear hbv
      cases bv
      · go_wp2
        go_ret
        exact PBt.no (fun h => by have := HBV.out.2 (HPr.out.1 h).1; cases this) hb1
      · have h312 : 3 ≤ k ∧ k ≤ 12 := by have := HBV.out.1 rfl; exact ⟨this.1, this.2.1⟩
        go_wp2_with fail
        refine (HLO.out w1 hb1 h312).mono ?_
        rintro e w2 ⟨rfl, hb2⟩
        have k2 := Below.thru hb1 hb1.size hb2
        by_cases g1 : mnx l k = 0
        · have g1' : (mnx l k == 0) = true := by simpa using g1
          have G1 := Lib.hid g1
          clear g1
          go_wp2_with fail
          refine (HLO.out w2 k2 h312).mono ?_
          rintro e w3 ⟨rfl, hb3⟩
          have k3 := Below.thru k2 k2.size hb3
          by_cases g2 : mnz l k = 0
          · have g2' : (mnz l k == 0) = true := by simpa using g2
            have G2 := Lib.hid g2
            clear g2
            go_wp2_with fail
            refine (HFI.out w3 k3 h312).mono ?_
            rintro e w4 ⟨rfl, hb4⟩
            have k4 := Below.thru k3 k3.size hb4
            by_cases g3 : fst l k = 0
            · have g3' : ((fst l k : Int) == 0) = true := by simpa using g3
              have G3 := Lib.hid g3
              clear g3
              go_wp2
              go_ret
              exact PBt.yes (HPr.out.2 ⟨HBV.out.1 trivial, G1.out, G2.out, G3.out⟩) k4
            · have g3' : ((fst l k : Int) == 0) = false := by simpa using g3
              have G3 := Lib.hid g3
              clear g3
              go_wp2
              go_ret
              exact PBt.no (fun h => G3.out (HPr.out.1 h).2.2.2) k4
          · have g2' : (mnz l k == 0) = false := by simpa using g2
            have G2 := Lib.hid g2
            clear g2
            go_wp2
            go_ret
            exact PBt.no (fun h => G2.out (HPr.out.1 h).2.2.1) k3
        · have g1' : (mnx l k == 0) = false := by simpa using g1
          have G1 := Lib.hid g1
          clear g1
          go_wp2
          go_ret
          exact PBt.no (fun h => G1.out (HPr.out.1 h).2.1) k2
end Go.Proofs.Ytljmhejljpfaiaa
