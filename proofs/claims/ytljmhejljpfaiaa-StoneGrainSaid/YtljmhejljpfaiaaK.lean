import Derived.Test.YtljmhejljpfaiaaG
namespace Go.Proofs.Ytljmhejljpfaiaa
set_option maxRecDepth 100000
open Go.RowKit

/-- the index of the corner with which a shape begins, among the first k -/
def fst (l : List Pt) : Nat → Nat
  | 0 => 0
  | k + 1 => if pz l k < pz l (fst l k) ∨ (pz l k = pz l (fst l k) ∧ px l k < px l (fst l k)) then k else fst l k
theorem fst_lt (l : List Pt) (k : Nat) (n : Nat) (hn : 0 < n) (hk : k ≤ n) : fst l k < n := by
  induction k with
  | zero => exact hn
  | succ k ih => unfold fst; split; omega; exact ih (by omega)
set_option maxHeartbeats 2000000 in
theorem first_any (b o c : Nat) (l : List Pt) (w : World) (hr : Row w b o l) (h3 : 1 ≤ l.length) (h12 : l.length ≤ 1000000) :
    Calls Try.prog 89 #[.slice (some ⟨b, o, none⟩) l.length c] w fun e w' => e = .returned (.int .i64 (fst l l.length : Nat)) ∧ Below w.heap.size w w' := by
  have HR := Lib.hid hr
  obtain ⟨n, hn⟩ : ∃ n, n = l.length := ⟨_, rfl⟩
  rw [← hn] at h3 h12 ⊢
  have HN := Lib.hid hn
  clear hr hn
  go_enter Try.func89, Try.ntmps89
  go_wp2
  go_loopw [4, 3] (fun i t wr => ∃ k : Nat, k ≤ n ∧ i = .int .i64 k ∧ t = .int .i64 (fst l k : Nat) ∧ Below w.heap.size w wr) (fun i _ _ => n - (intOf i).toNat)
  case atStart => exact ⟨0, Nat.zero_le _, rfl, rfl, Below.refl _ _⟩
  case round =>
    obtain ⟨k, hk, rfl, rfl, hB⟩ := hrel
    by_cases hlt : k < n
    · have hrow := HR.out.keep hB
      have hat : fst l k < n := fst_lt l k n (by omega) hk
      obtain ⟨ckx, ckz⟩ := hrow k (by rw [← HN.out]; exact hlt)
      obtain ⟨cax, caz⟩ := hrow (fst l k) (by rw [← HN.out]; exact hat)
      have HF0 : Hid (fst l (k + 1) = if pz l k < pz l (fst l k) ∨ (pz l k = pz l (fst l k) ∧ px l k < px l (fst l k)) then k else fst l k) := rfl
      have kkx := cell_regrown ckx
      have kkz := cell_regrown ckz
      have kax := cell_regrown cax
      have kaz := cell_regrown caz
      clear hrow ckx ckz cax caz
      generalize fst l k = a at *
      go_wp2_with fail
      by_cases g1 : pz l k < pz l a
      · have HF : Hid (fst l (k + 1) = k) := by show _ = _; rw [HF0.out, if_pos (.inl g1)]
        clear HF0
        refine wp_region_quiet_below (by kernel_rfl) (by kernel_rfl) ?_
        repeat (any_goals (first | go_big_quiet_step (fail) | quiet_step (fail)))
        refine wpQuiet_nil ?_
        intro _ hw'
        obtain ⟨⟨dq1, osq1⟩, hw''⟩ := hw'
        subst hw''
        replace kkx := upq kkx dq1 osq1
        replace kkz := upq kkz dq1 osq1
        replace kax := upq kax dq1 osq1
        replace kaz := upq kaz dq1 osq1
        have hBq := Below.thru hB hB.size (below_regrown wr dq1 osq1)
        generalize Sort.grow (redrawn wr dq1) osq1 = w2 at *
        go_wp2
        go_roundw
        case rel => exact ⟨k + 1, by omega, by go_num, by rw [HF.out], hBq⟩
        case measure => simp [intOf]; omega
      · by_cases g2 : pz l k = pz l a
        · by_cases g3 : px l k < px l a
          · have HF : Hid (fst l (k + 1) = k) := by show _ = _; rw [HF0.out, if_pos (.inr ⟨g2, g3⟩)]
            have g2' : (pz l k == pz l a) = true := by simpa using g2
            clear HF0 g2
            refine wp_region_quiet_below (by kernel_rfl) (by kernel_rfl) ?_
            repeat (any_goals (first | go_big_quiet_step (fail) | quiet_step (fail)))
            refine wpQuiet_nil ?_
            intro _ hw'
            obtain ⟨⟨dq1, osq1⟩, hw''⟩ := hw'
            subst hw''
            replace kkx := upq kkx dq1 osq1
            replace kkz := upq kkz dq1 osq1
            replace kax := upq kax dq1 osq1
            replace kaz := upq kaz dq1 osq1
            have hBq := Below.thru hB hB.size (below_regrown wr dq1 osq1)
            generalize Sort.grow (redrawn wr dq1) osq1 = w2 at *
            go_wp2
            go_roundw
            case rel => exact ⟨k + 1, by omega, by go_num, by rw [HF.out], hBq⟩
            case measure => simp [intOf]; omega
          · have HF : Hid (fst l (k + 1) = a) := by show _ = _; rw [HF0.out, if_neg (by omega)]
            have g2' : (pz l k == pz l a) = true := by simpa using g2
            clear HF0 g2
            refine wp_region_quiet_below (by kernel_rfl) (by kernel_rfl) ?_
            repeat (any_goals (first | go_big_quiet_step (fail) | quiet_step (fail)))
            refine wpQuiet_nil ?_
            intro _ hw'
            obtain ⟨⟨dq1, osq1⟩, hw''⟩ := hw'
            subst hw''
            replace kkx := upq kkx dq1 osq1
            replace kkz := upq kkz dq1 osq1
            replace kax := upq kax dq1 osq1
            replace kaz := upq kaz dq1 osq1
            have hBq := Below.thru hB hB.size (below_regrown wr dq1 osq1)
            generalize Sort.grow (redrawn wr dq1) osq1 = w2 at *
            go_wp2
            go_roundw
            case rel => exact ⟨k + 1, by omega, by go_num, by rw [HF.out], hBq⟩
            case measure => simp [intOf]; omega
        · have HF : Hid (fst l (k + 1) = a) := by show _ = _; rw [HF0.out, if_neg (by omega)]
          have g2' : (pz l k == pz l a) = false := by simpa using g2
          clear HF0 g2
          refine wp_region_quiet_below (by kernel_rfl) (by kernel_rfl) ?_
          repeat (any_goals (first | go_big_quiet_step (fail) | quiet_step (fail)))
          refine wpQuiet_nil ?_
          intro _ hw'
          obtain ⟨⟨dq1, osq1⟩, hw''⟩ := hw'
          subst hw''
          replace kkx := upq kkx dq1 osq1
          replace kkz := upq kkz dq1 osq1
          replace kax := upq kax dq1 osq1
          replace kaz := upq kaz dq1 osq1
          have hBq := Below.thru hB hB.size (below_regrown wr dq1 osq1)
          generalize Sort.grow (redrawn wr dq1) osq1 = w2 at *
          go_wp2
          go_roundw
          case rel => exact ⟨k + 1, by omega, by go_num, by rw [HF.out], hBq⟩
          case measure => simp [intOf]; omega
    · obtain rfl : k = n := by omega
      go_wp2
      go_ret
      exact ⟨rfl, hB⟩
end Go.Proofs.Ytljmhejljpfaiaa
namespace Go.Proofs.Ytljmhejljpfaiaa
set_option maxRecDepth 100000
open Go.RowKit

theorem rconvex_few (p : Option Addr) (c : Nat) (n : Nat) (l : List Pt) (w : World) (hn : ¬ (3 ≤ n ∧ n ≤ 12)) (hm : n ≤ maxLen) : Calls Try.prog 88 #[.slice p n c] w (PBt (3 ≤ n ∧ n ≤ 12 ∧ Cr l) w) := by
  unfold maxLen at hm
  have HN := Lib.hid hn
  by_cases h1 : n < 3
  · have g1 : decide ((n : Int) < 3) = true := by simp; omega
    clear hn
    go_enter Try.func88, Try.ntmps88
    go_wp2
    go_ret
    exact PBt.no (fun h => HN.out ⟨h.1, h.2.1⟩) (Below.refl _ _)
  · have g1 : decide ((n : Int) < 3) = false := by simp; omega
    have g2 : decide (12 < (n : Int)) = true := by simp; omega
    clear hn
    go_enter Try.func88, Try.ntmps88
    go_wp2
    go_ret
    exact PBt.no (fun h => HN.out ⟨h.1, h.2.1⟩) (Below.refl _ _)
theorem rconvex_any (p : Option Addr) (c : Nat) (l : List Pt) (w : World) (h : Pts w (.slice p l.length c) l) (hs : ∀ i, i < l.length → Sm (px l i) ∧ Sm (pz l i)) : Calls Try.prog 88 #[.slice p l.length c] w (PBt (3 ≤ l.length ∧ l.length ≤ 12 ∧ Cr l) w) := by
  by_cases hn : 3 ≤ l.length ∧ l.length ≤ 12
  · obtain ⟨h0, p', c', hv, h⟩ := h
    simp only [Value.slice.injEq, true_and] at hv
    obtain ⟨rfl, rfl⟩ := hv
    rcases h with rfl | ⟨b, o, rfl, h, _⟩
    · simp at hn
    · exact (rconvex_some b o c l w h hn.1 hn.2 hs).mono fun e w' ⟨⟨bv, he, hbv⟩, hb⟩ => ⟨⟨bv, he, hbv.trans ⟨fun h => ⟨hn.1, hn.2, h⟩, fun h => h.2.2⟩⟩, hb⟩
  · exact rconvex_few p c l.length l w hn (by have := h.1; unfold maxLen; omega)
/-- the reference's test of a shape -/
def Pr (l : List Pt) : Prop := Bx l ∧ (3 ≤ l.length ∧ l.length ≤ 12 ∧ Cr l) ∧ mnx l l.length = 0 ∧ mnz l l.length = 0 ∧ fst l l.length = 0
set_option maxHeartbeats 2000000 in
theorem placed_some (b o c : Nat) (l : List Pt) (w : World) (hr : Row w b o l) (h3 : l ≠ []) (hm : l.length ≤ 4611686018427387904) : Calls Try.prog 49 #[.slice (some ⟨b, o, none⟩) l.length c] w (PBt (Pr l) w) := by
  have HR := Lib.hid hr
  obtain ⟨n, hn⟩ : ∃ n, n = l.length := ⟨_, rfl⟩
  rw [← hn] at hm ⊢
  have hn1 : 1 ≤ n := by rw [hn]; exact Nat.one_le_iff_ne_zero.2 (fun h => h3 (List.length_eq_zero_iff.1 h))
  have HN := Lib.hid hn
  clear hr hn h3
  go_enter Try.func49, Try.ntmps49
  go_wp2
  go_loopw [3] (fun i wr => ∃ k : Nat, k ≤ n ∧ i = .int .i64 k ∧ Hid (∀ j, j < k → (0 ≤ px l j ∧ px l j ≤ 2000) ∧ (0 ≤ pz l j ∧ pz l j ≤ 2000)) ∧ wr = w) (fun i _ => n - (intOf i).toNat)
  case atStart => exact ⟨0, Nat.zero_le _, rfl, fun j hj => absurd hj (by omega), rfl⟩
  case round =>
    obtain ⟨k, hk, rfl, HK, rfl⟩ := hrel
    by_cases hlt : k < n
    · have hrow := HR.out
      obtain ⟨ck, cz⟩ := hrow k (by rw [← HN.out]; exact hlt)
      clear hrow
      have HK2 : Hid (inB (px l k) 0 2000 = true → inB (pz l k) 0 2000 = true → ∀ j, j < k + 1 → (0 ≤ px l j ∧ px l j ≤ 2000) ∧ (0 ≤ pz l j ∧ pz l j ≤ 2000)) := fun h1 h2 j hj => by
        rcases Nat.lt_or_ge j k with q | q
        · exact HK.out j q
        · obtain rfl : j = k := by omega
          simp [inB] at h1 h2
          exact ⟨h1, h2⟩
      have HNo : Hid (Pr l → inB (px l k) 0 2000 = true ∧ inB (pz l k) 0 2000 = true) := fun h => by
        have := h.1 k (by rw [← HN.out]; exact hlt)
        exact ⟨inB_t this.1.1 this.1.2, inB_t this.2.1 this.2.2⟩
      cases q1 : inB (px l k) 0 2000 with
      | false =>
        go_wp2_with ((go_at_call 50; refine (in_any _ _ _ _).mono ?_; rintro e w' ⟨rfl, rfl⟩))
        go_ret
        exact PBt.no (fun h => by have := (HNo.out h).1; rw [q1] at this; cases this) (Below.refl _ _)
      | true =>
        cases q2 : inB (pz l k) 0 2000 with
        | false =>
          go_wp2_with ((go_at_call 50; refine (in_any _ _ _ _).mono ?_; rintro e w' ⟨rfl, rfl⟩))
          go_ret
          exact PBt.no (fun h => by have := (HNo.out h).2; rw [q2] at this; cases this) (Below.refl _ _)
        | true =>
          have HK3 := Lib.hid (HK2.out q1 q2)
          go_wp2_with ((go_at_call 50; refine (in_any _ _ _ _).mono ?_; rintro e w' ⟨rfl, rfl⟩))
          go_roundw
          case rel => exact ⟨k + 1, by omega, by go_num, HK3, trivial⟩
          case measure => simp [intOf]; omega
    · obtain rfl : k = n := by omega
      have HBx : Hid (Bx l) := fun i hi => HK.out i (by rw [HN.out]; exact hi)
      have HCV := Lib.hid (rconvex_any (some ⟨b, o, none⟩) c l wr ⟨by rw [← HN.out]; exact hm, _, _, rfl, .inr ⟨b, o, rfl, HR.out, HR.out.lt (by rw [← HN.out]; omega)⟩⟩ HBx.out.sm)
      have HLO : Hid (∀ W, Below wr.heap.size wr W → 3 ≤ k ∧ k ≤ 12 → Calls Try.prog 86 #[.slice (some ⟨b, o, none⟩) k c] W fun e w' => e = .returned (.agg #[.int .i64 (mnx l k), .int .i64 (mnz l k)]) ∧ Below W.heap.size W w') := fun W hW h => by
        have := low_any b o c l W (HR.out.keep hW) (by rw [← HN.out]; omega) (by rw [← HN.out]; omega)
        rw [← HN.out] at this
        exact this
      have HFI : Hid (∀ W, Below wr.heap.size wr W → 3 ≤ k ∧ k ≤ 12 → Calls Try.prog 89 #[.slice (some ⟨b, o, none⟩) k c] W fun e w' => e = .returned (.int .i64 (fst l k : Nat)) ∧ Below W.heap.size W w') := fun W hW h => by
        have := first_any b o c l W (HR.out.keep hW) (by rw [← HN.out]; omega) (by rw [← HN.out]; omega)
        rw [← HN.out] at this
        exact this
      have HPr : Hid (Pr l ↔ (3 ≤ k ∧ k ≤ 12 ∧ Cr l) ∧ mnx l k = 0 ∧ mnz l k = 0 ∧ fst l k = 0) := by
        show _ ↔ _
        have e := HN.out
        subst e
        exact ⟨fun h => h.2, fun h => ⟨HBx.out, h⟩⟩
      rw [← HN.out] at HCV
      have hf0 : ∀ W, (Instr.field 24 (.agg #[.int .i64 (mnx l k), .int .i64 (mnz l k)]) 0).run Try.prog W = .ok (.int .i64 (mnx l k)) W := fun _ => by kernel_rfl
      have hf1 : ∀ W, (Instr.field 24 (.agg #[.int .i64 (mnx l k), .int .i64 (mnz l k)]) 1).run Try.prog W = .ok (.int .i64 (mnz l k)) W := fun _ => by kernel_rfl
      go_wp2_with fail
      refine (HCV.out).mono ?_
      rintro e w1 ⟨⟨bv, rfl, hbv⟩, hb1⟩
      have HBV := Lib.hid hbv
      clear hbv
      cases bv
      · go_wp2
        go_ret
        exact PBt.no (fun h => by have := HBV.out.2 (HPr.out.1 h).1; cases this) hb1
      · have h312 : 3 ≤ k ∧ k ≤ 12 := by have := HBV.out.1 rfl; exact ⟨this.1, this.2.1⟩
        go_wp2_with fail
        refine (HLO.out w1 hb1 h312).mono ?_
        rintro e w2 ⟨rfl, hb2⟩
        have k2 := Below.thru hb1 hb1.size hb2
        by_cases g1 : mnx l k = 0
        · have g1' : (mnx l k == 0) = true := by simpa using g1
          have G1 := Lib.hid g1
          clear g1
          go_wp2_with fail
          refine (HLO.out w2 k2 h312).mono ?_
          rintro e w3 ⟨rfl, hb3⟩
          have k3 := Below.thru k2 k2.size hb3
          by_cases g2 : mnz l k = 0
          · have g2' : (mnz l k == 0) = true := by simpa using g2
            have G2 := Lib.hid g2
            clear g2
            go_wp2_with fail
            refine (HFI.out w3 k3 h312).mono ?_
            rintro e w4 ⟨rfl, hb4⟩
            have k4 := Below.thru k3 k3.size hb4
            by_cases g3 : fst l k = 0
            · have g3' : ((fst l k : Int) == 0) = true := by simpa using g3
              have G3 := Lib.hid g3
              clear g3
              go_wp2
              go_ret
              exact PBt.yes (HPr.out.2 ⟨HBV.out.1 trivial, G1.out, G2.out, G3.out⟩) k4
            · have g3' : ((fst l k : Int) == 0) = false := by simpa using g3
              have G3 := Lib.hid g3
              clear g3
              go_wp2
              go_ret
              exact PBt.no (fun h => G3.out (HPr.out.1 h).2.2.2) k4
          · have g2' : (mnz l k == 0) = false := by simpa using g2
            have G2 := Lib.hid g2
            clear g2
            go_wp2
            go_ret
            exact PBt.no (fun h => G2.out (HPr.out.1 h).2.2.1) k3
        · have g1' : (mnx l k == 0) = false := by simpa using g1
          have G1 := Lib.hid g1
          clear g1
          go_wp2
          go_ret
          exact PBt.no (fun h => G1.out (HPr.out.1 h).2.1) k2
end Go.Proofs.Ytljmhejljpfaiaa
namespace Go.Proofs.Ytljmhejljpfaiaa
set_option maxRecDepth 100000
open Go.RowKit

theorem placed_nil (p : Option Addr) (c : Nat) (w : World) : Calls Try.prog 49 #[.slice p 0 c] w (PBt (Pr []) w) := by
  have HC := Lib.hid (rconvex_few p c 0 [] w (by omega) (by unfold maxLen; omega))
  go_enter Try.func49, Try.ntmps49
  go_wp2
  go_loopw [3] (fun i wr => i = .int .i64 0 ∧ wr = w) (fun i _ => 0)
  case atStart => exact ⟨rfl, rfl⟩
  case round =>
    obtain ⟨rfl, rfl⟩ := hrel
    go_wp2_with fail
    refine (HC.out).mono ?_
    rintro e w1 ⟨⟨bv, rfl, hbv⟩, hb1⟩
    have : bv = false := by
      cases bv
      · rfl
      · have := hbv.1 rfl; omega
    subst this
    clear hbv
    go_wp2
    go_ret
    exact PBt.no (fun h => by have := h.2.1.1; simp at this) hb1
theorem placed_any (v : Value) (l : List Pt) (w : World) (h : Pts w v l) : Calls Try.prog 49 #[v] w (PBt (Pr l) w) := by
  obtain ⟨h0, p, c, rfl, h⟩ := h
  rcases h with rfl | ⟨b, o, rfl, h, hl⟩
  · exact placed_nil p c w
  · by_cases e : l = []
    · subst e
      -- an empty row that is not nil
      have HC := Lib.hid (rconvex_few (some ⟨b, o, none⟩) c 0 [] w (by omega) (by unfold maxLen; omega))
      rw [List.length_nil]
      go_enter Try.func49, Try.ntmps49
      go_wp2
      go_loopw [3] (fun i wr => i = .int .i64 0 ∧ wr = w) (fun i _ => 0)
      case atStart => exact ⟨rfl, rfl⟩
      case round =>
        obtain ⟨rfl, rfl⟩ := hrel
        go_wp2_with fail
        refine (HC.out).mono ?_
        rintro e w1 ⟨⟨bv, rfl, hbv⟩, hb1⟩
        have : bv = false := by
          cases bv
          · rfl
          · have := hbv.1 rfl; omega
        subst this
        clear hbv
        go_wp2
        go_ret
        exact PBt.no (fun h => by have := h.2.1.1; simp at this) hb1
    · exact placed_some b o c l w h e h0
/-- a stone in a box -/
structure StB (B : Nat) (nm : ByteArray) (v : Value) (dp dn gx gz : Int) (w : World) : Prop where
  c0 : w.cell? ⟨B, 0, none⟩ = some (.string nm)
  c1 : w.cell? ⟨B, 1, none⟩ = some v
  c2 : w.cell? ⟨B, 2, none⟩ = some (.int .i64 dp)
  c3 : w.cell? ⟨B, 3, none⟩ = some (.int .i64 dn)
  c4 : w.cell? ⟨B, 4, none⟩ = some (.int .i64 gx)
  c5 : w.cell? ⟨B, 5, none⟩ = some (.int .i64 gz)
theorem StB.keep {B : Nat} {nm : ByteArray} {v : Value} {dp dn gx gz : Int} {w w' : World} (h : StB B nm v dp dn gx gz w) (hb : Below w.heap.size w w') : StB B nm v dp dn gx gz w' := by
  have hl := cell_lt h.c0
  exact ⟨(hb.cell (p := ⟨B, _, none⟩) hl).trans h.c0, (hb.cell (p := ⟨B, _, none⟩) hl).trans h.c1, (hb.cell (p := ⟨B, _, none⟩) hl).trans h.c2, (hb.cell (p := ⟨B, _, none⟩) hl).trans h.c3, (hb.cell (p := ⟨B, _, none⟩) hl).trans h.c4, (hb.cell (p := ⟨B, _, none⟩) hl).trans h.c5⟩
theorem StB.new (w : World) (nm : ByteArray) (v : Value) (dp dn gx gz : Int) (T : TypeId) : StB w.heap.size nm v dp dn gx gz (w.alloc (.cells #[.string nm, v, .int .i64 dp, .int .i64 dn, .int .i64 gx, .int .i64 gz] T)) :=
  ⟨by simp [go_sem], by simp [go_sem], by simp [go_sem], by simp [go_sem], by simp [go_sem], by simp [go_sem]⟩
/-- a stone that is valid, for the reference -/
def VldR (s : SV) : Prop := Nm s.nm ∧ Pr s.l ∧ Bd s.dp s.dn s.gx s.gz
set_option maxHeartbeats 2000000 in
theorem valid_any (s : SV) (v : Value) (w : World) (hn : s.nm.size ≤ maxLen) (h : Pts w v s.l) : Calls Try.prog 15 #[stv s v] w (PBt (VldR s) w) := by
  obtain ⟨p, c, hv⟩ : ∃ p c, v = .slice p s.l.length c := ⟨_, _, h.2.choose_spec.choose_spec.1⟩
  subst hv
  obtain ⟨nm, l, dp, dn, gx, gz⟩ := s
  have HP := Lib.hid h
  have HN := Lib.hid (fun w => named_any nm w hn)
  dsimp only at *
  have HV : Hid (VldR ⟨nm, l, dp, dn, gx, gz⟩ ↔ Nm nm ∧ Pr l ∧ inB dp 1 2000 = true ∧ inB dn 1 10000 = true ∧ (gx ≠ 0 ∨ gz ≠ 0) ∧ inB gx (-100) 100 = true ∧ inB gz (-100) 100 = true) := by
    have iff : ∀ {x a b : Int}, inB x a b = true ↔ (a ≤ x ∧ x ≤ b) := fun {x a b} => by simp [inB]
    show _ ↔ _
    rw [iff, iff, iff, iff]; rfl
  unfold stv
  dsimp only
  clear h hn
  go_enter Try.func15, Try.ntmps15
  go_wp2_with fail
  have hS := (StB.new w nm (.slice p l.length c) dp dn gx gz 26).keep (bl1 _ (.cells #[.int .i64 gx, .int .i64 gz] 24))
  have hG : B2 (w.heap.size + 1) gx gz ((w.alloc (.cells #[.string nm, .slice p l.length c, .int .i64 dp, .int .i64 dn, .int .i64 gx, .int .i64 gz] 26)).alloc (.cells #[.int .i64 gx, .int .i64 gz] 24)) := ⟨by simp [go_sem], by simp [go_sem], by simp [go_sem], by simp [go_sem]⟩
  have hB0 := bl2 w (.cells #[.string nm, .slice p l.length c, .int .i64 dp, .int .i64 dn, .int .i64 gx, .int .i64 gz] 26) (.cells #[.int .i64 gx, .int .i64 gz] 24)
  generalize (w.alloc (.cells #[.string nm, .slice p l.length c, .int .i64 dp, .int .i64 dn, .int .i64 gx, .int .i64 gz] 26)).alloc (.cells #[.int .i64 gx, .int .i64 gz] 24) = w0 at *
  refine (HN.out _).mono ?_
  rintro e w1 ⟨⟨bv, rfl, hbv⟩, hb1⟩
  have HBV := Lib.hid hbv
  replace hS := hS.keep hb1
  replace hG := hG.keep hb1
  have k1 := Below.thru hB0 hB0.size hb1
  clear hbv hb1 hB0
  cases bv
  · go_wp2
    go_ret
    exact PBt.no (fun h => by have := HBV.out.2 (HV.out.1 h).1; cases this) k1
  · obtain ⟨c0, c1, c2, c3, c4, c5⟩ := hS
    obtain ⟨b0, b1, _, _⟩ := hG
    go_wp2_with fail
    refine (placed_any _ l w1 (HP.out.keep k1)).mono ?_
    rintro e w2 ⟨⟨bp, rfl, hbp⟩, hb2⟩
    have HBP := Lib.hid hbp
    have k2 := Below.thru k1 k1.size hb2
    have hz := cell_lt c0
    have hz1 := cell_lt b0
    have d2 : w2.cell? ⟨w.heap.size, 2, none⟩ = some (.int .i64 dp) := (hb2.cell (p := ⟨_, _, none⟩) hz).trans c2
    have d3 : w2.cell? ⟨w.heap.size, 3, none⟩ = some (.int .i64 dn) := (hb2.cell (p := ⟨_, _, none⟩) hz).trans c3
    have e0 : w2.cell? ⟨w.heap.size + 1, 0, none⟩ = some (.int .i64 gx) := (hb2.cell (p := ⟨_, _, none⟩) hz1).trans b0
    have e1 : w2.cell? ⟨w.heap.size + 1, 1, none⟩ = some (.int .i64 gz) := (hb2.cell (p := ⟨_, _, none⟩) hz1).trans b1
    clear c0 c1 c2 c3 c4 c5 b0 b1 hbp hb2 k1
    cases bp
    · go_wp2
      go_ret
      exact PBt.no (fun h => by have := HBP.out.2 (HV.out.1 h).2.1; cases this) k2
    · cases q1 : inB dp 1 2000 with
      | false =>
        go_wp2_with ((go_at_call 50; refine (in_any _ _ _ _).mono ?_; rintro e w' ⟨rfl, rfl⟩))
        go_ret
        exact PBt.no (fun h => by have := (HV.out.1 h).2.2.1; rw [q1] at this; cases this) k2
      | true =>
        cases q2 : inB dn 1 10000 with
        | false =>
          go_wp2_with ((go_at_call 50; refine (in_any _ _ _ _).mono ?_; rintro e w' ⟨rfl, rfl⟩))
          go_ret
          exact PBt.no (fun h => by have := (HV.out.1 h).2.2.2.1; rw [q2] at this; cases this) k2
        | true =>
          by_cases g1 : gx = 0
          · have g1' : (gx != 0) = false := by simpa using g1
            by_cases g2 : gz = 0
            · have g2' : (gz != 0) = false := by simpa using g2
              have G1 := Lib.hid g1; have G2 := Lib.hid g2
              clear g1 g2
              go_wp2_with ((go_at_call 50; refine (in_any _ _ _ _).mono ?_; rintro e w' ⟨rfl, rfl⟩))
              go_ret
              exact PBt.no (fun h => by rcases (HV.out.1 h).2.2.2.2.1 with h | h; exact h G1.out; exact h G2.out) k2
            · have g2' : (gz != 0) = true := by simpa using g2
              have G1 := Lib.hid g1; have G2 := Lib.hid g2
              clear g1 g2
              cases q4 : inB gx (-100) 100 with
              | false =>
                go_wp2_with ((go_at_call 50; refine (in_any _ _ _ _).mono ?_; rintro e w' ⟨rfl, rfl⟩))
                go_ret
                exact PBt.no (fun h => by have := (HV.out.1 h).2.2.2.2.2.1; rw [q4] at this; cases this) k2
              | true =>
                cases q5 : inB gz (-100) 100 with
                | false =>
                  go_wp2_with ((go_at_call 50; refine (in_any _ _ _ _).mono ?_; rintro e w' ⟨rfl, rfl⟩))
                  go_ret
                  exact PBt.no (fun h => by have := (HV.out.1 h).2.2.2.2.2.2; rw [q5] at this; cases this) k2
                | true =>
                  go_wp2_with ((go_at_call 50; refine (in_any _ _ _ _).mono ?_; rintro e w' ⟨rfl, rfl⟩))
                  go_ret
                  exact PBt.yes (HV.out.2 ⟨HBV.out.1 trivial, HBP.out.1 trivial, q1, q2, .inr G2.out, q4, q5⟩) k2
          · have g1' : (gx != 0) = true := by simpa using g1
            have G1 := Lib.hid g1
            clear g1
            cases q4 : inB gx (-100) 100 with
            | false =>
              go_wp2_with ((go_at_call 50; refine (in_any _ _ _ _).mono ?_; rintro e w' ⟨rfl, rfl⟩))
              go_ret
              exact PBt.no (fun h => by have := (HV.out.1 h).2.2.2.2.2.1; rw [q4] at this; cases this) k2
            | true =>
              cases q5 : inB gz (-100) 100 with
              | false =>
                go_wp2_with ((go_at_call 50; refine (in_any _ _ _ _).mono ?_; rintro e w' ⟨rfl, rfl⟩))
                go_ret
                exact PBt.no (fun h => by have := (HV.out.1 h).2.2.2.2.2.2; rw [q5] at this; cases this) k2
              | true =>
                go_wp2_with ((go_at_call 50; refine (in_any _ _ _ _).mono ?_; rintro e w' ⟨rfl, rfl⟩))
                go_ret
                exact PBt.yes (HV.out.2 ⟨HBV.out.1 trivial, HBP.out.1 trivial, q1, q2, .inl G1.out, q4, q5⟩) k2
end Go.Proofs.Ytljmhejljpfaiaa
namespace Go.Proofs.Ytljmhejljpfaiaa

theorem pt_1 (l : List Pt) (i : Nat) : (pt l i).1 = px l i := rfl
theorem pt_2 (l : List Pt) (i : Nat) : (pt l i).2 = pz l i := rfl
theorem Pl.up {l : List Pt} (h : Pl l) : Up l := ⟨fun i hi => by rw [pt_2, pt_2, h.2.2.2.1]; exact (h.2.1 i hi).2.1, by rw [pt_2, pt_2, h.2.2.2.1]; exact h.2.2.2.2.1⟩
theorem Pl.tr {l : List Pt} (h : Pl l) : Tr l := h.2.2.2.2.2.tr h.up
theorem mnz_zero {l : List Pt} (h : ∀ i, i < l.length → 0 ≤ pz l i) (h0 : pz l 0 = 0) : ∀ k, k ≤ l.length → mnz l k = 0 := by
  intro k
  induction k with
  | zero => intro _; exact h0
  | succ k ih => intro hk; unfold mnz; rw [ih (by omega), if_neg (by have := h k (by omega); omega)]
theorem fst_zero {l : List Pt} (h : ∀ i, i < l.length → ¬ (pz l i < pz l 0 ∨ (pz l i = pz l 0 ∧ px l i < px l 0))) : ∀ k, k ≤ l.length → fst l k = 0 := by
  intro k
  induction k with
  | zero => intro _; rfl
  | succ k ih => intro hk; unfold fst; rw [ih (by omega), if_neg (h k (by omega))]
theorem zero_fst {l : List Pt} {n : Nat} (h : fst l n = 0) : ∀ k, k < n → ¬ (pz l k < pz l 0 ∨ (pz l k = pz l 0 ∧ px l k < px l 0)) := by
  have back : ∀ k, fst l (k + 1) = 0 → fst l k = 0 := fun k hk => by
    unfold fst at hk
    split at hk
    · subst hk; rfl
    · exact hk
  have all : ∀ d, d ≤ n → fst l (n - d) = 0 := by
    intro d
    induction d with
    | zero => intro _; exact h
    | succ d ih => intro hd; exact back _ (by rw [show n - (d + 1) + 1 = n - d by omega]; exact ih (by omega))
  intro k hk hc
  have h1 := all (n - (k + 1)) (by omega)
  have h2 := all (n - k) (by omega)
  rw [show n - (n - (k + 1)) = k + 1 by omega] at h1
  rw [show n - (n - k) = k by omega] at h2
  unfold fst at h1
  rw [h2, if_pos hc] at h1
  subst h1
  omega
theorem Pl.pr {l : List Pt} (h : Pl l) : Pr l := by
  have hz : ∀ i, i < l.length → 0 ≤ pz l i := fun i hi => (h.2.1 i hi).2.1
  refine ⟨h.2.1, ⟨h.1.1, h.1.2, h.tr.cr h.1.1⟩, h.2.2.1, mnz_zero hz h.2.2.2.1 _ (Nat.le_refl _), fst_zero (fun i hi hc => ?_) _ (Nat.le_refl _)⟩
  have h0 := h.2.2.2.1
  rw [h0] at hc
  have hi0 := hz i hi
  rcases hc with hc | ⟨hc, hx⟩
  · omega
  · rcases Nat.lt_or_ge i 2 with q | q
    · obtain rfl : i = 1 := by
        rcases Nat.eq_zero_or_pos i with e | e
        · subst e; omega
        · omega
      have h12 := h.tr 0 1 2 (by omega) (by omega) (by have := h.1.1; omega)
      have h2 := hz 2 (by have := h.1.1; omega)
      unfold D3 at h12
      rw [pt_1, pt_1, pt_1, pt_2, pt_2, pt_2, h0, hc] at h12
      simp only [Int.sub_zero, Int.mul_zero] at h12
      have := Int.mul_nonneg (show 0 ≤ -(px l 1 - px l 0) by omega) h2
      rw [Int.neg_mul] at this
      omega
    · have := h.2.2.2.2.2.up h.up q hi
      rw [pt_2, pt_2] at this
      omega
theorem Pr.pl {l : List Pt} (h : Pr l) : Pl l := by
  obtain ⟨hb, ⟨h3, h12, hc⟩, hx, hz, hf⟩ := h
  have hf' := zero_fst hf
  have h0 : pz l 0 = 0 := by
    have : ∀ k, k ≤ l.length → mnz l k = pz l 0 := by
      intro k
      induction k with
      | zero => intro _; rfl
      | succ k ih => intro hk; unfold mnz; rw [ih (by omega), if_neg (by have := hf' k (by omega); omega)]
    rw [this _ (Nat.le_refl _)] at hz
    exact hz
  refine ⟨⟨h3, h12⟩, hb, hx, h0, ?_, hc.cv h3⟩
  have hl := (hb (l.length - 1) (by omega)).2.1
  rcases Int.lt_or_le 0 (pz l (l.length - 1)) with q | q
  · exact q
  · exfalso
    have e : pz l (l.length - 1) = 0 := by omega
    have hle := hf' (l.length - 1) (by omega)
    rw [h0, e] at hle
    have e1 : (l.length - 1 + 1) % l.length = 0 := by rw [show l.length - 1 + 1 = l.length by omega, Nat.mod_self]
    have h1 := hc (l.length - 1) 1 (by omega) (by omega) (by omega) (by omega)
    rw [e1] at h1
    have hz1 := (hb 1 (by omega)).2.1
    unfold D3 at h1
    rw [pt_1, pt_1, pt_1, pt_2, pt_2, pt_2, h0, e] at h1
    simp only [Int.sub_zero, Int.mul_zero] at h1
    have := Int.mul_nonneg (show 0 ≤ -(px l 0 - px l (l.length - 1)) by omega) hz1
    rw [Int.neg_mul] at this
    omega
theorem pl_pr {l : List Pt} : Pl l ↔ Pr l := ⟨Pl.pr, Pr.pl⟩
theorem vld_vldR {s : SV} : Vld s ↔ VldR s := by unfold Vld VldR; rw [pl_pr]
end Go.Proofs.Ytljmhejljpfaiaa
