import Derived.Test.YtljmhejljpfaiaaI
namespace Go.Proofs.Ytljmhejljpfaiaa
set_option maxRecDepth 100000
open Go.RowKit

theorem placed_nil (p : Option Addr) (c : Nat) (w : World) : Calls Try.prog 49 #[.slice p 0 c] w (PBt (Pr []) w) := by
  have HC := Lib.hid (rconvex_few p c 0 [] w (by omega) (by unfold maxLen; omega))
  go_enter Try.func49, Try.ntmps49
  go_wp2
  go_loopw [3] (fun i wr => i = .int .i64 0 ∧ wr = w) (fun i _ => 0)
  case atStart => exact ⟨rfl, rfl⟩
  case round =>
    obtain ⟨rfl, rfl⟩ := hrel
    go_wp2_with fail
    refine (HC.out).mono ?_
    rintro e w1 ⟨⟨bv, rfl, hbv⟩, hb1⟩
    have : bv = false := by
      cases bv
      · rfl
      · have := hbv.1 rfl; omega
    subst this
    clear hbv
    go_wp2
    go_ret
    exact PBt.no (fun h => by have := h.2.1.1; simp at this) hb1
theorem placed_any (v : Value) (l : List Pt) (w : World) (h : Pts w v l) : Calls Try.prog 49 #[v] w (PBt (Pr l) w) := by
  obtain ⟨h0, p, c, rfl, h⟩ := h
  rcases h with rfl | ⟨b, o, rfl, h, hl⟩
  · exact placed_nil p c w
  · by_cases e : l = []
    · subst e
      -- an empty row that is not nil
      have HC := Lib.hid (rconvex_few (some ⟨b, o, none⟩) c 0 [] w (by omega) (by unfold maxLen; omega))
      rw [List.length_nil]
      go_enter Try.func49, Try.ntmps49
      go_wp2
      go_loopw [3] (fun i wr => i = .int .i64 0 ∧ wr = w) (fun i _ => 0)
      case atStart => exact ⟨rfl, rfl⟩
      case round =>
        obtain ⟨rfl, rfl⟩ := hrel
        go_wp2_with fail
        refine (HC.out).mono ?_
        rintro e w1 ⟨⟨bv, rfl, hbv⟩, hb1⟩
        have : bv = false := by
          cases bv
          · rfl
          · have := hbv.1 rfl; omega
        subst this
        clear hbv
        go_wp2
        go_ret
        exact PBt.no (fun h => by have := h.2.1.1; simp at this) hb1
    · exact placed_some b o c l w h e h0
/-- a stone in a box -/
structure StB (B : Nat) (nm : ByteArray) (v : Value) (dp dn gx gz : Int) (w : World) : Prop where
  c0 : w.cell? ⟨B, 0, none⟩ = some (.string nm)
  c1 : w.cell? ⟨B, 1, none⟩ = some v
  c2 : w.cell? ⟨B, 2, none⟩ = some (.int .i64 dp)
  c3 : w.cell? ⟨B, 3, none⟩ = some (.int .i64 dn)
  c4 : w.cell? ⟨B, 4, none⟩ = some (.int .i64 gx)
  c5 : w.cell? ⟨B, 5, none⟩ = some (.int .i64 gz)
theorem StB.keep {B : Nat} {nm : ByteArray} {v : Value} {dp dn gx gz : Int} {w w' : World} (h : StB B nm v dp dn gx gz w) (hb : Below w.heap.size w w') : StB B nm v dp dn gx gz w' := by
  have hl := cell_lt h.c0
  exact ⟨(hb.cell (p := ⟨B, _, none⟩) hl).trans h.c0, (hb.cell (p := ⟨B, _, none⟩) hl).trans h.c1, (hb.cell (p := ⟨B, _, none⟩) hl).trans h.c2, (hb.cell (p := ⟨B, _, none⟩) hl).trans h.c3, (hb.cell (p := ⟨B, _, none⟩) hl).trans h.c4, (hb.cell (p := ⟨B, _, none⟩) hl).trans h.c5⟩
theorem StB.new (w : World) (nm : ByteArray) (v : Value) (dp dn gx gz : Int) (T : TypeId) : StB w.heap.size nm v dp dn gx gz (w.alloc (.cells #[.string nm, v, .int .i64 dp, .int .i64 dn, .int .i64 gx, .int .i64 gz] T)) :=
  ⟨by simp [go_sem], by simp [go_sem], by simp [go_sem], by simp [go_sem], by simp [go_sem], by simp [go_sem]⟩
/-- a stone that is valid, for the reference -/
def VldR (s : SV) : Prop := Nm s.nm ∧ Pr s.l ∧ Bd s.dp s.dn s.gx s.gz
set_option maxHeartbeats 2000000 in
theorem valid_any (s : SV) (v : Value) (w : World) (hn : s.nm.size ≤ maxLen) (h : Pts w v s.l) : Calls Try.prog 15 #[stv s v] w (PBt (VldR s) w) := by
  obtain ⟨p, c, hv⟩ : ∃ p c, v = .slice p s.l.length c := ⟨_, _, h.2.choose_spec.choose_spec.1⟩
  subst hv
  obtain ⟨nm, l, dp, dn, gx, gz⟩ := s
  have HP := Lib.hid h
  have HN := Lib.hid (fun w => named_any nm w hn)
  dsimp only at *
  have HV : Hid (VldR ⟨nm, l, dp, dn, gx, gz⟩ ↔ Nm nm ∧ Pr l ∧ inB dp 1 2000 = true ∧ inB dn 1 10000 = true ∧ (gx ≠ 0 ∨ gz ≠ 0) ∧ inB gx (-100) 100 = true ∧ inB gz (-100) 100 = true) := by
    have iff : ∀ {x a b : Int}, inB x a b = true ↔ (a ≤ x ∧ x ≤ b) := fun {x a b} => by simp [inB]
    show _ ↔ _
    rw [iff, iff, iff, iff]; rfl
  unfold stv
  dsimp only
  clear h hn
  go_enter Try.func15, Try.ntmps15
  go_wp2_with fail
  have hS := (StB.new w nm (.slice p l.length c) dp dn gx gz 26).keep (bl1 _ (.cells #[.int .i64 gx, .int .i64 gz] 24))
  have hG : B2 (w.heap.size + 1) gx gz ((w.alloc (.cells #[.string nm, .slice p l.length c, .int .i64 dp, .int .i64 dn, .int .i64 gx, .int .i64 gz] 26)).alloc (.cells #[.int .i64 gx, .int .i64 gz] 24)) := ⟨by simp [go_sem], by simp [go_sem], by simp [go_sem], by simp [go_sem]⟩
  have hB0 := bl2 w (.cells #[.string nm, .slice p l.length c, .int .i64 dp, .int .i64 dn, .int .i64 gx, .int .i64 gz] 26) (.cells #[.int .i64 gx, .int .i64 gz] 24)
  generalize (w.alloc (.cells #[.string nm, .slice p l.length c, .int .i64 dp, .int .i64 dn, .int .i64 gx, .int .i64 gz] 26)).alloc (.cells #[.int .i64 gx, .int .i64 gz] 24) = w0 at *
  refine (HN.out _).mono ?_
  rintro e w1 ⟨⟨bv, rfl, hbv⟩, hb1⟩
  have HBV := Lib.hid hbv
  replace hS := hS.keep hb1
  replace hG := hG.keep hb1
  have k1 := Below.thru hB0 hB0.size hb1
  clear hbv hb1 hB0
  cases bv
  · go_wp2
    go_ret
    exact PBt.no (fun h => by have := HBV.out.2 (HV.out.1 h).1; cases this) k1
  · obtain ⟨c0, c1, c2, c3, c4, c5⟩ := hS
    obtain ⟨b0, b1, _, _⟩ := hG
    go_wp2_with fail
    refine (placed_any _ l w1 (HP.out.keep k1)).mono ?_
    rintro e w2 ⟨⟨bp, rfl, hbp⟩, hb2⟩
    have HBP := Lib.hid hbp
    have k2 := Below.thru k1 k1.size hb2
    have hz := cell_lt c0
    have hz1 := cell_lt b0
    have d2 : w2.cell? ⟨w.heap.size, 2, none⟩ = some (.int .i64 dp) := (hb2.cell (p := ⟨_, _, none⟩) hz).trans c2
    have d3 : w2.cell? ⟨w.heap.size, 3, none⟩ = some (.int .i64 dn) := (hb2.cell (p := ⟨_, _, none⟩) hz).trans c3
    have e0 : w2.cell? ⟨w.heap.size + 1, 0, none⟩ = some (.int .i64 gx) := (hb2.cell (p := ⟨_, _, none⟩) hz1).trans b0
    have e1 : w2.cell? ⟨w.heap.size + 1, 1, none⟩ = some (.int .i64 gz) := (hb2.cell (p := ⟨_, _, none⟩) hz1).trans b1
    clear c0 c1 c2 c3 c4 c5 b0 b1 hbp hb2 k1
    cases bp
    · go_wp2
      go_ret
      exact PBt.no (fun h => by have := HBP.out.2 (HV.out.1 h).2.1; cases this) k2
    · cases q1 : inB dp 1 2000 with
      | false =>
        go_wp2_with ((go_at_call 50; refine (in_any _ _ _ _).mono ?_; rintro e w' ⟨rfl, rfl⟩))
        go_ret
        exact PBt.no (fun h => by have := (HV.out.1 h).2.2.1; rw [q1] at this; cases this) k2
      | true =>
        cases q2 : inB dn 1 10000 with
        | false =>
          go_wp2_with ((go_at_call 50; refine (in_any _ _ _ _).mono ?_; rintro e w' ⟨rfl, rfl⟩))
          go_ret
          exact PBt.no (fun h => by have := (HV.out.1 h).2.2.2.1; rw [q2] at this; cases this) k2
        | true =>
          by_cases g1 : gx = 0
          · have g1' : (gx != 0) = false := by simpa using g1
            by_cases g2 : gz = 0
            · have g2' : (gz != 0) = false := by simpa using g2
              have G1 := Lib.hid g1; have G2 := Lib.hid g2
              clear g1 g2
              go_wp2_with ((go_at_call 50; refine (in_any _ _ _ _).mono ?_; rintro e w' ⟨rfl, rfl⟩))
              go_ret
              exact PBt.no (fun h => by rcases (HV.out.1 h).2.2.2.2.1 with h | h; exact h G1.out; exact h G2.out) k2
            · have g2' : (gz != 0) = true := by simpa using g2
              have G1 := Lib.hid g1; have G2 := Lib.hid g2
              clear g1 g2
              cases q4 : inB gx (-100) 100 with
              | false =>
                go_wp2_with ((go_at_call 50; refine (in_any _ _ _ _).mono ?_; rintro e w' ⟨rfl, rfl⟩))
                go_ret
                exact PBt.no (fun h => by have := (HV.out.1 h).2.2.2.2.2.1; rw [q4] at this; cases this) k2
              | true =>
                cases q5 : inB gz (-100) 100 with
                | false =>
                  go_wp2_with ((go_at_call 50; refine (in_any _ _ _ _).mono ?_; rintro e w' ⟨rfl, rfl⟩))
                  go_ret
                  exact PBt.no (fun h => by have := (HV.out.1 h).2.2.2.2.2.2; rw [q5] at this; cases this) k2
                | true =>
                  go_wp2_with ((go_at_call 50; refine (in_any _ _ _ _).mono ?_; rintro e w' ⟨rfl, rfl⟩))
                  go_ret
                  exact PBt.yes (HV.out.2 ⟨HBV.out.1 trivial, HBP.out.1 trivial, q1, q2, .inr G2.out, q4, q5⟩) k2
          · have g1' : (gx != 0) = true := by simpa using g1
            have G1 := Lib.hid g1
            clear g1
            cases q4 : inB gx (-100) 100 with
            | false =>
              go_wp2_with ((go_at_call 50; refine (in_any _ _ _ _).mono ?_; rintro e w' ⟨rfl, rfl⟩))
              go_ret
              exact PBt.no (fun h => by have := (HV.out.1 h).2.2.2.2.2.1; rw [q4] at this; cases this) k2
            | true =>
              cases q5 : inB gz (-100) 100 with
              | false =>
                go_wp2_with ((go_at_call 50; refine (in_any _ _ _ _).mono ?_; rintro e w' ⟨rfl, rfl⟩))
                go_ret
                exact PBt.no (fun h => by have := (HV.out.1 h).2.2.2.2.2.2; rw [q5] at this; cases this) k2
              | true =>
                go_wp2_with ((go_at_call 50; refine (in_any _ _ _ _).mono ?_; rintro e w' ⟨rfl, rfl⟩))
                go_ret
                exact PBt.yes (HV.out.2 ⟨HBV.out.1 trivial, HBP.out.1 trivial, q1, q2, .inl G1.out, q4, q5⟩) k2
end Go.Proofs.Ytljmhejljpfaiaa
