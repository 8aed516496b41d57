import Derived.Test.YtljmhejljpfaiaaGreatD
namespace Go.Proofs.YtljmhejljpfaiaaGreat
set_option maxRecDepth 100000
set_option maxRecDepth 100000
open Go.RowKit

/-- a stone: its numbers -/
structure SV where
  nm : ByteArray
  l : List Pt
  dp : Int
  dn : Int
  gx : Int
  gz : Int
/-- depth, density and grain are valid -/
def Bd (dp dn gx gz : Int) : Prop := (1 ≤ dp ∧ dp ≤ 2000) ∧ (1 ≤ dn ∧ dn ≤ 10000) ∧ (gx ≠ 0 ∨ gz ≠ 0) ∧ (-100 ≤ gx ∧ gx ≤ 100) ∧ (-100 ≤ gz ∧ gz ≤ 100)
/-- a stone's value: its shape lies in v -/
def stv (s : SV) (v : Value) : Value := .agg #[.string s.nm, v, .int .i64 s.dp, .int .i64 s.dn, .int .i64 s.gx, .int .i64 s.gz]
set_option maxHeartbeats 1000000 in
theorem validBody_any (nm : ByteArray) (p : Option Addr) (n c : Nat) (dp dn gx gz : Int) (w : World) :
    Calls Tryz.prog 57 #[.agg #[.string nm, .slice p n c, .int .i64 dp, .int .i64 dn, .int .i64 gx, .int .i64 gz]] w (PBt (Bd dp dn gx gz) w) := by
  have iff : ∀ {x a b : Int}, inB x a b = true ↔ (a ≤ x ∧ x ≤ b) := fun {x a b} => by simp [inB]
  have HB : Hid (Bd dp dn gx gz ↔ inB dp 1 2000 = true ∧ inB dn 1 10000 = true ∧ (gx ≠ 0 ∨ gz ≠ 0) ∧ inB gx (-100) 100 = true ∧ inB gz (-100) 100 = true) := by
    show _ ↔ _
    rw [iff, iff, iff, iff]; rfl
  clear iff
  cases q1 : inB dp 1 2000 with
  | false =>
    go_enter Tryz.func57, Tryz.ntmps57
    go_wp2_with ((go_at_call 17; refine (within_any _ _ _ _).mono ?_; rintro e w' ⟨rfl, rfl⟩))
    go_ret
    exact PBt.no (fun h => by have := (HB.out.1 h).1; rw [q1] at this; cases this) (bl1 _ _)
  | true =>
    cases q2 : inB dn 1 10000 with
    | false =>
      go_enter Tryz.func57, Tryz.ntmps57
      go_wp2_with ((go_at_call 17; refine (within_any _ _ _ _).mono ?_; rintro e w' ⟨rfl, rfl⟩))
      go_ret
      exact PBt.no (fun h => by have := (HB.out.1 h).2.1; rw [q2] at this; cases this) (bl1 _ _)
    | true =>
      by_cases g1 : gx = 0
      · by_cases g2 : gz = 0
        · subst g1 g2
          go_enter Tryz.func57, Tryz.ntmps57
          go_wp2_with ((go_at_call 17; refine (within_any _ _ _ _).mono ?_; rintro e w' ⟨rfl, rfl⟩))
          go_ret
          exact PBt.no (fun h => by have := (HB.out.1 h).2.2.1; omega) (bl1 _ _)
        · subst g1
          cases q4 : inB 0 (-100) 100 with
          | false =>
            go_enter Tryz.func57, Tryz.ntmps57
            go_wp2_with ((go_at_call 17; refine (within_any _ _ _ _).mono ?_; rintro e w' ⟨rfl, rfl⟩))
            go_ret
            exact PBt.no (fun h => by have := (HB.out.1 h).2.2.2.1; rw [q4] at this; cases this) (bl1 _ _)
          | true =>
            cases q5 : inB gz (-100) 100 with
            | false =>
              go_enter Tryz.func57, Tryz.ntmps57
              go_wp2_with ((go_at_call 17; refine (within_any _ _ _ _).mono ?_; rintro e w' ⟨rfl, rfl⟩))
              go_ret
              exact PBt.no (fun h => by have := (HB.out.1 h).2.2.2.2; rw [q5] at this; cases this) (bl1 _ _)
            | true =>
              go_enter Tryz.func57, Tryz.ntmps57
              go_wp2_with ((go_at_call 17; refine (within_any _ _ _ _).mono ?_; rintro e w' ⟨rfl, rfl⟩))
              go_ret
              exact PBt.yes (HB.out.2 ⟨q1, q2, .inr g2, q4, q5⟩) (bl1 _ _)
      · 
        cases q4 : inB gx (-100) 100 with
        | false =>
          go_enter Tryz.func57, Tryz.ntmps57
          go_wp2_with ((go_at_call 17; refine (within_any _ _ _ _).mono ?_; rintro e w' ⟨rfl, rfl⟩))
          go_ret
          exact PBt.no (fun h => by have := (HB.out.1 h).2.2.2.1; rw [q4] at this; cases this) (bl1 _ _)
        | true =>
          cases q5 : inB gz (-100) 100 with
          | false =>
            go_enter Tryz.func57, Tryz.ntmps57
            go_wp2_with ((go_at_call 17; refine (within_any _ _ _ _).mono ?_; rintro e w' ⟨rfl, rfl⟩))
            go_ret
            exact PBt.no (fun h => by have := (HB.out.1 h).2.2.2.2; rw [q5] at this; cases this) (bl1 _ _)
          | true =>
            go_enter Tryz.func57, Tryz.ntmps57
            go_wp2_with ((go_at_call 17; refine (within_any _ _ _ _).mono ?_; rintro e w' ⟨rfl, rfl⟩))
            go_ret
            exact PBt.yes (HB.out.2 ⟨q1, q2, .inl g1, q4, q5⟩) (bl1 _ _)

/-- a valid stone -/
def Vld (s : SV) : Prop := Nm s.nm ∧ Pl s.l ∧ Bd s.dp s.dn s.gx s.gz
/-- a row of points, nil or not, that is a value -/
def Pts (w : World) (v : Value) (l : List Pt) : Prop := l.length ≤ 4611686018427387904 ∧ ∃ p c, v = .slice p l.length c ∧ (l = [] ∨ ∃ b o, p = some ⟨b, o, none⟩ ∧ (Row w b o l) ∧ b < w.heap.size)
theorem Pts.keep {w w' : World} {v : Value} {l : List Pt} (h : Pts w v l) (hb : Below w.heap.size w w') : Pts w' v l := by
  obtain ⟨h0, p, c, rfl, h | ⟨b, o, rfl, h, hl⟩⟩ := h
  · exact ⟨h0, p, c, rfl, .inl h⟩
  · exact ⟨h0, _, c, rfl, .inr ⟨b, o, rfl, h.keep hb, Nat.lt_of_lt_of_le hl hb.size⟩⟩
theorem inPlace_any (v : Value) (l : List Pt) (w : World) (h : Pts w v l) : Calls Tryz.prog 56 #[v] w (PBt (Pl l) w) := by
  obtain ⟨h0, p, c, rfl, h⟩ := h
  by_cases hn : 3 ≤ l.length ∧ l.length ≤ 12
  · rcases h with rfl | ⟨b, o, rfl, h, hl⟩
    · simp at hn
    · exact inPlace_some b o c l w h hn.1 hn.2
  · exact inPlace_few p c l w hn (by unfold maxLen; omega)
/-- Check -/
def PEr (ok : Prop) (w : World) (e : Ending) (w' : World) : Prop := (∃ x : Int, e = .returned (.int .i64 x) ∧ ((x = 0 ∧ ok) ∨ (x = 2 ∧ ¬ ok))) ∧ Below w.heap.size w w'
set_option maxHeartbeats 1000000 in
theorem check_any (s : SV) (v : Value) (w : World) (hn : s.nm.size ≤ maxLen) (h : Pts w v s.l) : Calls Tryz.prog 31 #[stv s v] w (PEr (Vld s) w) := by
  obtain ⟨p, c, hv⟩ : ∃ p c, v = .slice p s.l.length c := ⟨_, _, h.2.choose_spec.choose_spec.1⟩
  subst hv
  obtain ⟨nm, l, dp, dn, gx, gz⟩ := s
  have HP := Lib.hid h
  have HN := Lib.hid (fun w => validName_any nm w hn)
  dsimp only at *
  have HV : Hid (Vld ⟨nm, l, dp, dn, gx, gz⟩ ↔ Nm nm ∧ Pl l ∧ Bd dp dn gx gz) := Iff.rfl
  unfold stv
  dsimp only
  clear h hn
  go_enter Tryz.func31, Tryz.ntmps31
  go_wp2_with fail
  refine (HN.out _).mono ?_
  rintro e w1 ⟨⟨bv, rfl, hbv⟩, hb1⟩
  have HBV := Lib.hid hbv
  clear hbv
  obtain ⟨hc, hf⟩ := bcell hb1
  have hz : w.heap.size < w1.heap.size := by have := hb1.size; simp at this; omega
  have k1 := Below.thru (bl1 w _) (by simp) hb1
  cases bv
  · go_wp2
    go_ret
    exact ⟨⟨_, rfl, .inr ⟨rfl, fun h => by have := HBV.out.2 h.1; cases this⟩⟩, k1⟩
  · go_wp2_with fail
    refine (inPlace_any _ l w1 ((HP.out.keep (bl1 w _)).keep hb1)).mono ?_
    rintro e w2 ⟨⟨bp, rfl, hbp⟩, hb2⟩
    have HBP := Lib.hid hbp
    have k2 := Below.thru k1 k1.size hb2
    have hz2 : w.heap.size < w2.heap.size := Nat.lt_of_lt_of_le hz hb2.size
    have x0 : w2.cell? ⟨w.heap.size, 0, none⟩ = some (.string nm) := (hb2.cell (p := ⟨_, _, none⟩) hz).trans ((hb1.cell (p := ⟨_, _, none⟩) (by simp)).trans (by simp [go_sem]))
    have x1 : w2.cell? ⟨w.heap.size, 1, none⟩ = some (.slice p l.length c) := (hb2.cell (p := ⟨_, _, none⟩) hz).trans ((hb1.cell (p := ⟨_, _, none⟩) (by simp)).trans (by simp [go_sem]))
    have x2 : w2.cell? ⟨w.heap.size, 2, none⟩ = some (.int .i64 dp) := (hb2.cell (p := ⟨_, _, none⟩) hz).trans ((hb1.cell (p := ⟨_, _, none⟩) (by simp)).trans (by simp [go_sem]))
    have x3 : w2.cell? ⟨w.heap.size, 3, none⟩ = some (.int .i64 dn) := (hb2.cell (p := ⟨_, _, none⟩) hz).trans ((hb1.cell (p := ⟨_, _, none⟩) (by simp)).trans (by simp [go_sem]))
    have x4 : w2.cell? ⟨w.heap.size, 4, none⟩ = some (.int .i64 gx) := (hb2.cell (p := ⟨_, _, none⟩) hz).trans ((hb1.cell (p := ⟨_, _, none⟩) (by simp)).trans (by simp [go_sem]))
    have x5 : w2.cell? ⟨w.heap.size, 5, none⟩ = some (.int .i64 gz) := (hb2.cell (p := ⟨_, _, none⟩) hz).trans ((hb1.cell (p := ⟨_, _, none⟩) (by simp)).trans (by simp [go_sem]))
    clear hc hf hbp hb1 hb2
    cases bp
    · go_wp2
      go_ret
      exact ⟨⟨_, rfl, .inr ⟨rfl, fun h => by have := HBP.out.2 h.2.1; cases this⟩⟩, k2⟩
    · go_wp2_with fail
      refine (validBody_any nm p l.length c dp dn gx gz w2).mono ?_
      rintro e w3 ⟨⟨bb, rfl, hbb⟩, hb3⟩
      have HBB := Lib.hid hbb
      clear hbb
      have k3 := Below.thru k2 k2.size hb3
      cases bb
      · go_wp2
        go_ret
        exact ⟨⟨_, rfl, .inr ⟨rfl, fun h => by have := HBB.out.2 h.2.2; cases this⟩⟩, k3⟩
      · go_wp2
        go_ret
        exact ⟨⟨_, rfl, .inl ⟨rfl, HBV.out.1 trivial, HBP.out.1 trivial, HBB.out.1 trivial⟩⟩, k3⟩
end Go.Proofs.YtljmhejljpfaiaaGreat
