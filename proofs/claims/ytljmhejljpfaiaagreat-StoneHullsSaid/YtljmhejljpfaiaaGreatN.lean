import Derived.Test.YtljmhejljpfaiaaGreatL
import Derived.Deep.RegionHeld3
namespace Go.Proofs.YtljmhejljpfaiaaGreat
set_option maxRecDepth 100000
set_option maxRecDepth 100000
open Go.RowKit

/-- the cells of a stone in a box -/
abbrev Cs (B : Nat) (nm : ByteArray) (v : Value) (dp dn gx gz : Int) (w : World) : Prop := w.cell? ⟨B, 0, none⟩ = some (.string nm) ∧ w.cell? ⟨B, 1, none⟩ = some v ∧ w.cell? ⟨B, 2, none⟩ = some (.int .i64 dp) ∧ w.cell? ⟨B, 3, none⟩ = some (.int .i64 dn) ∧ w.cell? ⟨B, 4, none⟩ = some (.int .i64 gx) ∧ w.cell? ⟨B, 5, none⟩ = some (.int .i64 gz)
theorem Cs.keep {B : Nat} {nm : ByteArray} {v : Value} {dp dn gx gz : Int} {w w' : World} (h : Cs B nm v dp dn gx gz w) (hb : Below w.heap.size w w') : Cs B nm v dp dn gx gz w' := by
  have hl := cell_lt h.1
  exact ⟨(hb.cell (p := ⟨B, _, none⟩) hl).trans h.1, (hb.cell (p := ⟨B, _, none⟩) hl).trans h.2.1, (hb.cell (p := ⟨B, _, none⟩) hl).trans h.2.2.1, (hb.cell (p := ⟨B, _, none⟩) hl).trans h.2.2.2.1, (hb.cell (p := ⟨B, _, none⟩) hl).trans h.2.2.2.2.1, (hb.cell (p := ⟨B, _, none⟩) hl).trans h.2.2.2.2.2⟩
/-- the frozen marks of a box of six cells -/
abbrev F6 (B : Nat) (w : World) : Prop := w.frozen? ⟨B, 0, none⟩ = false ∧ w.frozen? ⟨B, 1, none⟩ = false ∧ w.frozen? ⟨B, 2, none⟩ = false ∧ w.frozen? ⟨B, 3, none⟩ = false ∧ w.frozen? ⟨B, 4, none⟩ = false ∧ w.frozen? ⟨B, 5, none⟩ = false
theorem F6.keep {B : Nat} {w w' : World} (h : F6 B w) (hl : B < w.heap.size) (hb : Below w.heap.size w w') : F6 B w' :=
  ⟨(hb.frozen (p := ⟨B, _, none⟩) hl).trans h.1, (hb.frozen (p := ⟨B, _, none⟩) hl).trans h.2.1, (hb.frozen (p := ⟨B, _, none⟩) hl).trans h.2.2.1, (hb.frozen (p := ⟨B, _, none⟩) hl).trans h.2.2.2.1, (hb.frozen (p := ⟨B, _, none⟩) hl).trans h.2.2.2.2.1, (hb.frozen (p := ⟨B, _, none⟩) hl).trans h.2.2.2.2.2⟩
theorem far6 {w : World} {B T o : Nat} (h : T ≠ B) (v0 v1 v2 v3 v4 v5 : Value) : ((((((w.setCell ⟨T, 0, none⟩ v0).setCell ⟨T, 1, none⟩ v1).setCell ⟨T, 2, none⟩ v2).setCell ⟨T, 3, none⟩ v3).setCell ⟨T, 4, none⟩ v4).setCell ⟨T, 5, none⟩ v5).cell? ⟨B, o, none⟩ = w.cell? ⟨B, o, none⟩ := by
  have e : ∀ {o q : Nat}, (⟨T, o, none⟩ : Addr) ≠ ⟨B, q, none⟩ := fun h' => by cases h'; exact h rfl
  rw [World.cell?_setCell_other _ _ _ _ e, World.cell?_setCell_other _ _ _ _ e, World.cell?_setCell_other _ _ _ _ e, World.cell?_setCell_other _ _ _ _ e, World.cell?_setCell_other _ _ _ _ e, World.cell?_setCell_other _ _ _ _ e]
theorem Cs.far6 {B T : Nat} {nm : ByteArray} {v : Value} {dp dn gx gz : Int} {w : World} (h : Cs B nm v dp dn gx gz w) (hn : T ≠ B) (v0 v1 v2 v3 v4 v5 : Value) : Cs B nm v dp dn gx gz ((((((w.setCell ⟨T, 0, none⟩ v0).setCell ⟨T, 1, none⟩ v1).setCell ⟨T, 2, none⟩ v2).setCell ⟨T, 3, none⟩ v3).setCell ⟨T, 4, none⟩ v4).setCell ⟨T, 5, none⟩ v5) := by
  unfold Cs
  simp only [Go.Proofs.YtljmhejljpfaiaaGreat.far6 hn]
  exact h
theorem below6 {A T : Nat} {a w : World} (h : Below A a w) (hT : A ≤ T) (v0 v1 v2 v3 v4 v5 : Value) : Below A a ((((((w.setCell ⟨T, 0, none⟩ v0).setCell ⟨T, 1, none⟩ v1).setCell ⟨T, 2, none⟩ v2).setCell ⟨T, 3, none⟩ v3).setCell ⟨T, 4, none⟩ v4).setCell ⟨T, 5, none⟩ v5) := (((((h.setCell hT _).setCell hT _).setCell hT _).setCell hT _).setCell hT _).setCell hT _
theorem Own.far6 {w : World} {base T : Nat} {v : Value} {l : List Pt} (h : Own w base v l) (hT : T < base) (v0 v1 v2 v3 v4 v5 : Value) : Own ((((((w.setCell ⟨T, 0, none⟩ v0).setCell ⟨T, 1, none⟩ v1).setCell ⟨T, 2, none⟩ v2).setCell ⟨T, 3, none⟩ v3).setCell ⟨T, 4, none⟩ v4).setCell ⟨T, 5, none⟩ v5) base v l := by
  obtain ⟨h1, h2 | ⟨g, cap, cur, e1, hb, hg, h3⟩⟩ := h
  · exact ⟨h1, .inl h2⟩
  · have e : ∀ {W : World} {o : Nat} {u : Value}, (W.setCell ⟨T, o, none⟩ u).heap[g]? = W.heap[g]? := fun {W o u} => Below.heap_setCell _ _ _ _ (by show g ≠ T; omega)
    exact ⟨h1, .inr ⟨g, cap, cur, e1, hb, by rw [e, e, e, e, e, e]; exact hg, h3⟩⟩
theorem Own.base {w : World} {base b2 : Nat} {v : Value} {l : List Pt} (h : Own w base v l) (hb : b2 ≤ base) : Own w b2 v l := by
  obtain ⟨h1, h2 | ⟨g, cap, cur, e1, hb', h3⟩⟩ := h
  · exact ⟨h1, .inl h2⟩
  · exact ⟨h1, .inr ⟨g, cap, cur, e1, Nat.le_trans hb hb', h3⟩⟩
theorem Own.form {w : World} {base : Nat} {v : Value} {l : List Pt} (h : Own w base v l) : ∃ a n c, v = .slice a n c := by
  rcases h.row with ⟨rfl, _⟩ | ⟨g, c, rfl, _⟩
  · exact ⟨_, _, _, rfl⟩
  · exact ⟨_, _, _, rfl⟩
end Go.Proofs.YtljmhejljpfaiaaGreat
