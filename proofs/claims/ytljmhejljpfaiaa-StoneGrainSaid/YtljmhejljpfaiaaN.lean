import Derived.Test.YtljmhejljpfaiaaL
import Derived.Deep.RegionHeld3
namespace Go.Proofs.Ytljmhejljpfaiaa
set_option maxRecDepth 100000
open Go.RowKit

/-- the cells of a stone in a box -/
abbrev Cs (B : Nat) (nm : ByteArray) (v : Value) (dp dn gx gz : Int) (w : World) : Prop := w.cell? ⟨B, 0, none⟩ = some (.string nm) ∧ w.cell? ⟨B, 1, none⟩ = some v ∧ w.cell? ⟨B, 2, none⟩ = some (.int .i64 dp) ∧ w.cell? ⟨B, 3, none⟩ = some (.int .i64 dn) ∧ w.cell? ⟨B, 4, none⟩ = some (.int .i64 gx) ∧ w.cell? ⟨B, 5, none⟩ = some (.int .i64 gz)
theorem Cs.keep {B : Nat} {nm : ByteArray} {v : Value} {dp dn gx gz : Int} {w w' : World} (h : Cs B nm v dp dn gx gz w) (hb : Below w.heap.size w w') : Cs B nm v dp dn gx gz w' := by
  have hl := cell_lt h.1
  exact ⟨(hb.cell (p := ⟨B, _, none⟩) hl).trans h.1, (hb.cell (p := ⟨B, _, none⟩) hl).trans h.2.1, (hb.cell (p := ⟨B, _, none⟩) hl).trans h.2.2.1, (hb.cell (p := ⟨B, _, none⟩) hl).trans h.2.2.2.1, (hb.cell (p := ⟨B, _, none⟩) hl).trans h.2.2.2.2.1, (hb.cell (p := ⟨B, _, none⟩) hl).trans h.2.2.2.2.2⟩
/-- the frozen marks of a box of six cells -/
abbrev F6 (B : Nat) (w : World) : Prop := w.frozen? ⟨B, 0, none⟩ = false ∧ w.frozen? ⟨B, 1, none⟩ = false ∧ w.frozen? ⟨B, 2, none⟩ = false ∧ w.frozen? ⟨B, 3, none⟩ = false ∧ w.frozen? ⟨B, 4, none⟩ = false ∧ w.frozen? ⟨B, 5, none⟩ = false
theorem F6.keep {B : Nat} {w w' : World} (h : F6 B w) (hl : B < w.heap.size) (hb : Below w.heap.size w w') : F6 B w' :=
  ⟨(hb.frozen (p := ⟨B, _, none⟩) hl).trans h.1, (hb.frozen (p := ⟨B, _, none⟩) hl).trans h.2.1, (hb.frozen (p := ⟨B, _, none⟩) hl).trans h.2.2.1, (hb.frozen (p := ⟨B, _, none⟩) hl).trans h.2.2.2.1, (hb.frozen (p := ⟨B, _, none⟩) hl).trans h.2.2.2.2.1, (hb.frozen (p := ⟨B, _, none⟩) hl).trans h.2.2.2.2.2⟩
theorem far6 {w : World} {B T o : Nat} (h : T ≠ B) (v0 v1 v2 v3 v4 v5 : Value) : ((((((w.setCell ⟨T, 0, none⟩ v0).setCell ⟨T, 1, none⟩ v1).setCell ⟨T, 2, none⟩ v2).setCell ⟨T, 3, none⟩ v3).setCell ⟨T, 4, none⟩ v4).setCell ⟨T, 5, none⟩ v5).cell? ⟨B, o, none⟩ = w.cell? ⟨B, o, none⟩ := by
  have e : ∀ {o q : Nat}, (⟨T, o, none⟩ : Addr) ≠ ⟨B, q, none⟩ := fun h' => by cases h'; exact h rfl
  rw [World.cell?_setCell_other _ _ _ _ e, World.cell?_setCell_other _ _ _ _ e, World.cell?_setCell_other _ _ _ _ e, World.cell?_setCell_other _ _ _ _ e, World.cell?_setCell_other _ _ _ _ e, World.cell?_setCell_other _ _ _ _ e]
theorem Cs.far6 {B T : Nat} {nm : ByteArray} {v : Value} {dp dn gx gz : Int} {w : World} (h : Cs B nm v dp dn gx gz w) (hn : T ≠ B) (v0 v1 v2 v3 v4 v5 : Value) : Cs B nm v dp dn gx gz ((((((w.setCell ⟨T, 0, none⟩ v0).setCell ⟨T, 1, none⟩ v1).setCell ⟨T, 2, none⟩ v2).setCell ⟨T, 3, none⟩ v3).setCell ⟨T, 4, none⟩ v4).setCell ⟨T, 5, none⟩ v5) := by
  unfold Cs
  simp only [Go.Proofs.Ytljmhejljpfaiaa.far6 hn]
  exact h
theorem below6 {A T : Nat} {a w : World} (h : Below A a w) (hT : A ≤ T) (v0 v1 v2 v3 v4 v5 : Value) : Below A a ((((((w.setCell ⟨T, 0, none⟩ v0).setCell ⟨T, 1, none⟩ v1).setCell ⟨T, 2, none⟩ v2).setCell ⟨T, 3, none⟩ v3).setCell ⟨T, 4, none⟩ v4).setCell ⟨T, 5, none⟩ v5) := (((((h.setCell hT _).setCell hT _).setCell hT _).setCell hT _).setCell hT _).setCell hT _
theorem Own.far6 {w : World} {base T : Nat} {v : Value} {l : List Pt} (h : Own w base v l) (hT : T < base) (v0 v1 v2 v3 v4 v5 : Value) : Own ((((((w.setCell ⟨T, 0, none⟩ v0).setCell ⟨T, 1, none⟩ v1).setCell ⟨T, 2, none⟩ v2).setCell ⟨T, 3, none⟩ v3).setCell ⟨T, 4, none⟩ v4).setCell ⟨T, 5, none⟩ v5) base v l := by
  obtain ⟨h1, h2 | ⟨g, cap, cur, e1, hb, hg, h3⟩⟩ := h
  · exact ⟨h1, .inl h2⟩
  · have e : ∀ {W : World} {o : Nat} {u : Value}, (W.setCell ⟨T, o, none⟩ u).heap[g]? = W.heap[g]? := fun {W o u} => Below.heap_setCell _ _ _ _ (by show g ≠ T; omega)
    exact ⟨h1, .inr ⟨g, cap, cur, e1, hb, by rw [e, e, e, e, e, e]; exact hg, h3⟩⟩
theorem Own.base {w : World} {base b2 : Nat} {v : Value} {l : List Pt} (h : Own w base v l) (hb : b2 ≤ base) : Own w b2 v l := by
  obtain ⟨h1, h2 | ⟨g, cap, cur, e1, hb', h3⟩⟩ := h
  · exact ⟨h1, .inl h2⟩
  · exact ⟨h1, .inr ⟨g, cap, cur, e1, Nat.le_trans hb hb', h3⟩⟩
theorem Own.form {w : World} {base : Nat} {v : Value} {l : List Pt} (h : Own w base v l) : ∃ a n c, v = .slice a n c := by
  rcases h.row with ⟨rfl, _⟩ | ⟨g, c, rfl, _⟩
  · exact ⟨_, _, _, rfl⟩
  · exact ⟨_, _, _, rfl⟩
set_option maxHeartbeats 2000000 in
theorem stone_any (s : SV) (p : Option Addr) (b o c : Nat) (w : World) (hp : s.l ≠ [] → p = some ⟨b, o, none⟩) (hr : Row w b o s.l) (hm : s.l.length ≤ 1000000) :
    Calls Try.prog 17 #[stv s (.slice p s.l.length c)] w fun e w' => (∃ v, e = .returned (stv s v) ∧ Own w' w.heap.size v s.l) ∧ Below w.heap.size w w' := by
  obtain ⟨nm, l, dp, dn, gx, gz⟩ := s
  dsimp only at *
  have HC := Lib.hid (fun W (h : Row W b o l) => points_any p b o c l W hp h hm)
  have HR := Lib.hid hr
  unfold stv
  dsimp only
  generalize l.length = n at *
  clear hr hp hm
  go_enter Try.func17, Try.ntmps17
  go_wp2
  have hc0 : Cs w.heap.size nm (.slice p n c) dp dn gx gz ((w.alloc (.cells #[.string nm, .slice p n c, .int .i64 dp, .int .i64 dn, .int .i64 gx, .int .i64 gz] 26)).alloc (.cells #[.string ⟨#[]⟩, .slice none 0 0, .int .i64 0, .int .i64 0, .int .i64 0, .int .i64 0] 34)) :=
    ⟨by simp [go_sem], by simp [go_sem], by simp [go_sem], by simp [go_sem], by simp [go_sem], by simp [go_sem]⟩
  have hd0 : Cs (w.heap.size + 1) ⟨#[]⟩ (.slice none 0 0) 0 0 0 0 ((w.alloc (.cells #[.string nm, .slice p n c, .int .i64 dp, .int .i64 dn, .int .i64 gx, .int .i64 gz] 26)).alloc (.cells #[.string ⟨#[]⟩, .slice none 0 0, .int .i64 0, .int .i64 0, .int .i64 0, .int .i64 0] 34)) :=
    ⟨by simp [go_sem], by simp [go_sem], by simp [go_sem], by simp [go_sem], by simp [go_sem], by simp [go_sem]⟩
  have hf0 : F6 (w.heap.size + 1) ((w.alloc (.cells #[.string nm, .slice p n c, .int .i64 dp, .int .i64 dn, .int .i64 gx, .int .i64 gz] 26)).alloc (.cells #[.string ⟨#[]⟩, .slice none 0 0, .int .i64 0, .int .i64 0, .int .i64 0, .int .i64 0] 34)) :=
    ⟨by simp [go_sem], by simp [go_sem], by simp [go_sem], by simp [go_sem], by simp [go_sem], by simp [go_sem]⟩
  have hz0 : w.heap.size + 1 < ((w.alloc (.cells #[.string nm, .slice p n c, .int .i64 dp, .int .i64 dn, .int .i64 gx, .int .i64 gz] 26)).alloc (.cells #[.string ⟨#[]⟩, .slice none 0 0, .int .i64 0, .int .i64 0, .int .i64 0, .int .i64 0] 34)).heap.size := by simp
  have hB0 := bl2 w (.cells #[.string nm, .slice p n c, .int .i64 dp, .int .i64 dn, .int .i64 gx, .int .i64 gz] 26) (.cells #[.string ⟨#[]⟩, .slice none 0 0, .int .i64 0, .int .i64 0, .int .i64 0, .int .i64 0] 34)
  generalize (w.alloc (.cells #[.string nm, .slice p n c, .int .i64 dp, .int .i64 dn, .int .i64 gx, .int .i64 gz] 26)).alloc (.cells #[.string ⟨#[]⟩, .slice none 0 0, .int .i64 0, .int .i64 0, .int .i64 0, .int .i64 0] 34) = w0 at *
  have q0 : Cs w.heap.size nm (.slice p n c) dp dn gx gz w0.drew := hc0
  have d0 : Cs (w.heap.size + 1) ⟨#[]⟩ (.slice none 0 0) 0 0 0 0 w0.drew := hd0
  have f0 : F6 (w.heap.size + 1) w0.drew := hf0
  have z0 : w.heap.size + 1 < w0.drew.heap.size := hz0
  have k0 : Below w.heap.size w w0.drew := hB0.drew
  clear hc0 hd0 hf0 hB0
  go_region_held3 (fun w' => Cs w.heap.size nm (.slice p n c) dp dn gx gz w')
    (first | (with_reducible exact q2) | (with_reducible exact q1) | (with_reducible exact q0))
    (first
      | (go_at_call 54; (with_reducible refine (HC.out w0.drew (HR.out.keep k0)).mono ?_); rintro e w1 ⟨⟨v, rfl, hv⟩, hb1⟩
         have q1 := Cs.keep q0 hb1; have d1 := Cs.keep d0 hb1; have f1 := F6.keep f0 z0 hb1; have k1 := Below.thru k0 k0.size hb1; obtain ⟨va, vn, vc, rfl⟩ := hv.form; have q2 := Cs.far6 (T := w.heap.size + 1) q1 (by omega) (.string nm) (.slice va vn vc) (.int .i64 dp) (.int .i64 dn) (.int .i64 gx) (.int .i64 gz)))
  obtain ⟨x0, x1, x2, x3, x4, x5⟩ := d1
  have hv2 := Own.far6 (T := w.heap.size + 1) hv (by omega) (.string nm) (.slice va vn vc) (.int .i64 dp) (.int .i64 dn) (.int .i64 gx) (.int .i64 gz)
  have hb2 := below6 (T := w.heap.size + 1) k1 (by omega) (.string nm) (.slice va vn vc) (.int .i64 dp) (.int .i64 dn) (.int .i64 gx) (.int .i64 gz)
  go_wp2
  exact bodyPost_ret (v := .agg #[.string nm, .slice va vn vc, .int .i64 dp, .int .i64 dn, .int .i64 gx, .int .i64 gz]) (by simp [results, Try.results17, go_sem, x0, x1, x2, x3, x4, x5]) rfl ⟨⟨_, rfl, hv2.base (by have := k0.size; exact this)⟩, hb2⟩
end Go.Proofs.Ytljmhejljpfaiaa
