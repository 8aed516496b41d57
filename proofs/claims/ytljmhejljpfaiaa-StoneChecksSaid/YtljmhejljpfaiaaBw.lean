import Derived.Test.YtljmhejljpfaiaaBv
namespace Go.Proofs.Ytljmhejljpfaiaa
set_option maxRecDepth 100000
open Go.RowKit Go.Shelf

/-! piece -/
theorem Blk.frozen {B : Nat} {cur : Array Value} {T : TypeId} {W : World} (h : Blk B cur T W) (i : Nat) : W.frozen? ⟨B, i, none⟩ = false := by
  unfold World.frozen?
  dsimp only
  rw [show W.heap[B]? = _ from h]
  simp
theorem Blk.set {B i : Nat} {cur : Array Value} {T : TypeId} {W : World} (v : Value) (h : Blk B cur T W) : Blk B (cur.setIfInBounds i v) T (W.setCell ⟨B, i, none⟩ v) := by
  show (W.setCell ⟨B, i, none⟩ v).heap[B]? = _
  unfold World.setCell
  dsimp only
  rw [Array.getElem?_modify, if_pos rfl, show W.heap[B]? = _ from h]
  rfl
theorem Blk.far {B C i : Nat} {cur : Array Value} {T : TypeId} {W : World} (v : Value) (h : Blk B cur T W) (hn : B ≠ C) : Blk B cur T (W.setCell ⟨C, i, none⟩ v) := (Below.heap_setCell _ _ _ _ hn).trans h
/-- a stone's cells -/
abbrev c6 (nm : ByteArray) (v : Value) (dp dn gx gz : Int) : Array Value := #[.string nm, v, .int .i64 dp, .int .i64 dn, .int .i64 gx, .int .i64 gz]
theorem Own.set1 {w : World} {base T i : Nat} {v : Value} {l : List Pt} (h : Own w base v l) (hT : T < base) (u : Value) : Own (w.setCell ⟨T, i, none⟩ u) base v l := by
  obtain ⟨h1, h2 | ⟨g, cap, cur, e1, hb, hg, h3⟩⟩ := h
  · exact ⟨h1, .inl h2⟩
  · exact ⟨h1, .inr ⟨g, cap, cur, e1, hb, (Below.heap_setCell _ _ _ _ (by show g ≠ T; omega)).trans hg, h3⟩⟩
set_option maxHeartbeats 4000000 in
theorem piece_any (nm lt : ByteArray) (v0 : Value) (dp dn gx gz : Int) (b o c : Nat) (l : List Pt) (w : World) (hr : Row w b o l) (h3 : 0 < l.length) (h12 : l.length ≤ 1000) (hs : ∀ i, i < l.length → Sm (px l i) ∧ Sm (pz l i)) (hnm : nm.size + lt.size ≤ maxLen) :
    Calls Try.prog 78 #[.agg #[.string nm, v0, .int .i64 dp, .int .i64 dn, .int .i64 gx, .int .i64 gz], .string lt, .slice (some ⟨b, o, none⟩) l.length c] w fun e w' =>
      (∃ v, e = .returned (.agg #[.string (nm ++ lt), v, .int .i64 dp, .int .i64 dn, .int .i64 gx, .int .i64 gz]) ∧ Own w' w.heap.size v (stl l)) ∧ Below w.heap.size w w' := by
  have HP := Lib.hid (fun W (k : Below w.heap.size w W) => put_any b o c l W (hr.keep k) h3 h12 hs)
  unfold maxLen at hnm
  clear hr hs
  generalize stl l = sl at *
  generalize l.length = n at *
  go_enter Try.func78, Try.ntmps78
  go_wp2_with fail
  have k0 := bl2 w (.cells (c6 (nm ++ lt) v0 dp dn gx gz) 34) (.cells (c6 ⟨#[]⟩ (.slice none 0 0) 0 0 0 0) 34)
  have b1 : Blk w.heap.size (c6 (nm ++ lt) v0 dp dn gx gz) 34 ((w.alloc (.cells (c6 (nm ++ lt) v0 dp dn gx gz) 34)).alloc (.cells (c6 ⟨#[]⟩ (.slice none 0 0) 0 0 0 0) 34)) := (Blk.new w _ 34).alloc _
  have b2 : Blk (w.heap.size + 1) (c6 ⟨#[]⟩ (.slice none 0 0) 0 0 0 0) 34 ((w.alloc (.cells (c6 (nm ++ lt) v0 dp dn gx gz) 34)).alloc (.cells (c6 ⟨#[]⟩ (.slice none 0 0) 0 0 0 0) 34)) := by
    have := Blk.new (w.alloc (.cells (c6 (nm ++ lt) v0 dp dn gx gz) 34)) (c6 ⟨#[]⟩ (.slice none 0 0) 0 0 0 0) 34
    rw [World.size_alloc] at this
    exact this
  refine (HP.out _ k0).mono ?_
  rintro e w1 ⟨⟨v, rfl, ho⟩, hb1⟩
  have k1 := Below.thru k0 k0.size hb1
  have b1' := b1.below hb1
  have b2' := b2.below hb1
  obtain ⟨vp, vn, vc, rfl⟩ := own_form ho
  have HO := Lib.hid (ho.base (b2 := w.heap.size + 2) (by simp))
  have K1 := Lib.hid k1
  have x0 := b1'.cell (i := 0) rfl
  have x1 := b1'.cell (i := 1) rfl
  have x2 := b1'.cell (i := 2) rfl
  have x3 := b1'.cell (i := 3) rfl
  have x4 := b1'.cell (i := 4) rfl
  have x5 := b1'.cell (i := 5) rfl
  have y1 := b1'.frozen 1
  have z0 := b2'.cell (i := 0) rfl
  have z1 := b2'.cell (i := 1) rfl
  have z2 := b2'.cell (i := 2) rfl
  have z3 := b2'.cell (i := 3) rfl
  have z4 := b2'.cell (i := 4) rfl
  have z5 := b2'.cell (i := 5) rfl
  have f0 := b2'.frozen 0
  have f1 := b2'.frozen 1
  have f2 := b2'.frozen 2
  have f3 := b2'.frozen 3
  have f4 := b2'.frozen 4
  have f5 := b2'.frozen 5
  clear ho hb1 k0 k1 b1 b2 b1' b2'
  go_wp2
  refine bodyPost_ret (v := .agg (c6 (nm ++ lt) (.slice vp vn vc) dp dn gx gz)) (by simp [results, Try.results78, go_sem, z0, z1, z2, z3, z4, z5]) rfl ⟨⟨_, rfl, ?_⟩, ?_⟩
  · exact ((Own.set1 HO.out (by omega) _).far6 (by omega) _ _ _ _ _ _).base (by omega)
  · exact below6 (K1.out.setCell (Nat.le_refl _) _) (by omega) _ _ _ _ _ _
end Go.Proofs.Ytljmhejljpfaiaa
