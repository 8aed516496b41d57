import Derived.Test.YtljmhejljpfaiaaDb
namespace Go.Proofs.Ytljmhejljpfaiaa
set_option maxRecDepth 100000
open Go.RowKit Go.Shelf

/-! the reference's Piece -/
set_option maxHeartbeats 8000000 in
theorem rpiece_any (nm lt : ByteArray) (v0 : Value) (dp dn gx gz : Int) (b o c : Nat) (l : List Pt) (w : World) (hr : Row w b o l) (h3 : 0 < l.length) (h12 : l.length ≤ 1000) (hs : ∀ i, i < l.length → Sm (px l i) ∧ Sm (pz l i)) (hnm : nm.size + lt.size ≤ maxLen) :
    Calls Try.prog 80 #[.agg #[.string nm, v0, .int .i64 dp, .int .i64 dn, .int .i64 gx, .int .i64 gz], .string lt, .slice (some ⟨b, o, none⟩) l.length c] w fun e w' =>
      (∃ v, e = .returned (.agg (c6 (nm ++ lt) v dp dn gx gz)) ∧ OwnR w' w.heap.size v (stl l)) ∧ Below w.heap.size w w' := by
  have HP := Lib.hid (fun W (k : Below w.heap.size w W) => settle_any b o c l W (hr.keep k) h3 h12 hs)
  unfold maxLen at hnm
  clear hr hs
  generalize stl l = sl at *
  generalize l.length = n at *
  have k0 := bl2 w (.cells (c6 nm v0 dp dn gx gz) 26) (.cells (c6 ⟨#[]⟩ (.slice none 0 0) 0 0 0 0) 26)
  have b1 : Blk w.heap.size (c6 nm v0 dp dn gx gz) 26 ((w.alloc (.cells (c6 nm v0 dp dn gx gz) 26)).alloc (.cells (c6 ⟨#[]⟩ (.slice none 0 0) 0 0 0 0) 26)) := (Blk.new w _ 26).alloc _
  have b2 : Blk (w.heap.size + 1) (c6 ⟨#[]⟩ (.slice none 0 0) 0 0 0 0) 26 ((w.alloc (.cells (c6 nm v0 dp dn gx gz) 26)).alloc (.cells (c6 ⟨#[]⟩ (.slice none 0 0) 0 0 0 0) 26)) := by
    have := Blk.new (w.alloc (.cells (c6 nm v0 dp dn gx gz) 26)) (c6 ⟨#[]⟩ (.slice none 0 0) 0 0 0 0) 26
    rw [World.size_alloc] at this
    exact this
  have hsz : ((w.alloc (.cells (c6 nm v0 dp dn gx gz) 26)).alloc (.cells (c6 ⟨#[]⟩ (.slice none 0 0) 0 0 0 0) 26)).heap.size = w.heap.size + 2 := by simp
  go_enter Try.func80, Try.ntmps80
  go_wp2
  generalize (w.alloc (.cells (c6 nm v0 dp dn gx gz) 26)).alloc (.cells (c6 ⟨#[]⟩ (.slice none 0 0) 0 0 0 0) 26) = w0 at *
  have HBS : Hid (∀ W, Below w0.heap.size w0 W → Blk w.heap.size (c6 nm v0 dp dn gx gz) 26 W ∧ Blk (w.heap.size + 1) (c6 ⟨#[]⟩ (.slice none 0 0) 0 0 0 0) 26 W ∧ Below w.heap.size w W) := fun W kk => ⟨b1.below kk, b2.below kk, Below.thru k0 k0.size kk⟩
  have q1 := HBS.out w0.drew ((Below.refl _ _).drew)
  have a0 := q1.1.cell (i := 0) rfl
  have KD := Lib.hid q1.2.2
  have HSZ := Lib.hid hsz
  clear b1 b2 k0 q1 hsz
  go_region_with ((go_at_call 71; refine (HP.out _ KD.out).mono ?_; rintro e w6 ⟨⟨v6, rfl, ho6⟩, hb6⟩; obtain ⟨vp, vn, vc, rfl⟩ := own_form ho6; have k6 := Below.thru ((Below.refl w0.heap.size w0).drew) (Nat.le_refl _) hb6; have q6 := HBS.out _ k6; have O6 := Lib.hid ho6; have K6 := Lib.hid q6.2.2; have x0 := q6.1.cell (i := 0) rfl; have x1 := q6.1.cell (i := 1) rfl; have x2 := q6.1.cell (i := 2) rfl; have x3 := q6.1.cell (i := 3) rfl; have x4 := q6.1.cell (i := 4) rfl; have x5 := q6.1.cell (i := 5) rfl; have y0 := q6.1.frozen 0; have y1 := q6.1.frozen 1; have z0 := q6.2.1.cell (i := 0) rfl; have z1 := q6.2.1.cell (i := 1) rfl; have z2 := q6.2.1.cell (i := 2) rfl; have z3 := q6.2.1.cell (i := 3) rfl; have z4 := q6.2.1.cell (i := 4) rfl; have z5 := q6.2.1.cell (i := 5) rfl; have f0 := q6.2.1.frozen 0; have f1 := q6.2.1.frozen 1; have f2 := q6.2.1.frozen 2; have f3 := q6.2.1.frozen 3; have f4 := q6.2.1.frozen 4; have f5 := q6.2.1.frozen 5; clear q6 k6 hb6 ho6 a0))
  all_goals
    go_wp2
    refine bodyPost_ret (v := .agg (c6 (nm ++ lt) (.slice vp vn vc) dp dn gx gz)) (by simp [results, Try.results80, go_sem, z0, z1, z2, z3, z4, z5]) rfl ⟨⟨.slice vp vn vc, rfl, ?_⟩, ?_⟩
    · have h := OwnR.base (b2 := w.heap.size + 2) O6.out (by rw [World.size_drew, HSZ.out]; omega)
      exact OwnR.base (((h.set1 (by omega) _).set1 (by omega) _).far6 (by omega) _ _ _ _ _ _) (by omega)
    · exact below6 ((K6.out.setCell (Nat.le_refl _) _).setCell (Nat.le_refl _) _) (by omega) _ _ _ _ _ _
end Go.Proofs.Ytljmhejljpfaiaa
