import Derived.Test.YtjjomjjgoceklaaZe
namespace Go.Proofs.Ytjjomjjgoceklaa
open Go.RowKit Go.Shelf

/-- the text of a ratio -/
def txtR (n : Int) (d : Nat) : ByteArray := if d = 1 then txt n else ⟨(txtL n ++ 47 :: txtL (d : Int)).toArray⟩
def PTr (n : Int) (d : Nat) (w : World) (e : Ending) (w' : World) : Prop := Below w.heap.size w w' ∧ e = .returned (.string (txtR n d))
theorem txt_size (z : Int) : (txt z).size ≤ nd z.natAbs + 1 := by
  show (txtL z).toArray.size ≤ _
  unfold txtL digB
  simp only [List.size_toArray, List.length_append, List.length_map, decL_length]
  split <;> simp <;> omega
theorem cat_txt (n m : Int) : txt n ++ (({ data := #[47] } : ByteArray) ++ txt m) = ⟨(txtL n ++ 47 :: txtL m).toArray⟩ := by
  apply ByteArray.ext
  simp [txt, ByteArray.data_append]
theorem rtext_one (v : Value) (n : Int) (w : World) (h : Rr w v n 1) (hG : GrC n.natAbs) (hl : nd n.natAbs ≤ 100000) : Calls Try.prog 41 #[v] w (PTr n 1 w) := by
  obtain ⟨s, x, p, y, q, rfl⟩ := h.agg
  have H := Lib.hid h
  have HG := Lib.hid hG
  clear h hG
  go_enter Try.func41, Try.ntmps41
  go_wp2_with fail
  refine (text_any _ n _ (H.out.num.keep (bl1 _ _) (Nat.le_refl _)) HG.out hl).mono ?_
  rintro e w1 ⟨hb1, rfl⟩
  have k1 := Below.thru (bl1 w _) (by simp) hb1
  have HR := Lib.hid (H.out.keep k1 (Nat.le_refl _))
  have z1 : w.heap.size + 1 ≤ w1.heap.size := Nat.le_trans (by simp) hb1.size
  have c0 : w1.cell? ⟨w.heap.size, 0, none⟩ = some (.bool s) := (hb1.cell (p := ⟨w.heap.size, 0, none⟩) (by simp)).trans (by simp [go_sem])
  have c1 : w1.cell? ⟨w.heap.size, 1, none⟩ = some (.int .u64 x) := (hb1.cell (p := ⟨w.heap.size, 1, none⟩) (by simp)).trans (by simp [go_sem])
  have c2 : w1.cell? ⟨w.heap.size, 2, none⟩ = some (.pointer p) := (hb1.cell (p := ⟨w.heap.size, 2, none⟩) (by simp)).trans (by simp [go_sem])
  have c3 : w1.cell? ⟨w.heap.size, 3, none⟩ = some (.int .u64 y) := (hb1.cell (p := ⟨w.heap.size, 3, none⟩) (by simp)).trans (by simp [go_sem])
  have c4 : w1.cell? ⟨w.heap.size, 4, none⟩ = some (.pointer q) := (hb1.cell (p := ⟨w.heap.size, 4, none⟩) (by simp)).trans (by simp [go_sem])
  clear hb1
  go_wp2_with fail
  refine (den_any _ n 1 _ HR.out).mono ?_
  rintro e w2 ⟨hb2, v2, rfl, h2⟩
  obtain ⟨s4, x4, p4, rfl, hd4, _, _⟩ := h2.dg
  have HD4 := Lib.hid hd4
  have k2 := Below.thru k1 k1.size hb2
  clear hd4 h2 c0 c1 c2 c3 c4 hb2
  go_wp2_with fail
  refine (isOne_yes _ (HD4.out.keep (bl1 _ _) (Nat.le_refl _)) (by rfl)).mono ?_
  rintro e w3 ⟨rfl, cc, tt, rfl⟩
  go_wp2
  go_ret
  exact ⟨((k2.alloc k2.size _).alloc (by have := k2.size; simp; omega) _).alloc (by have := k2.size; simp; omega) _, rfl⟩
theorem rtext_big (v : Value) (n : Int) (d : Nat) (w : World) (h : Rr w v n d) (hd1 : d ≠ 1) (hG : GrC n.natAbs) (hl : nd n.natAbs ≤ 100000) (hGd : GrC d) (hld : nd d ≤ 100000) : Calls Try.prog 41 #[v] w (PTr n d w) := by
  obtain ⟨s, x, p, y, q, rfl⟩ := h.agg
  have H := Lib.hid h
  have HG := Lib.hid hG
  have HGD := Lib.hid hGd
  have HD1 := Lib.hid hd1
  clear h hG hGd hd1
  go_enter Try.func41, Try.ntmps41
  go_wp2_with fail
  refine (text_any _ n _ (H.out.num.keep (bl1 _ _) (Nat.le_refl _)) HG.out hl).mono ?_
  rintro e w1 ⟨hb1, rfl⟩
  have k1 := Below.thru (bl1 w _) (by simp) hb1
  have HR := Lib.hid (H.out.keep k1 (Nat.le_refl _))
  have z1 : w.heap.size + 1 ≤ w1.heap.size := Nat.le_trans (by simp) hb1.size
  have c0 : w1.cell? ⟨w.heap.size, 0, none⟩ = some (.bool s) := (hb1.cell (p := ⟨w.heap.size, 0, none⟩) (by simp)).trans (by simp [go_sem])
  have c1 : w1.cell? ⟨w.heap.size, 1, none⟩ = some (.int .u64 x) := (hb1.cell (p := ⟨w.heap.size, 1, none⟩) (by simp)).trans (by simp [go_sem])
  have c2 : w1.cell? ⟨w.heap.size, 2, none⟩ = some (.pointer p) := (hb1.cell (p := ⟨w.heap.size, 2, none⟩) (by simp)).trans (by simp [go_sem])
  have c3 : w1.cell? ⟨w.heap.size, 3, none⟩ = some (.int .u64 y) := (hb1.cell (p := ⟨w.heap.size, 3, none⟩) (by simp)).trans (by simp [go_sem])
  have c4 : w1.cell? ⟨w.heap.size, 4, none⟩ = some (.pointer q) := (hb1.cell (p := ⟨w.heap.size, 4, none⟩) (by simp)).trans (by simp [go_sem])
  clear hb1
  go_wp2_with fail
  refine (den_any _ n d _ HR.out).mono ?_
  rintro e w2 ⟨hb2, v2, rfl, h2⟩
  have H2 := Lib.hid h2
  obtain ⟨s4, x4, p4, rfl, hd4, _, _⟩ := h2.dg
  have HD4 := Lib.hid hd4
  have k2 := Below.thru k1 k1.size hb2
  clear hd4 h2 c0 c1 c2 c3 c4 hb2
  go_wp2_with fail
  refine (isOne_no _ (HD4.out.keep (bl1 _ _) (Nat.le_refl _)) (by simpa using HD1.out)).mono ?_
  rintro e w3 ⟨rfl, cc, tt, rfl⟩
  go_wp2_with fail
  refine (text_any _ (d : Int) _ (H2.out.keep (bl3 _ _ _ _) (Nat.le_refl _)) (by simpa using HGD.out) (by simpa using hld)).mono ?_
  rintro e w4 ⟨hb4, rfl⟩
  have hs1 := txt_size n
  have hs2 := txt_size (d : Int)
  simp only [Int.natAbs_natCast] at hs2
  have hs3 : (txt n).size ≤ 100001 := by omega
  have hs4 : (txt (d : Int)).size ≤ 100001 := by omega
  clear hs1 hs2
  go_wp2
  go_ret
  refine ⟨(((k2.alloc k2.size _).alloc (by have := k2.size; simp; omega) _).alloc (by have := k2.size; simp; omega) _).trans (hb4.mono (by have := k2.size; simp; omega)), ?_⟩
  rw [cat_txt]
  unfold txtR
  rw [if_neg HD1.out]
  rfl
theorem rtext_any (v : Value) (n : Int) (d : Nat) (w : World) (h : Rr w v n d) (hG : GrC n.natAbs) (hl : nd n.natAbs ≤ 100000) (hGd : GrC d) (hld : nd d ≤ 100000) : Calls Try.prog 41 #[v] w (PTr n d w) := by
  by_cases hd1 : d = 1
  · subst hd1; exact rtext_one v n w h hG hl
  · exact rtext_big v n d w h hd1 hG hl hGd hld
end Go.Proofs.Ytjjomjjgoceklaa
