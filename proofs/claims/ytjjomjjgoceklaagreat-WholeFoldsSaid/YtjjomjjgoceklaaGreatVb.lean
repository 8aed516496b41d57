import Derived.Test.YtjjomjjgoceklaaGreatKba
import Derived.Test.YtjjomjjgoceklaaGreatKbf
import Derived.Test.YtjjomjjgoceklaaGreatKcb
namespace Go.Proofs.YtjjomjjgoceklaaGreat
set_option maxRecDepth 100000
open Go.RowKit

/-! readZ of the other texts -/
end Go.Proofs.YtjjomjjgoceklaaGreat
namespace Go.Proofs.YtjjomjjgoceklaaGreat
set_option maxRecDepth 100000
open Go.RowKit

/-! strings.Cut at a byte that does not stand in the text; ParseZ; Parse's refusals and whole numbers -/
end Go.Proofs.YtjjomjjgoceklaaGreat
namespace Go.Proofs.YtjjomjjgoceklaaGreat
set_option maxRecDepth 100000
open Go.RowKit

/-! Parse of 'a/b', of a whole number, refused behind the slash; OfZ over zero -/
end Go.Proofs.YtjjomjjgoceklaaGreat
namespace Go.Proofs.YtjjomjjgoceklaaGreat
set_option maxRecDepth 100000
open Go.RowKit

/-! Parse of a whole number, Of, Ratio, R.Div by zero, z -/
theorem ratio_any (a b n er : Int) (d : Nat) (w : World) (ha : I64 a) (hb : I64 b) (ho : ∀ W v1 v2, Zr W v1 a → Zr W v2 b → Calls Tryz.prog 28 #[v1, v2] W (PRe n d er W)) : Calls Tryz.prog 26 #[.int .i64 a, .int .i64 b] w (PRe n d er w) := by
  have HA := Lib.hid ha; have HB := Lib.hid hb; have HO := Lib.hid ho
  clear ha hb ho
  go_enter Tryz.func26, Tryz.ntmps26
  go_wp2_with fail
  refine (int_any a _ HA.out).mono ?_
  rintro e w1 ⟨hb1, v1, rfl, h1⟩
  have t1 : Rq w.heap.size w1 := Rq.keep (rq_new _ rfl) hb1 (by simp)
  have k1 := Below.thru (bl1 w _) (by simp) hb1
  have z1 : w.heap.size + 1 ≤ w1.heap.size := Nat.le_trans (by simp) hb1.size
  clear hb1
  go_wp2_with fail
  refine (int_any b _ HB.out).mono ?_
  rintro e w2 ⟨hb2, v2, rfl, h2⟩
  have t2 := t1.keep hb2 (by omega)
  have k2 := Below.thru k1 k1.size hb2
  have z2 : w.heap.size + 1 ≤ w2.heap.size := Nat.le_trans z1 hb2.size
  have h1 := h1.keep hb2 (Nat.le_refl _)
  clear hb2 t1 k1
  go_wp2_with fail
  refine (HO.out w2 v1 v2 h1 h2).mono ?_
  rintro e w5 ⟨hb5, v5, rfl, h5⟩
  have t5 := t2.keep hb5 (by omega)
  have k5 := Below.thru k2 k2.size hb5
  obtain ⟨s7, x7, p7, y7, r7, rfl⟩ := h5.agg
  have H5 := Lib.hid h5
  clear t2 k2 hb5 h5
  obtain ⟨_, _, _, _, _, m1, m2, m3, m4, m5, m6, m7, m8, m9, m10⟩ := t5.cells
  obtain ⟨n1, n2, n3, n4, n5⟩ := five_cells m1 m2 m3 m4 m5 (.bool s7) (.int .u64 x7) (.pointer p7) (.int .u64 y7) (.pointer r7)
  unfold st5 at n1 n2 n3 n4 n5
  go_wp2
  exact bodyPost_ret (v := .tuple #[.agg #[.bool s7, .int .u64 x7, .pointer p7, .int .u64 y7, .pointer r7], .int .i64 er]) (by simp [results, Tryz.results26, go_sem, n1, n2, n3, n4, n5]) rfl ⟨below5 k5 (Nat.le_refl _) _ _ _ _ _, _, rfl, H5.out.store t5.odd (grown5 _ _ _ _ _ _ _)⟩
end Go.Proofs.YtjjomjjgoceklaaGreat
