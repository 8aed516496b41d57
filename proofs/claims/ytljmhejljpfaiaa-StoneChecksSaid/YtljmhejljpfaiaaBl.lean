import Derived.Test.YtljmhejljpfaiaaBk
namespace Go.Proofs.Ytljmhejljpfaiaa
set_option maxRecDepth 100000
open Go.RowKit Go.Shelf

/-! Brick -/
def brickL : List Pt := [(0, 0), (200, 0), (200, 80), (0, 80)]
def brickS : SV := ⟨⟨#[98, 114, 105, 99, 107]⟩, brickL, 100, 2400, 1, 0⟩
set_option maxHeartbeats 2000000 in
theorem brick_any (w : World) : Calls Try.prog 47 #[] w fun e w' => (∃ g, e = .returned (stv brickS (.slice (some ⟨g, 0, none⟩) 4 4)) ∧ Row w' g 0 brickL) ∧ Below w.heap.size w w' := by
  go_enter Try.func47, Try.ntmps47
  go_wp2_with fail
  refine bodyPost_ret (v := stv brickS (.slice (some ⟨w.heap.size + 1, 0, none⟩) 4 4)) (by simp [results, Try.results47, go_sem, stv, brickS]) rfl ⟨⟨w.heap.size + 1, rfl, fun i hi => ?_⟩, bl2 _ _ _⟩
  have h4 : i = 0 ∨ i = 1 ∨ i = 2 ∨ i = 3 := by
    have : i < 4 := hi
    omega
  rcases h4 with rfl | rfl | rfl | rfl
  all_goals exact ⟨by simp [go_sem, px, brickL], by simp [go_sem, pz, brickL]⟩
end Go.Proofs.Ytljmhejljpfaiaa
