import Derived.Test.YtljmhejljpfaiaaCb
namespace Go.Proofs.Ytljmhejljpfaiaa
set_option maxRecDepth 100000
open Go.RowKit Go.Shelf

/-! the brick -/
theorem four {i : Nat} (h : i < 4) : i = 0 ∨ i = 1 ∨ i = 2 ∨ i = 3 := by omega
theorem brick_bx : Bx brickL := fun i hi => by
  rcases four hi with rfl | rfl | rfl | rfl <;> decide
theorem brick_cv : Cv brickL := fun i hi => by
  rcases four hi with rfl | rfl | rfl | rfl <;> decide
theorem brick_pl : Pl brickL := ⟨by decide, brick_bx, by decide, by decide, by decide, brick_cv⟩
theorem brick_tw : tw brickL = 32000 := by kernel_rfl
theorem brick_isp1 : IsP brickL 50 0 := ⟨0, by decide, by kernel_rfl⟩
theorem brick_isp2 : IsP brickL 50 80 := ⟨2, by decide, by kernel_rfl⟩
theorem brick_isp3 : IsP brickL 0 40 := ⟨3, by decide, by kernel_rfl⟩
theorem brick_can : CanC brickL 50 0 50 80 := (canB_iff brickL (50, 0) (50, 80)).1 (by kernel_rfl)
theorem brick_left : stl (partL brickL (50, 80) (50, 0)) = [(0, 0), (50, 0), (50, 80), (0, 80)] := by kernel_rfl
theorem brick_leftn : (partL brickL (50, 80) (50, 0)).length = 4 := by kernel_rfl
theorem brick_rightn : (partL brickL (50, 0) (50, 80)).length = 4 := by kernel_rfl
theorem brick_bp : (bp brickL).length = 560 := by kernel_rfl
theorem brick_out : outc brickL 1 0 (0, 40) 0 = [(200, 40)] := by kernel_rfl
theorem brick_way : wayf 1 (1, 0) = (0, 1) := by kernel_rfl
end Go.Proofs.Ytljmhejljpfaiaa
