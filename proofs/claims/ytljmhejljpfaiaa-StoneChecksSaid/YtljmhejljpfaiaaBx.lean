import Derived.Test.YtljmhejljpfaiaaBw
import Derived.Laws.EntriesVeiled
namespace Go.Proofs.Ytljmhejljpfaiaa
set_option maxRecDepth 100000
open Go.RowKit Go.Shelf

/-! laid, Reverse -/
/-- where a way takes a point -/
def wayf (k : Nat) (p : Pt) : Pt := match k with
  | 0 => (p.1, p.2)
  | 1 => (-p.2, p.1)
  | 2 => (-p.1, -p.2)
  | 3 => (p.2, -p.1)
  | 4 => (-p.1, p.2)
  | 5 => (-p.2, -p.1)
  | 6 => (p.1, -p.2)
  | _ => (p.2, p.1)
theorem laid0_any (x z : Int) (w : World) (h1 : Sm x) (h2 : Sm z) : Calls Try.prog 92 #[.agg #[.int .i64 x, .int .i64 z]] w fun e w' => e = .returned (.agg #[.int .i64 (x), .int .i64 (z)]) ∧ Below w.heap.size w w' := by
  unfold Sm at *
  have e1 := IntWalk.i64_in (-x) (by omega)
  have e2 := IntWalk.i64_in (-z) (by omega)
  clear h1 h2
  go_enter Try.func92, Try.ntmps92
  go_wp2
  exact bodyPost_ret (v := .agg #[.int .i64 (x), .int .i64 (z)]) (by simp [results, Try.results92, go_sem]) rfl ⟨rfl, bl2 w _ _⟩
theorem laid1_any (x z : Int) (w : World) (h1 : Sm x) (h2 : Sm z) : Calls Try.prog 93 #[.agg #[.int .i64 x, .int .i64 z]] w fun e w' => e = .returned (.agg #[.int .i64 (-z), .int .i64 (x)]) ∧ Below w.heap.size w w' := by
  unfold Sm at *
  have e1 := IntWalk.i64_in (-x) (by omega)
  have e2 := IntWalk.i64_in (-z) (by omega)
  clear h1 h2
  go_enter Try.func93, Try.ntmps93
  go_wp2
  exact bodyPost_ret (v := .agg #[.int .i64 (-z), .int .i64 (x)]) (by simp [results, Try.results93, go_sem]) rfl ⟨rfl, bl2 w _ _⟩
theorem laid2_any (x z : Int) (w : World) (h1 : Sm x) (h2 : Sm z) : Calls Try.prog 94 #[.agg #[.int .i64 x, .int .i64 z]] w fun e w' => e = .returned (.agg #[.int .i64 (-x), .int .i64 (-z)]) ∧ Below w.heap.size w w' := by
  unfold Sm at *
  have e1 := IntWalk.i64_in (-x) (by omega)
  have e2 := IntWalk.i64_in (-z) (by omega)
  clear h1 h2
  go_enter Try.func94, Try.ntmps94
  go_wp2
  exact bodyPost_ret (v := .agg #[.int .i64 (-x), .int .i64 (-z)]) (by simp [results, Try.results94, go_sem]) rfl ⟨rfl, bl2 w _ _⟩
theorem laid3_any (x z : Int) (w : World) (h1 : Sm x) (h2 : Sm z) : Calls Try.prog 95 #[.agg #[.int .i64 x, .int .i64 z]] w fun e w' => e = .returned (.agg #[.int .i64 (z), .int .i64 (-x)]) ∧ Below w.heap.size w w' := by
  unfold Sm at *
  have e1 := IntWalk.i64_in (-x) (by omega)
  have e2 := IntWalk.i64_in (-z) (by omega)
  clear h1 h2
  go_enter Try.func95, Try.ntmps95
  go_wp2
  exact bodyPost_ret (v := .agg #[.int .i64 (z), .int .i64 (-x)]) (by simp [results, Try.results95, go_sem]) rfl ⟨rfl, bl2 w _ _⟩
theorem laid4_any (x z : Int) (w : World) (h1 : Sm x) (h2 : Sm z) : Calls Try.prog 96 #[.agg #[.int .i64 x, .int .i64 z]] w fun e w' => e = .returned (.agg #[.int .i64 (-x), .int .i64 (z)]) ∧ Below w.heap.size w w' := by
  unfold Sm at *
  have e1 := IntWalk.i64_in (-x) (by omega)
  have e2 := IntWalk.i64_in (-z) (by omega)
  clear h1 h2
  go_enter Try.func96, Try.ntmps96
  go_wp2
  exact bodyPost_ret (v := .agg #[.int .i64 (-x), .int .i64 (z)]) (by simp [results, Try.results96, go_sem]) rfl ⟨rfl, bl2 w _ _⟩
theorem laid5_any (x z : Int) (w : World) (h1 : Sm x) (h2 : Sm z) : Calls Try.prog 97 #[.agg #[.int .i64 x, .int .i64 z]] w fun e w' => e = .returned (.agg #[.int .i64 (-z), .int .i64 (-x)]) ∧ Below w.heap.size w w' := by
  unfold Sm at *
  have e1 := IntWalk.i64_in (-x) (by omega)
  have e2 := IntWalk.i64_in (-z) (by omega)
  clear h1 h2
  go_enter Try.func97, Try.ntmps97
  go_wp2
  exact bodyPost_ret (v := .agg #[.int .i64 (-z), .int .i64 (-x)]) (by simp [results, Try.results97, go_sem]) rfl ⟨rfl, bl2 w _ _⟩
theorem laid6_any (x z : Int) (w : World) (h1 : Sm x) (h2 : Sm z) : Calls Try.prog 98 #[.agg #[.int .i64 x, .int .i64 z]] w fun e w' => e = .returned (.agg #[.int .i64 (x), .int .i64 (-z)]) ∧ Below w.heap.size w w' := by
  unfold Sm at *
  have e1 := IntWalk.i64_in (-x) (by omega)
  have e2 := IntWalk.i64_in (-z) (by omega)
  clear h1 h2
  go_enter Try.func98, Try.ntmps98
  go_wp2
  exact bodyPost_ret (v := .agg #[.int .i64 (x), .int .i64 (-z)]) (by simp [results, Try.results98, go_sem]) rfl ⟨rfl, bl2 w _ _⟩
theorem laid7_any (x z : Int) (w : World) (h1 : Sm x) (h2 : Sm z) : Calls Try.prog 99 #[.agg #[.int .i64 x, .int .i64 z]] w fun e w' => e = .returned (.agg #[.int .i64 (z), .int .i64 (x)]) ∧ Below w.heap.size w w' := by
  unfold Sm at *
  have e1 := IntWalk.i64_in (-x) (by omega)
  have e2 := IntWalk.i64_in (-z) (by omega)
  clear h1 h2
  go_enter Try.func99, Try.ntmps99
  go_wp2
  exact bodyPost_ret (v := .agg #[.int .i64 (z), .int .i64 (x)]) (by simp [results, Try.results99, go_sem]) rfl ⟨rfl, bl2 w _ _⟩
theorem way_any (k : Nat) (hk : k < 8) (x z : Int) (w : World) (h1 : Sm x) (h2 : Sm z) : Calls Try.prog (92 + k) #[.agg #[.int .i64 x, .int .i64 z]] w fun e w' => e = .returned (.agg #[.int .i64 (wayf k (x, z)).1, .int .i64 (wayf k (x, z)).2]) ∧ Below w.heap.size w w' := by
  have h8 : k = 0 ∨ k = 1 ∨ k = 2 ∨ k = 3 ∨ k = 4 ∨ k = 5 ∨ k = 6 ∨ k = 7 := by omega
  rcases h8 with rfl | rfl | rfl | rfl | rfl | rfl | rfl | rfl
  · exact laid0_any x z w h1 h2
  · exact laid1_any x z w h1 h2
  · exact laid2_any x z w h1 h2
  · exact laid3_any x z w h1 h2
  · exact laid4_any x z w h1 h2
  · exact laid5_any x z w h1 h2
  · exact laid6_any x z w h1 h2
  · exact laid7_any x z w h1 h2
theorem laidw0_any (w : World) : Calls Try.prog 67 #[.int .i64 0] w fun e w' => e = .returned (.func (.func 92) #[] #[]) ∧ Below w.heap.size w w' := by
  go_enter Try.func67, Try.ntmps67
  go_wp2
  go_ret
  exact ⟨rfl, bl1 _ _⟩
theorem laidw1_any (w : World) : Calls Try.prog 67 #[.int .i64 1] w fun e w' => e = .returned (.func (.func 93) #[] #[]) ∧ Below w.heap.size w w' := by
  go_enter Try.func67, Try.ntmps67
  go_wp2
  go_ret
  exact ⟨rfl, bl1 _ _⟩
theorem laidw2_any (w : World) : Calls Try.prog 67 #[.int .i64 2] w fun e w' => e = .returned (.func (.func 94) #[] #[]) ∧ Below w.heap.size w w' := by
  go_enter Try.func67, Try.ntmps67
  go_wp2
  go_ret
  exact ⟨rfl, bl1 _ _⟩
theorem laidw3_any (w : World) : Calls Try.prog 67 #[.int .i64 3] w fun e w' => e = .returned (.func (.func 95) #[] #[]) ∧ Below w.heap.size w w' := by
  go_enter Try.func67, Try.ntmps67
  go_wp2
  go_ret
  exact ⟨rfl, bl1 _ _⟩
theorem laidw4_any (w : World) : Calls Try.prog 67 #[.int .i64 4] w fun e w' => e = .returned (.func (.func 96) #[] #[]) ∧ Below w.heap.size w w' := by
  go_enter Try.func67, Try.ntmps67
  go_wp2
  go_ret
  exact ⟨rfl, bl1 _ _⟩
theorem laidw5_any (w : World) : Calls Try.prog 67 #[.int .i64 5] w fun e w' => e = .returned (.func (.func 97) #[] #[]) ∧ Below w.heap.size w w' := by
  go_enter Try.func67, Try.ntmps67
  go_wp2
  go_ret
  exact ⟨rfl, bl1 _ _⟩
theorem laidw6_any (w : World) : Calls Try.prog 67 #[.int .i64 6] w fun e w' => e = .returned (.func (.func 98) #[] #[]) ∧ Below w.heap.size w w' := by
  go_enter Try.func67, Try.ntmps67
  go_wp2
  go_ret
  exact ⟨rfl, bl1 _ _⟩
theorem laidw7_any (w : World) : Calls Try.prog 67 #[.int .i64 7] w fun e w' => e = .returned (.func (.func 99) #[] #[]) ∧ Below w.heap.size w w' := by
  go_enter Try.func67, Try.ntmps67
  go_wp2
  go_ret
  exact ⟨rfl, bl1 _ _⟩
theorem laid_any (k : Nat) (hk : k < 8) (w : World) : Calls Try.prog 67 #[.int .i64 k] w fun e w' => e = .returned (.func (.func (92 + k)) #[] #[]) ∧ Below w.heap.size w w' := by
  have h8 : k = 0 ∨ k = 1 ∨ k = 2 ∨ k = 3 ∨ k = 4 ∨ k = 5 ∨ k = 6 ∨ k = 7 := by omega
  rcases h8 with rfl | rfl | rfl | rfl | rfl | rfl | rfl | rfl
  · exact laidw0_any w
  · exact laidw1_any w
  · exact laidw2_any w
  · exact laidw3_any w
  · exact laidw4_any w
  · exact laidw5_any w
  · exact laidw6_any w
  · exact laidw7_any w
end Go.Proofs.Ytljmhejljpfaiaa
