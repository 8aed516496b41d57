import Derived.Test.YtljmhejljpfaiaaGreatE
namespace Go.Proofs.YtljmhejljpfaiaaGreat
set_option maxRecDepth 100000
set_option maxRecDepth 100000
open Go.RowKit

/-- Side, of the reference -/
theorem side_any (ax az bx bz cx cz : Int) (w : World) (h1 : Sm ax) (h2 : Sm az) (h3 : Sm bx) (h4 : Sm bz) (h5 : Sm cx) (h6 : Sm cz) :
    Calls Tryz.prog 24 #[.agg #[.int .i64 ax, .int .i64 az], .agg #[.int .i64 bx, .int .i64 bz], .agg #[.int .i64 cx, .int .i64 cz]] w fun e w' => e = .returned (.int .i64 (trn ax az bx bz cx cz)) ∧ Below w.heap.size w w' := by
  unfold Sm at *
  have p1 := prod_bd (a := bx - ax) (b := cz - az) (by omega) (by omega)
  have p2 := prod_bd (a := bz - az) (b := cx - ax) (by omega) (by omega)
  have q1 := IntWalk.i64_in (bx - ax) (by omega)
  have q2 := IntWalk.i64_in (cz - az) (by omega)
  have q3 := IntWalk.i64_in (cx - ax) (by omega)
  have q4 := IntWalk.i64_in (bz - az) (by omega)
  have q5 := IntWalk.i64_in ((bx - ax) * (cz - az)) (by omega)
  have q6 := IntWalk.i64_in ((bz - az) * (cx - ax)) (by omega)
  have q7 := IntWalk.i64_in ((bx - ax) * (cz - az) - (bz - az) * (cx - ax)) (by omega)
  have HE : Hid (trn ax az bx bz cx cz = (bx - ax) * (cz - az) - (bz - az) * (cx - ax)) := by show _ = _; unfold trn; rw [Int.mul_comm (cx - ax)]
  clear h1 h2 h3 h4 h5 h6 p1 p2
  go_enter Tryz.func24, Tryz.ntmps24
  go_wp2
  go_ret
  exact ⟨by rw [HE.out]; rfl, bl3 _ _ _ _⟩
/-- the corner k is not on the edge i, or lies to the left of it -/
def C2 (l : List Pt) (n i k : Nat) : Prop := k ≠ i → k ≠ nx n i → 0 < D3 (pt l i) (pt l (nx n i)) (pt l k)
end Go.Proofs.YtljmhejljpfaiaaGreat
