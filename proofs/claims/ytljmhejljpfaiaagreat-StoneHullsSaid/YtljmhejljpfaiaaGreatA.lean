import Derived.Test.YtljmhejljpfaiaaGreatChecked
import Derived.WalkKit
import Derived.ProofKit
import Derived.OpenShut
import Derived.IntWalk
import Derived.Deep.QuietTactic
import Derived.BigQuiet
import Derived.Lib.Hide
import Derived.Lib.QuietBelow
import Derived.Deep.RegionWith
import Derived.Deep.OwnRows
import Derived.Deep.LoopGhost
namespace Go.Proofs.YtljmhejljpfaiaaGreat
set_option maxRecDepth 100000
open Go.RowKit

/-- a point -/
abbrev Pt := Int × Int
/-- the numbers of the point with an index -/
def px (l : List Pt) (i : Nat) : Int := (l.getD i (0, 0)).1
def pz (l : List Pt) (i : Nat) : Int := (l.getD i (0, 0)).2
/-- a number that a turn of points may have -/
def Sm (x : Int) : Prop := -20000 ≤ x ∧ x ≤ 20000
/-- an int -/
def I64 (x : Int) : Prop := -9223372036854775808 ≤ x ∧ x ≤ 9223372036854775807
/-- above 0: from a by b to c it turns left -/
def trn (ax az bx bz cx cz : Int) : Int := (bx - ax) * (cz - az) - (cx - ax) * (bz - az)

theorem Below.thru {B : Nat} {a W w1 : World} (h : Below B a W) (hB : B ≤ W.heap.size) (k : Below W.heap.size W w1) : Below B a w1 := h.trans (k.mono hB)
theorem bl1 (w : World) (x : Obj) : Below w.heap.size w (w.alloc x) := (Below.refl _ _).alloc (Nat.le_refl _) _
theorem bl2 (w : World) (x y : Obj) : Below w.heap.size w ((w.alloc x).alloc y) := (bl1 w x).alloc (by simp) _
theorem bl3 (w : World) (x y z : Obj) : Below w.heap.size w (((w.alloc x).alloc y).alloc z) := (bl2 w x y).alloc (by simp; omega) _
theorem bcell {W w1 : World} (hb : Below W.heap.size W w1) : (∀ b o, b < W.heap.size → w1.cell? ⟨b, o, none⟩ = W.cell? ⟨b, o, none⟩) ∧ (∀ b o, b < W.heap.size → w1.frozen? ⟨b, o, none⟩ = W.frozen? ⟨b, o, none⟩) :=
  ⟨fun b o h => hb.cell (p := ⟨b, o, none⟩) h, fun b o h => hb.frozen (p := ⟨b, o, none⟩) h⟩
theorem cell_lt {w : World} {b off : Nat} {v : Value} (h : w.cell? ⟨b, off, none⟩ = some v) : b < w.heap.size := by
  rcases Nat.lt_or_ge b w.heap.size with h1 | h1
  · exact h1
  · simp [World.cell?, Array.getElem?_eq_none h1] at h

theorem prod_bd {a b : Int} (ha : -40000 ≤ a ∧ a ≤ 40000) (hb : -40000 ≤ b ∧ b ≤ 40000) : -1600000000 ≤ a * b ∧ a * b ≤ 1600000000 := by
  constructor
  · rcases Int.le_total 0 a with h | h <;> rcases Int.le_total 0 b with k | k
    · have := Int.mul_nonneg h k; omega
    · have := Int.mul_le_mul ha.2 (show -b ≤ 40000 by omega) (by omega) (by omega)
      rw [Int.mul_neg] at this; omega
    · have := Int.mul_le_mul (show -a ≤ 40000 by omega) hb.2 (by omega) (by omega)
      rw [Int.neg_mul] at this; omega
    · have := Int.mul_nonneg (show 0 ≤ -a by omega) (show 0 ≤ -b by omega)
      rw [Int.neg_mul_neg] at this; omega
  · rcases Int.le_total 0 a with h | h <;> rcases Int.le_total 0 b with k | k
    · have := Int.mul_le_mul ha.2 hb.2 k (by omega); omega
    · have := Int.mul_nonneg h (show 0 ≤ -b by omega); rw [Int.mul_neg] at this; omega
    · have := Int.mul_nonneg (show 0 ≤ -a by omega) k; rw [Int.neg_mul] at this; omega
    · have := Int.mul_le_mul (show -a ≤ 40000 by omega) (show -b ≤ 40000 by omega) (by omega) (by omega)
      rw [Int.neg_mul_neg] at this; omega

/-- within -/
def inB (n a b : Int) : Bool := decide (a ≤ n ∧ n ≤ b)
theorem inB_t {n a b : Int} (h1 : a ≤ n) (h2 : n ≤ b) : inB n a b = true := by simp [inB, h1, h2]
theorem within_any (n a b : Int) (w : World) : Calls Tryz.prog 17 #[.int .i64 n, .int .i64 a, .int .i64 b] w fun e w' => e = .returned (.bool (inB n a b)) ∧ w = w' := by
  by_cases h1 : a ≤ n
  · have g1 : decide (a ≤ n) = true := by simpa using h1
    go_enter Tryz.func17, Tryz.ntmps17
    go_wp2
    go_ret
    exact ⟨by simp [inB, h1], rfl⟩
  · have g1 : decide (a ≤ n) = false := by simpa using h1
    have HB : Hid (inB n a b = false) := by show _ = _; simp [inB, h1]
    go_enter Tryz.func17, Tryz.ntmps17
    go_wp2
    go_ret
    refine ⟨?_, rfl⟩
    rw [HB.out]; rfl
theorem in_any (n a b : Int) (w : World) : Calls Tryz.prog 7 #[.int .i64 n, .int .i64 a, .int .i64 b] w fun e w' => e = .returned (.bool (inB n a b)) ∧ w = w' := by
  by_cases h1 : a ≤ n
  · have g1 : decide (a ≤ n) = true := by simpa using h1
    go_enter Tryz.func7, Tryz.ntmps7
    go_wp2
    go_ret
    exact ⟨by simp [inB, h1], rfl⟩
  · have g1 : decide (a ≤ n) = false := by simpa using h1
    have HB : Hid (inB n a b = false) := by show _ = _; simp [inB, h1]
    go_enter Tryz.func7, Tryz.ntmps7
    go_wp2
    go_ret
    refine ⟨?_, rfl⟩
    rw [HB.out]; rfl
/-- the next index -/
def nx (n i : Nat) : Nat := (i + 1) % n
theorem next_any (p : Option Addr) (n c i : Nat) (w : World) (hn : i < n) (hm : n ≤ 1000000) : Calls Tryz.prog 61 #[.slice p n c, .int .i64 i] w fun e w' => e = .returned (.int .i64 (nx n i : Nat)) ∧ w = w' := by
  have hr : ((i : Int) + 1) % (n : Int) = ((nx n i : Nat) : Int) := by unfold nx; rw [Int.natCast_emod]; rfl
  have h0 : ¬ (n : Int) = 0 := by omega
  go_enter Tryz.func61, Tryz.ntmps61
  go_wp2
  go_ret
  exact ⟨rfl, rfl⟩
/-- turn, Side -/
theorem turn_any (ax az bx bz cx cz : Int) (w : World) (h1 : Sm ax) (h2 : Sm az) (h3 : Sm bx) (h4 : Sm bz) (h5 : Sm cx) (h6 : Sm cz) :
    Calls Tryz.prog 76 #[.agg #[.int .i64 ax, .int .i64 az], .agg #[.int .i64 bx, .int .i64 bz], .agg #[.int .i64 cx, .int .i64 cz]] w fun e w' => e = .returned (.int .i64 (trn ax az bx bz cx cz)) ∧ Below w.heap.size w w' := by
  unfold Sm at *
  have p1 := prod_bd (a := bx - ax) (b := cz - az) (by omega) (by omega)
  have p2 := prod_bd (a := cx - ax) (b := bz - az) (by omega) (by omega)
  have q1 := IntWalk.i64_in (bx - ax) (by omega)
  have q2 := IntWalk.i64_in (cz - az) (by omega)
  have q3 := IntWalk.i64_in (cx - ax) (by omega)
  have q4 := IntWalk.i64_in (bz - az) (by omega)
  have q5 := IntWalk.i64_in ((bx - ax) * (cz - az)) (by omega)
  have q6 := IntWalk.i64_in ((cx - ax) * (bz - az)) (by omega)
  have q7 := IntWalk.i64_in ((bx - ax) * (cz - az) - (cx - ax) * (bz - az)) (by omega)
  have HE : Hid (trn ax az bx bz cx cz = (bx - ax) * (cz - az) - (cx - ax) * (bz - az)) := rfl
  clear h1 h2 h3 h4 h5 h6 p1 p2
  go_enter Tryz.func76, Tryz.ntmps76
  go_wp2
  go_ret
  exact ⟨rfl, bl3 _ _ _ _⟩
end Go.Proofs.YtljmhejljpfaiaaGreat
