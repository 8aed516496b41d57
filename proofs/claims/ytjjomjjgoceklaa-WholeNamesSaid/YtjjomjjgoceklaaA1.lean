import Derived.Test.YtjjomjjgoceklaaChecked
import Derived.Test.YtjjomjjgoceklaaShelf
import Derived.Shelf.Spec.BitsCarry
import Derived.WalkKit
import Derived.ProofKit
import Derived.OpenShut
import Derived.Deep.QuietTactic
import Derived.BigQuiet
import Derived.Lib.Hide
import Derived.Deep.RegionWith
import Derived.Deep.OwnRows
import Derived.Deep.LoopGhost
namespace Go.Proofs.Ytjjomjjgoceklaa
open Go.RowKit

/-- the size of a word; closed to the walk's own rules -/
def WB : Nat := 18446744073709551616
theorem WB_eq : WB = 18446744073709551616 := rfl
theorem WB_pos : 0 < WB := by unfold WB; omega
/-- n is a word -/
def Wd (n : Nat) : Prop := n < WB
theorem Wd.lt {n : Nat} (h : Wd n) : n < WB := h
theorem Wd.zero : Wd 0 := WB_pos

/-- math/bits.Add64 -/
theorem add64_run (x y c : Nat) (hc : c ≤ 1) (hx : Wd x) (hy : Wd y) : ∃ s k : Nat, Wd s ∧ k ≤ 1 ∧ Hid (s + WB * k = x + y + c) ∧ ∀ w : World,
    (callFunc 78 #[.int .u64 (x : Int), .int .u64 (y : Int), .int .u64 (c : Int)]).run Try.prog w = .ok (.value (.tuple #[.int .u64 (s : Int), .int .u64 (k : Int)])) w := by
  unfold Wd WB at *
  refine ⟨(x + y + c) % 18446744073709551616, (x + y + c) / 18446744073709551616, by omega, by omega, by show _ = _; omega, fun w => ?_⟩
  rw [run_callFunc_extern Try.func78 (by kernel_rfl) (by kernel_rfl) (by kernel_rfl) (e := add64Entry) (by kernel_rfl), run_add64 x y c (by omega) (by omega) (by omega) (by omega)]
  simp only [Result.andThen]
  congr 5 <;> omega
theorem add64_run0 (x y : Nat) (hx : Wd x) (hy : Wd y) : ∃ s k : Nat, Wd s ∧ k ≤ 1 ∧ Hid (s + WB * k = x + y) ∧ ∀ w : World,
    (callFunc 78 #[.int .u64 (x : Int), .int .u64 (y : Int), .int .u64 0]).run Try.prog w = .ok (.value (.tuple #[.int .u64 (s : Int), .int .u64 (k : Int)])) w :=
  add64_run x y 0 (by omega) hx hy
theorem sub64_run (x y b : Nat) (hb : b ≤ 1) (hx : Wd x) (hy : Wd y) : ∃ s k : Nat, Wd s ∧ k ≤ 1 ∧ Hid (x + WB * k = s + y + b) ∧ ∀ w : World,
    (callFunc 98 #[.int .u64 (x : Int), .int .u64 (y : Int), .int .u64 (b : Int)]).run Try.prog w = .ok (.value (.tuple #[.int .u64 (s : Int), .int .u64 (k : Int)])) w := by
  unfold Wd WB at *
  refine ⟨(x + 18446744073709551616 - y - b) % 18446744073709551616, if x < y + b then 1 else 0, by omega, by split <;> omega, by show _ = _; split <;> omega, fun w => ?_⟩
  rw [run_callFunc_extern Try.func98 (by kernel_rfl) (by kernel_rfl) (by kernel_rfl) (e := sub64Entry) (by kernel_rfl), run_sub64 x y b hb]
  rfl
theorem sub64_run0 (x y : Nat) (hx : Wd x) (hy : Wd y) : ∃ s k : Nat, Wd s ∧ k ≤ 1 ∧ Hid (x + WB * k = s + y) ∧ ∀ w : World,
    (callFunc 98 #[.int .u64 (x : Int), .int .u64 (y : Int), .int .u64 0]).run Try.prog w = .ok (.value (.tuple #[.int .u64 (s : Int), .int .u64 (k : Int)])) w :=
  sub64_run x y 0 (by omega) hx hy
/-- a sum that is a word -/
theorem wrap_add (h k : Nat) (hw : Wd (h + k)) : ∃ t : Nat, Wd t ∧ Hid (t = h + k) ∧ IntKind.u64.wrap ((h : Int) + (k : Int)) = (t : Int) :=
  ⟨h + k, hw, rfl, by unfold Wd WB at hw; rw [IntKind.wrap_u64]; omega⟩

theorem mul64_any (x y : Nat) (hx : Wd x) (hy : Wd y) (w : World) :
    Calls Try.prog 84 #[.int .u64 (x : Int), .int .u64 (y : Int)] w fun e w' => w = w' ∧ ∃ h l : Nat, e = .returned (.tuple #[.int .u64 (h : Int), .int .u64 (l : Int)]) ∧ Wd l ∧ Wd h ∧ Hid (WB * h + l = x * y) := by
  unfold Wd WB at *
  refine (Try.bits_Mul64 x y hx hy w).mono ?_
  rintro e w' ⟨rfl, rfl⟩
  refine ⟨rfl, _, _, rfl, Nat.mod_lt _ (by omega), ?_, ?_⟩
  · exact Nat.div_lt_of_lt_mul (Nat.mul_lt_mul'' hx hy)
  · exact Nat.div_add_mod _ _

/-- timesPlus: x m + c in two words. -/
theorem timesPlus_any (x m c : Nat) (hx : Wd x) (hm : Wd m) (hc : Wd c) (w : World) :
    Calls Try.prog 106 #[.int .u64 (x : Int), .int .u64 (m : Int), .int .u64 (c : Int)] w fun e w' =>
      w = w' ∧ ∃ h l : Nat, e = .returned (.tuple #[.int .u64 (h : Int), .int .u64 (l : Int)]) ∧ Wd l ∧ Wd h ∧ Hid (WB * h + l = x * m + c) := by
  go_enter Try.func106, Try.ntmps106
  go_wp2_with fail
  refine (mul64_any x m hx hm _).mono ?_
  rintro e w' ⟨rfl, h, l, rfl, hl, hh, H⟩
  obtain ⟨s, k, hs, hk, K, hrun⟩ := add64_run0 l c hl hc
  have hb : Wd (h + k) := by
    have H := H.out; have K := K.out
    have hx' : x * m ≤ (WB - 1) * (WB - 1) := Nat.mul_le_mul (by unfold Wd at hx; omega) (by unfold Wd at hm; omega)
    unfold Wd WB at *
    omega
  obtain ⟨t, ht, T, hw⟩ := wrap_add h k hb
  clear hk
  go_wp2
  refine bodyPost_ret (v := .tuple #[.int .u64 (t : Int), .int .u64 (s : Int)]) (by simp [results, Try.results106, go_sem]) rfl ⟨rfl, t, s, rfl, hs, ht, ?_⟩
  have H := H.out; have K := K.out; have T := T.out
  show _ = _
  rw [T, ← H, Nat.mul_add]; omega
end Go.Proofs.Ytjjomjjgoceklaa
