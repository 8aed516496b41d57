import Derived.Test.YtljmhejljpfaiaaHa
namespace Go.Proofs.Ytljmhejljpfaiaa
set_option maxRecDepth 100000
open Go.RowKit Go.Shelf

/-! the steps of a chip -/
/-- the corner before -/
def pvx (l : List Pt) (k : Nat) : Nat := (k + l.length - 1) % l.length
def snK (l : List Pt) (k m : Nat) : Nat := sn (px l k) (pz l k) (px l m) (pz l m)
/-- so many steps from corner k to corner m -/
def stK (l : List Pt) (k m : Nat) (b : Int) : Pt := (px l k + b * (px l m - px l k).tdiv (snK l k m : Nat), pz l k + b * (pz l m - pz l k).tdiv (snK l k m : Nat))
def ChOk (l : List Pt) (corner back on : Int) : Prop := ∃ k : Nat, corner = k ∧ k < l.length ∧ (1 ≤ back ∧ back ≤ (snK l k (pvx l k) : Nat)) ∧ (1 ≤ on ∧ on ≤ (snK l k (nx l.length k) : Nat))
end Go.Proofs.Ytljmhejljpfaiaa
