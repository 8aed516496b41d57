import Derived.Test.YtljmhejljpfaiaaGreatRows
import Derived.Test.YtljmhejljpfaiaaGreatN
import Derived.ProofKit
import Derived.ChangeSame
import Derived.JoinedOf
import Derived.JoinedAt
import Derived.RowKit3
import Derived.Lib.SmallJoins
import Derived.Carry
import Derived.Deep.SlicePairs
namespace Go.Proofs.YtljmhejljpfaiaaGreat
set_option maxRecDepth 100000
set_option maxRecDepth 100000
open Go.ChangeShapes Go.WideShapes Go.ChangeAt Go.RowKit Go.Joins Go.Deep

/-! a stone, a point, as they are handed in -/
theorem Tryz.own : ownKnob Tryz.prog.godebug = Option.none := by kernel_rfl
theorem Tryz.laidIn : laidOutB Tryz.prog = true := by kernel_rfl
theorem Tryz.cells31 : Tryz.prog.cellsOf 31 = 2 := by kernel_rfl
theorem Tryz.cells22 : Tryz.prog.cellsOf 22 = 1 := by kernel_rfl
theorem Tryz.cells9 : Tryz.prog.cellsOf 9 = 1 := by kernel_rfl
theorem Tryz.cells3 : Tryz.prog.cellsOf 3 = 1 := by kernel_rfl
theorem i64_of {x : Int} (h : (Lit.int .i64 x).wf = true) : I64 x := by
  simp [Lit.wf, IntKind.min, IntKind.max, IntKind.signed, IntKind.bits] at h
  exact ⟨by omega, by omega⟩
section
variable {H : Type} {enc : TypeId × Value → H} {W : World} {base : Nat}
theorem pts_open {fuel : Nat} {cs : List Value} {x : DataW H × List MemPlace} (hf : DataW.trod enc Tryz.prog W 0 (fun _ => true) true fuel 22 cs = some x) :
    ∃ (q : Option Addr) (c : Nat) (l : List Pt), cs = [.slice q l.length c] ∧ l.length ≤ maxLen ∧ (l.length ≤ 1000000 → Pts W (.slice q l.length c) l) ∧ ∀ i, i < l.length → I64 (px l i) ∧ I64 (pz l i) := by
  rcases open_slice_pairs Tryz.underlying22 Tryz.underlying31 Tryz.cells31 rfl rfl Tryz.cells3 Tryz.cells3 hf with ⟨rfl, _⟩ | ⟨a', len, cap, m, k, V0, V1, D0, D1, P0, P1, rfl, _, hl, hm, hmm, _, hall⟩
  · exact ⟨Option.none, 0, [], rfl, by simp, fun _ => ⟨by simp, Option.none, 0, rfl, .inl rfl⟩, fun i hi => absurd hi (by simp)⟩
  · simp only [if_true] at hmm
    subst hmm
    have h0 : ∀ i, ∃ Ni : Int, i < len → V0 i = .int .i64 Ni ∧ I64 Ni := fun i => by
      by_cases hi : i < len
      · obtain ⟨Ni, h1, _, h3⟩ := DataW.trod_int Tryz.underlying3 (hall i (by omega)).2.2.1
        simp only [List.cons.injEq, and_true] at h1
        exact ⟨Ni, fun _ => ⟨h1, i64_of h3⟩⟩
      · exact ⟨0, fun h => absurd h hi⟩
    have h1 : ∀ i, ∃ Ni : Int, i < len → V1 i = .int .i64 Ni ∧ I64 Ni := fun i => by
      by_cases hi : i < len
      · obtain ⟨Ni, h1, _, h3⟩ := DataW.trod_int Tryz.underlying3 (hall i (by omega)).2.2.2
        simp only [List.cons.injEq, and_true] at h1
        exact ⟨Ni, fun _ => ⟨h1, i64_of h3⟩⟩
      · exact ⟨0, fun h => absurd h hi⟩
    obtain ⟨Nn, hN⟩ := Classical.axiomOfChoice h0
    obtain ⟨Dn, hD⟩ := Classical.axiomOfChoice h1
    have hlen : ((List.range len).map fun i => ((Nn i, Dn i) : Pt)).length = len := by simp
    have hpx : ∀ i, i < len → px ((List.range len).map fun i => ((Nn i, Dn i) : Pt)) i = Nn i ∧ pz ((List.range len).map fun i => ((Nn i, Dn i) : Pt)) i = Dn i := fun i hi => by
      unfold px pz
      rw [List.getD_eq_getElem?_getD, List.getElem?_map, List.getElem?_range hi]
      exact ⟨rfl, rfl⟩
    refine ⟨some a', m, (List.range len).map fun i => ((Nn i, Dn i) : Pt), by rw [hlen], by rw [hlen]; omega, fun hbig => ⟨by omega, some a', m, rfl, ?_⟩, fun i hi => ?_⟩
    · by_cases hz : len = 0
      · subst hz; exact .inl rfl
      · obtain ⟨sb, so, spot⟩ := a'
        have hspot : spot = Option.none := by simpa [Addr.add] using World.cell?_spot (hall 0 (by omega)).1
        subst hspot
        refine .inr ⟨sb, so, rfl, fun i hi => ?_, ?_⟩
        · rw [hlen] at hi
          have c0 := (hall i (by omega)).1
          have c1 := (hall i (by omega)).2.1
          rw [(hN i hi).1, Addr.add_lit] at c0
          rw [(hD i hi).1, Addr.add_lit] at c1
          rw [(hpx i hi).1, (hpx i hi).2]
          exact ⟨c0, by rw [Nat.add_assoc]; exact c1⟩
        · have c0 := (hall 0 (by omega)).1
          rw [Addr.add_lit] at c0
          exact cell_lt c0
    · rw [hlen] at hi
      rw [(hpx i hi).1, (hpx i hi).2]
      exact ⟨(hN i hi).2, (hD i hi).2⟩
end
end Go.Proofs.YtljmhejljpfaiaaGreat
