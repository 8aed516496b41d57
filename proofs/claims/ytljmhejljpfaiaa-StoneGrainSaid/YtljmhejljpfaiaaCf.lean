import Derived.Test.YtljmhejljpfaiaaRows
import Derived.Test.YtljmhejljpfaiaaN
import Derived.ProofKit
import Derived.ChangeSame
import Derived.JoinedOf
import Derived.JoinedAt
import Derived.RowKit3
import Derived.Lib.SmallJoins
import Derived.Carry
import Derived.Deep.SlicePairs
namespace Go.Proofs.Ytljmhejljpfaiaa
set_option maxRecDepth 100000
open Go.ChangeShapes Go.WideShapes Go.ChangeAt Go.RowKit Go.Joins Go.Deep

/-! a stone, a point, as they are handed in -/
theorem Try.own : ownKnob Try.prog.godebug = Option.none := by kernel_rfl
theorem Try.laidIn : laidOutB Try.prog = true := by kernel_rfl
theorem Try.cells26 : Try.prog.cellsOf 26 = 6 := by kernel_rfl
theorem Try.cells24 : Try.prog.cellsOf 24 = 2 := by kernel_rfl
theorem Try.cells22 : Try.prog.cellsOf 22 = 1 := by kernel_rfl
theorem Try.cells9 : Try.prog.cellsOf 9 = 1 := by kernel_rfl
theorem Try.cells3 : Try.prog.cellsOf 3 = 1 := by kernel_rfl
theorem i64_of {x : Int} (h : (Lit.int .i64 x).wf = true) : I64 x := by
  simp [Lit.wf, IntKind.min, IntKind.max, IntKind.signed, IntKind.bits] at h
  exact ⟨by omega, by omega⟩
section
variable {H : Type} {enc : TypeId × Value → H} {W : World} {base : Nat}
theorem pts_open {fuel : Nat} {cs : List Value} {x : DataW H × List MemPlace} (hf : DataW.trod enc Try.prog W 0 (fun _ => true) true fuel 22 cs = some x) :
    ∃ (q : Option Addr) (c : Nat) (l : List Pt), cs = [.slice q l.length c] ∧ l.length ≤ maxLen ∧ (l.length ≤ 1000000 → Pts W (.slice q l.length c) l) ∧ ∀ i, i < l.length → I64 (px l i) ∧ I64 (pz l i) := by
  rcases open_slice_pairs Try.underlying22 Try.underlying24 Try.cells24 rfl rfl Try.cells3 Try.cells3 hf with ⟨rfl, _⟩ | ⟨a', len, cap, m, k, V0, V1, D0, D1, P0, P1, rfl, _, hl, hm, hmm, _, hall⟩
  · exact ⟨Option.none, 0, [], rfl, by simp, fun _ => ⟨by simp, Option.none, 0, rfl, .inl rfl⟩, fun i hi => absurd hi (by simp)⟩
  · simp only [if_true] at hmm
    subst hmm
    have h0 : ∀ i, ∃ Ni : Int, i < len → V0 i = .int .i64 Ni ∧ I64 Ni := fun i => by
      by_cases hi : i < len
      · obtain ⟨Ni, h1, _, h3⟩ := DataW.trod_int Try.underlying3 (hall i (by omega)).2.2.1
        simp only [List.cons.injEq, and_true] at h1
        exact ⟨Ni, fun _ => ⟨h1, i64_of h3⟩⟩
      · exact ⟨0, fun h => absurd h hi⟩
    have h1 : ∀ i, ∃ Ni : Int, i < len → V1 i = .int .i64 Ni ∧ I64 Ni := fun i => by
      by_cases hi : i < len
      · obtain ⟨Ni, h1, _, h3⟩ := DataW.trod_int Try.underlying3 (hall i (by omega)).2.2.2
        simp only [List.cons.injEq, and_true] at h1
        exact ⟨Ni, fun _ => ⟨h1, i64_of h3⟩⟩
      · exact ⟨0, fun h => absurd h hi⟩
    obtain ⟨Nn, hN⟩ := Classical.axiomOfChoice h0
    obtain ⟨Dn, hD⟩ := Classical.axiomOfChoice h1
    have hlen : ((List.range len).map fun i => ((Nn i, Dn i) : Pt)).length = len := by simp
    have hpx : ∀ i, i < len → px ((List.range len).map fun i => ((Nn i, Dn i) : Pt)) i = Nn i ∧ pz ((List.range len).map fun i => ((Nn i, Dn i) : Pt)) i = Dn i := fun i hi => by
      unfold px pz
      rw [List.getD_eq_getElem?_getD, List.getElem?_map, List.getElem?_range hi]
      exact ⟨rfl, rfl⟩
    refine ⟨some a', m, (List.range len).map fun i => ((Nn i, Dn i) : Pt), by rw [hlen], by rw [hlen]; omega, fun hbig => ⟨by omega, some a', m, rfl, ?_⟩, fun i hi => ?_⟩
    · by_cases hz : len = 0
      · subst hz; exact .inl rfl
      · obtain ⟨sb, so, spot⟩ := a'
        have hspot : spot = Option.none := by simpa [Addr.add] using World.cell?_spot (hall 0 (by omega)).1
        subst hspot
        refine .inr ⟨sb, so, rfl, fun i hi => ?_, ?_⟩
        · rw [hlen] at hi
          have c0 := (hall i (by omega)).1
          have c1 := (hall i (by omega)).2.1
          rw [(hN i hi).1, Addr.add_lit] at c0
          rw [(hD i hi).1, Addr.add_lit] at c1
          rw [(hpx i hi).1, (hpx i hi).2]
          exact ⟨c0, by rw [Nat.add_assoc]; exact c1⟩
        · have c0 := (hall 0 (by omega)).1
          rw [Addr.add_lit] at c0
          exact cell_lt c0
    · rw [hlen] at hi
      rw [(hpx i hi).1, (hpx i hi).2]
      exact ⟨(hN i hi).2, (hD i hi).2⟩
/-- a point's two cells -/
theorem point_open {fuel : Nat} {cs : List Value} {x : DataW H × List MemPlace} (hf : DataW.trod enc Try.prog W 0 (fun _ => true) true fuel 24 cs = some x) : ∃ a b : Int, cs = [.int .i64 a, .int .i64 b] ∧ I64 a ∧ I64 b := by
  obtain ⟨xs, n, _, hx, hc, hlen, hg⟩ := DataW.trod_struct Try.underlying24 hf
  rw [Try.cells24] at hc
  match cs, hc with
  | [c0, c1], _ =>
    match xs, hlen with
    | [y0, y1], _ =>
      have g0 : DataW.trod enc Try.prog W 0 (fun _ => true) true n 3 (([c0, c1].drop 0).take (Try.prog.cellsOf 3)) = [y0, y1][0]? := hg 0 _ rfl
      have g1 : DataW.trod enc Try.prog W 0 (fun _ => true) true n 3 (([c0, c1].drop 1).take (Try.prog.cellsOf 3)) = [y0, y1][1]? := hg 1 _ rfl
      rw [Try.cells3] at g0 g1
      obtain ⟨a, h1, _, h3⟩ := DataW.trod_int Try.underlying3 g0
      obtain ⟨b, h4, _, h6⟩ := DataW.trod_int Try.underlying3 g1
      simp at h1 h4
      exact ⟨a, b, by rw [h1, h4], i64_of h3, i64_of h6⟩
/-- a stone that is handed in -/
theorem stone_open {v : Value} {d : DataW H} {p : List MemPlace} (hv : Value.okWide Try.prog W .any base 26 v) (h : DataW.Trod enc Try.prog W 0 (fun _ => true) true 26 v d p) :
    ∃ (s : SV) (q : Option Addr) (c : Nat), v = stv s (.slice q s.l.length c) ∧ (s.nm.size ≤ maxLen ∧ s.l.length ≤ maxLen) ∧ (s.l.length ≤ 1000000 → Pts W (.slice q s.l.length c) s.l) ∧ (∀ i, i < s.l.length → I64 (px s.l i) ∧ I64 (pz s.l i)) ∧ (I64 s.dp ∧ I64 s.dn ∧ I64 s.gx ∧ I64 s.gz) := by
  obtain ⟨cs, rfl, hsz⟩ := okWide_struct Try.underlying26 hv
  obtain ⟨l⟩ := cs
  rw [Try.cells26] at hsz
  match l, hsz with
  | [c0, c1, c2, c3, c4, c5], _ =>
    obtain ⟨fuel, hf⟩ := h
    obtain ⟨xs, n, _, hx, _, hlen, hg⟩ := DataW.trod_struct Try.underlying26 hf
    match xs, hlen with
    | [y0, y1, y2, y3, y4], _ =>
      have g0 : DataW.trod enc Try.prog W 0 (fun _ => true) true n 9 (([c0, c1, c2, c3, c4, c5].drop 0).take (Try.prog.cellsOf 9)) = [y0, y1, y2, y3, y4][0]? := hg 0 _ rfl
      have g1 : DataW.trod enc Try.prog W 0 (fun _ => true) true n 22 (([c0, c1, c2, c3, c4, c5].drop 1).take (Try.prog.cellsOf 22)) = [y0, y1, y2, y3, y4][1]? := hg 1 _ rfl
      have g2 : DataW.trod enc Try.prog W 0 (fun _ => true) true n 3 (([c0, c1, c2, c3, c4, c5].drop 2).take (Try.prog.cellsOf 3)) = [y0, y1, y2, y3, y4][2]? := hg 2 _ rfl
      have g3 : DataW.trod enc Try.prog W 0 (fun _ => true) true n 3 (([c0, c1, c2, c3, c4, c5].drop 3).take (Try.prog.cellsOf 3)) = [y0, y1, y2, y3, y4][3]? := hg 3 _ rfl
      have g4 : DataW.trod enc Try.prog W 0 (fun _ => true) true n 24 (([c0, c1, c2, c3, c4, c5].drop 4).take (Try.prog.cellsOf 24)) = [y0, y1, y2, y3, y4][4]? := hg 4 _ rfl
      rw [Try.cells9] at g0
      rw [Try.cells22] at g1
      rw [Try.cells3] at g2 g3
      rw [Try.cells24] at g4
      obtain ⟨nm, h1, _, h3⟩ := DataW.trod_string Try.underlying9 g0
      obtain ⟨q, c, ll, h4, h45, h5, h6⟩ := pts_open g1
      obtain ⟨dp, h7, _, h8⟩ := DataW.trod_int Try.underlying3 g2
      obtain ⟨dn, h9, _, h10⟩ := DataW.trod_int Try.underlying3 g3
      obtain ⟨gx, gz, h11, h12, h13⟩ := point_open g4
      simp  at h1 h4 h7 h9 h11
      obtain ⟨h11, h14⟩ := h11
      subst h1 h4 h7 h9 h11 h14
      exact ⟨⟨nm, ll, dp, dn, gx, gz⟩, q, c, rfl, ⟨h3, h45⟩, h5, h6, i64_of h8, i64_of h10, h12, h13⟩
end
end Go.Proofs.Ytljmhejljpfaiaa
