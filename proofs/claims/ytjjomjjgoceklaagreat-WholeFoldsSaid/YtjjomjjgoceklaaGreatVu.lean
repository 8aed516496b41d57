/-
  For any row of ratios as it is handed in, Sum, Min and Max of at most 30 of them are those of the reference, so that the law answers true: WholeFolds, for every input, without a condition.
-/
import Derived.Test.YtjjomjjgoceklaaGreatRows
import Derived.Test.YtjjomjjgoceklaaGreatVa
import Derived.Test.YtjjomjjgoceklaaGreatVt
import Derived.ProofKit
import Derived.ChangeSame
import Derived.JoinedOf
import Derived.JoinedAt
import Derived.RowKit3
import Derived.Lib.SmallJoins
import Derived.Carry
import Derived.Deep.SlicePairs
namespace Go.Proofs.YtjjomjjgoceklaaGreat
set_option maxRecDepth 100000
open Go.ChangeShapes Go.WideShapes Go.ChangeAt Go.RowKit Go.Joins Go.Deep

theorem Tryz.und77 : Tryz.prog.underlying 77 = some (.slice 65) := by kernel_rfl
theorem Tryz.laidIn : laidOutB Tryz.prog = true := by kernel_rfl
theorem Tryz.cells2 : Tryz.prog.cellsOf 2 = 1 := by kernel_rfl
theorem cell_lt {w : World} {b off : Nat} {v : Value} (h : w.cell? ⟨b, off, none⟩ = some v) : b < w.heap.size := by
  rcases Nat.lt_or_ge b w.heap.size with h1 | h1
  · exact h1
  · simp [World.cell?, Array.getElem?_eq_none h1] at h
theorem nums_open {H : Type} {enc : TypeId × Value → H} {W : World} {base : Nat} {v : Value} {d : DataW H} {p : List MemPlace} (hv : Value.okWide Tryz.prog W .any base 77 v) (h : DataW.Trod enc Tryz.prog W 0 (fun _ => true) true 77 v d p) :
    ∃ (a : Option Addr) (n cp : Nat) (Nn Dn : Nat → Int), v = .slice a n cp ∧ NumS W a n Nn Dn ∧ ∀ i, i < n → I64 (Nn i) ∧ I64 (Dn i) := by
  obtain ⟨a, n, cp, rfl⟩ := okWide_slice Tryz.und77 hv
  obtain ⟨fuel, hf⟩ := h
  have hf : DataW.trod enc Tryz.prog W 0 (fun _ => true) true fuel 77 [.slice a n cp] = some (d, p) := hf
  rcases open_slice_pairs Tryz.und77 Tryz.underlying65 Tryz.cells65 rfl rfl Tryz.cells2 Tryz.cells2 hf with ⟨hc, hx⟩ | ⟨a', len, cap, m, k, V0, V1, D0, D1, P0, P1, hc, _, hl, hm, hmm, hx, hall⟩
  · simp only [List.cons.injEq, and_true, Value.slice.injEq] at hc
    obtain ⟨rfl, rfl, rfl⟩ := hc
    exact ⟨none, 0, 0, fun _ => 0, fun _ => 0, rfl, fun i hi => absurd hi (by omega), fun i hi => absurd hi (by omega)⟩
  · simp only [List.cons.injEq, and_true, Value.slice.injEq] at hc
    obtain ⟨rfl, rfl, rfl⟩ := hc
    simp only [if_true] at hmm
    subst hmm
    have h0 : ∀ i, ∃ Ni : Int, i < n → V0 i = .int .i64 Ni ∧ I64 Ni := fun i => by
      by_cases hi : i < n
      · obtain ⟨Ni, h1, _, h3⟩ := DataW.trod_int Tryz.underlying2 (hall i (by omega)).2.2.1
        simp only [List.cons.injEq, and_true] at h1
        exact ⟨Ni, fun _ => ⟨h1, i64_of h3⟩⟩
      · exact ⟨0, fun h => absurd h hi⟩
    have h1 : ∀ i, ∃ Ni : Int, i < n → V1 i = .int .i64 Ni ∧ I64 Ni := fun i => by
      by_cases hi : i < n
      · obtain ⟨Ni, h1, _, h3⟩ := DataW.trod_int Tryz.underlying2 (hall i (by omega)).2.2.2
        simp only [List.cons.injEq, and_true] at h1
        exact ⟨Ni, fun _ => ⟨h1, i64_of h3⟩⟩
      · exact ⟨0, fun h => absurd h hi⟩
    obtain ⟨Nn, hN⟩ := Classical.axiomOfChoice h0
    obtain ⟨Dn, hD⟩ := Classical.axiomOfChoice h1
    refine ⟨some a', n, _, Nn, Dn, rfl, fun i hi => ?_, fun i hi => ⟨(hN i hi).2, (hD i hi).2⟩⟩
    obtain ⟨sb, so, spot⟩ := a'
    have hspot : spot = none := by simpa [Addr.add] using World.cell?_spot (hall 0 (by omega)).1
    subst hspot
    have c0 := (hall i (by omega)).1
    have c1 := (hall i (by omega)).2.1
    rw [(hN i hi).1] at c0
    rw [(hD i hi).1] at c1
    rw [Addr.add_lit] at c0 c1
    exact ⟨sb, so, rfl, cell_lt c0, c0, c1⟩
theorem folds_any (p : Option Addr) (n cp : Nat) (Nn Dn : Nat → Int) (w : World) (h : NumS w p n Nn Dn) (hI : ∀ i, i < n → I64 (Nn i) ∧ I64 (Dn i)) : Calls Tryz.prog 6 #[.slice p n cp] w (PB true w) := by
  by_cases hn : 30 < n
  · exact folds_big p n cp w hn
  · have hq : ∀ i, ∃ a : Rat, i < n → Bd9 1 a ∧ ∀ W, Calls Tryz.prog 38 #[.agg #[.int .i64 (Nn i), .int .i64 (Dn i)]] W (PBq a W) := fun i => by
      by_cases hi : i < n
      · obtain ⟨a, h1, h2⟩ := both_all (Nn i) (Dn i) (hI i hi).1 (hI i hi).2
        exact ⟨a, fun _ => ⟨h1, h2⟩⟩
      · exact ⟨0, fun h => absurd h hi⟩
    obtain ⟨l, hl⟩ := Classical.axiomOfChoice hq
    exact folds_small p n cp Nn Dn l w h hl (by omega)
theorem wholeFolds_lifted (os : Os) (started : os.Started) (H : Type) (enc : TypeId × Value → H) :
    ReturnsInHanded {} Tryz.checked os 6 .any (Rows.wholeFoldsSpec.pre6 enc Tryz.prog Tryz.f6 Rows.wholeFoldsRow.domain false) (Rows.wholeFoldsSpec.post enc Tryz.prog Tryz.f6 false true false false) := by
  refine returnsInHanded_of_change (C := Tryz.checked) Tryz.own started (by kernel_rfl) Tryz.func6
    (ChangeSpec.witness6 (enc := enc) (C := Tryz.checked) false ⟨#[], #[.slice none 0 0], []⟩ 8 (by kernel_rfl) (by kernel_rfl) (by kernel_rfl) (by kernel_rfl)) ?_
  intro W base args ds gs before hval0 hW hcnd _
  have hval : ∀ (j : Nat) t v, Tryz.f6.params[j]? = some t → args[j]? = some v → Value.okWide Tryz.prog W .any base t v := hval0
  have hW' := hW
  obtain ⟨p, q, hA0, hV, rfl, hfz, hnd⟩ := hW
  have hA : DataW.TrodAll enc Tryz.prog W 0 (fun _ => true) true Tryz.f6.params.toList args.toList ds p := hA0
  rw [Tryz.params6] at hA hval
  obtain ⟨v0, d0, rfl, rfl, h0⟩ := trodAll_one hA
  obtain ⟨rfl, rfl⟩ := trodVars_none hV
  obtain ⟨a, n, cp, Nn, Dn, rfl, hN, hI⟩ := nums_open (hval 0 77 v0 rfl rfl) h0
  have hlt : ∀ x ∈ p, x.block < W.heap.size := fun x hx => hW'.lt x (List.mem_append_left _ hx)
  clear hA0 hval0
  refine (folds_any a n cp Nn Dn W hN hI).mono fun e W' ⟨hb, he⟩ => ?_
  subst he
  exact ⟨_, rfl, [d0], [], p ++ [], [], p, [], hW', trodAll_mk1 (shut_bool Tryz.underlying4 _),
    trodAll_mk1 (Below.trod Tryz.laidIn (by kernel_rfl) (of_decide_eq_true (by kernel_rfl)) h0 hb hlt), hV, World.keptBut_mono (fun p hp => ⟨hp, Or.inr (by simpa using hp)⟩) (hb.frame (· ∈ p ++ [])), fun h => by cases h⟩
theorem wholeFolds_holds : Rows.WholeFoldsSaid :=
  OpenClaim.holds_of_wide 6 Tryz.f6 rfl rfl rfl rfl rfl rfl rfl ⟨rfl, rfl, rfl, rfl, rfl⟩ rfl rfl rfl rfl rfl (by kernel_rfl) Tryz.func6 (by kernel_rfl)
    (of_decide_eq_true (by kernel_rfl)) (by unfold Func.isWrapper; first | (rw [if_pos (by decide +kernel)]; kernel_rfl) | (rw [if_neg (by decide +kernel)]; exact ⟨rfl, rfl⟩))
    (fun os started H enc _ => wholeFolds_lifted os started H enc)
#print axioms wholeFolds_holds
end Go.Proofs.YtjjomjjgoceklaaGreat
