/-
  For any two pairs of ratios and any ratio as they are handed in, sum, difference, multiple, Dot, Cross, sameness and text of the pairs are those of the reference, so that the law answers true: WholePairs, for every input, without a condition.
-/
import Derived.Test.YtjjomjjgoceklaaGreatRows
import Derived.Test.YtjjomjjgoceklaaGreatUa
import Derived.Test.YtjjomjjgoceklaaGreatUq
import Derived.ProofKit
import Derived.ChangeSame
import Derived.JoinedOf
import Derived.JoinedAt
import Derived.RowKit3
import Derived.Lib.SmallJoins
namespace Go.Proofs.YtjjomjjgoceklaaGreat
set_option maxRecDepth 100000
open Go.ChangeShapes Go.WideShapes Go.ChangeAt Go.RowKit Go.Joins

theorem wholePairs_lifted (os : Os) (started : os.Started) (H : Type) (enc : TypeId × Value → H) :
    ReturnsInHanded {} Tryz.checked os 7 .any (Rows.wholePairsSpec.pre6 enc Tryz.prog Tryz.f7 Rows.wholePairsRow.domain false) (Rows.wholePairsSpec.post enc Tryz.prog Tryz.f7 false true false false) := by
  refine returnsInHanded_of_change (C := Tryz.checked) Tryz.own started (by kernel_rfl) Tryz.func7
    (ChangeSpec.witness6 (enc := enc) (C := Tryz.checked) false ⟨#[], #[.agg #[.int .i64 0, .int .i64 0], .agg #[.int .i64 0, .int .i64 0], .agg #[.int .i64 0, .int .i64 0], .agg #[.int .i64 0, .int .i64 0], .agg #[.int .i64 0, .int .i64 0]], []⟩ 8 (by kernel_rfl) (by kernel_rfl) (by kernel_rfl) (by kernel_rfl)) ?_
  intro W base args ds gs before hval0 hW hcnd _
  have hval : ∀ (j : Nat) t v, Tryz.f7.params[j]? = some t → args[j]? = some v → Value.okWide Tryz.prog W .any base t v := hval0
  have hW' := hW
  obtain ⟨p, q, hA0, hV, rfl, hfz, hnd⟩ := hW
  have hA : DataW.TrodAll enc Tryz.prog W 0 (fun _ => true) true Tryz.f7.params.toList args.toList ds p := hA0
  rw [Tryz.params7] at hA hval
  obtain ⟨v0, v1, v2, v3, v4, d0, d1, d2, d3, d4, p0, p1, p2, p3, p4, rfl, rfl, rfl, h0, h1, h2, h3, h4⟩ := trodAll_five' hA
  obtain ⟨rfl, rfl⟩ := trodVars_none hV
  obtain ⟨N1, D1, rfl, rfl, rfl, w1⟩ := numD_open (hval 0 65 v0 rfl rfl) h0
  obtain ⟨N2, D2, rfl, rfl, rfl, w2⟩ := numD_open (hval 1 65 v1 rfl rfl) h1
  obtain ⟨N3, D3, rfl, rfl, rfl, w3⟩ := numD_open (hval 2 65 v2 rfl rfl) h2
  obtain ⟨N4, D4, rfl, rfl, rfl, w4⟩ := numD_open (hval 3 65 v3 rfl rfl) h3
  obtain ⟨N5, D5, rfl, rfl, rfl, w5⟩ := numD_open (hval 4 65 v4 rfl rfl) h4
  clear hA0 hval0
  simp only [List.append_nil] at hW'
  refine (pairs_any N1 D1 N2 D2 N3 D3 N4 D4 N5 D5 W (i64_of w1.1) (i64_of w1.2) (i64_of w2.1) (i64_of w2.2) (i64_of w3.1) (i64_of w3.2) (i64_of w4.1) (i64_of w4.2) (i64_of w5.1) (i64_of w5.2)).mono fun e W' ⟨hb, he⟩ => ?_
  subst he
  exact ⟨_, rfl, post_kept (pa := []) (pv := []) hW' hb rfl (fun _ _ _ => trodAll_mk1 (shut_bool Tryz.underlying4 _)) (fun sp => trodAll_mk5' (numD_shut w1) (numD_shut w2) (numD_shut w3) (numD_shut w4) (numD_shut w5)) (fun _ => rfl) (ok_one (by kernel_rfl) rfl (okWide_bool_mk Tryz.underlying4 _))⟩
theorem wholePairs_holds : Rows.WholePairsSaid :=
  OpenClaim.holds_of_wide 7 Tryz.f7 rfl rfl rfl rfl rfl rfl rfl ⟨rfl, rfl, rfl, rfl, rfl⟩ rfl rfl rfl rfl rfl (by kernel_rfl) Tryz.func7 (by kernel_rfl)
    (of_decide_eq_true (by kernel_rfl)) (by unfold Func.isWrapper; first | (rw [if_pos (by decide +kernel)]; kernel_rfl) | (rw [if_neg (by decide +kernel)]; exact ⟨rfl, rfl⟩))
    (fun os started H enc _ => wholePairs_lifted os started H enc)
#print axioms wholePairs_holds
end Go.Proofs.YtjjomjjgoceklaaGreat
