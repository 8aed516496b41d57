/-
  For any two integers and any two words as they are handed in, the ratios made of them, their parts and their floors are those of the reference, or the error, so that the law answers true: WholeRatios, for every input, without a condition.
-/
import Derived.Test.YtjjomjjgoceklaaGreatRows
import Derived.Test.YtjjomjjgoceklaaGreatTa
import Derived.Test.YtjjomjjgoceklaaGreatTo
import Derived.ProofKit
import Derived.ChangeSame
import Derived.JoinedOf
import Derived.JoinedAt
import Derived.RowKit3
import Derived.Lib.SmallJoins
import Derived.Carry
namespace Go.Proofs.YtjjomjjgoceklaaGreat
set_option maxRecDepth 100000
open Go.ChangeShapes Go.WideShapes Go.ChangeAt Go.RowKit Go.Joins

theorem wholeRatios_lifted (os : Os) (started : os.Started) (H : Type) (enc : TypeId × Value → H) :
    ReturnsInHanded {} Tryz.checked os 4 .any (Rows.wholeRatiosSpec.pre6 enc Tryz.prog Tryz.f4 Rows.wholeRatiosRow.domain false) (Rows.wholeRatiosSpec.post enc Tryz.prog Tryz.f4 false true false false) := by
  refine returnsInHanded_of_change (C := Tryz.checked) Tryz.own started (by kernel_rfl) Tryz.func4
    (ChangeSpec.witness6 (enc := enc) (C := Tryz.checked) false ⟨#[], #[.agg #[.int .i64 0, .int .i64 0, .int .i64 0, .int .u8 0], .agg #[.int .i64 0, .int .i64 0, .int .i64 0, .int .u8 0], .int .i64 0, .int .i64 0], []⟩ 8 (by kernel_rfl) (by kernel_rfl) (by kernel_rfl) (by kernel_rfl)) ?_
  intro W base args ds gs before hval0 hW hcnd _
  have hval : ∀ (j : Nat) t v, Tryz.f4.params[j]? = some t → args[j]? = some v → Value.okWide Tryz.prog W .any base t v := hval0
  have hW' := hW
  obtain ⟨p, q, hA0, hV, rfl, hfz, hnd⟩ := hW
  have hA : DataW.TrodAll enc Tryz.prog W 0 (fun _ => true) true Tryz.f4.params.toList args.toList ds p := hA0
  rw [Tryz.params4] at hA hval
  obtain ⟨v0, v1, v2, v3, d0, d1, d2, d3, p0, p1, p2, p3, rfl, rfl, rfl, h0, h1, h2, h3⟩ := trodAll_four hA
  obtain ⟨rfl, rfl⟩ := trodVars_none hV
  obtain ⟨A1, B1, C1, Q1, rfl, rfl, rfl, w1⟩ := bigD_open (hval 0 50 v0 rfl rfl) h0
  obtain ⟨A2, B2, C2, Q2, rfl, rfl, rfl, w2⟩ := bigD_open (hval 1 50 v1 rfl rfl) h1
  obtain ⟨n3, rfl, rfl, rfl, w3⟩ := open_int Tryz.underlying2 (hval 2 2 v2 rfl rfl) h2
  obtain ⟨n4, rfl, rfl, rfl, w4⟩ := open_int Tryz.underlying2 (hval 3 2 v3 rfl rfl) h3
  clear hA0 hval0
  simp only [List.append_nil] at hW'
  refine (ratios_any A1 B1 C1 Q1 A2 B2 C2 Q2 n3 n4 W (i64_of w1.1) (i64_of w1.2.1) (i64_of w1.2.2.1) (u8_of w1.2.2.2) (i64_of w2.1) (i64_of w2.2.1) (i64_of w2.2.2.1) (u8_of w2.2.2.2) (i64_of w3) (i64_of w4)).mono fun e W' ⟨hb, he⟩ => ?_
  subst he
  exact ⟨_, rfl, post_kept (pa := []) (pv := []) hW' hb rfl (fun _ _ _ => trodAll_mk1 (shut_bool Tryz.underlying4 _)) (fun sp => trodAll_mk4 (bigD_shut w1) (bigD_shut w2) (shut_int Tryz.underlying2 w3) (shut_int Tryz.underlying2 w4)) (fun _ => rfl) (ok_one (by kernel_rfl) rfl (okWide_bool_mk Tryz.underlying4 _))⟩
theorem wholeRatios_holds : Rows.WholeRatiosSaid :=
  OpenClaim.holds_of_wide 4 Tryz.f4 rfl rfl rfl rfl rfl rfl rfl ⟨rfl, rfl, rfl, rfl, rfl⟩ rfl rfl rfl rfl rfl (by kernel_rfl) Tryz.func4 (by kernel_rfl)
    (of_decide_eq_true (by kernel_rfl)) (by unfold Func.isWrapper; first | (rw [if_pos (by decide +kernel)]; kernel_rfl) | (rw [if_neg (by decide +kernel)]; exact ⟨rfl, rfl⟩))
    (fun os started H enc _ => wholeRatios_lifted os started H enc)
#print axioms wholeRatios_holds
end Go.Proofs.YtjjomjjgoceklaaGreat
