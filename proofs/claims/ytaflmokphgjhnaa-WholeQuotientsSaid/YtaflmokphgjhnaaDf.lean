/-
  For any two integers as they are handed in (of at most 12 words each), the greatest common divisor, the quotient and the rest of the program are the reference's, and a divisor of zero is refused, so that the law answers true: WholeQuotients, for every input, without a condition.
-/
import Derived.Test.YtaflmokphgjhnaaRows
import Derived.Test.YtaflmokphgjhnaaDe
import Derived.Test.YtaflmokphgjhnaaBi
namespace Go.Proofs.Ytaflmokphgjhnaa
open Go.ChangeShapes Go.WideShapes Go.ChangeAt Go.RowKit Go.Joins

set_option maxRecDepth 100000 in
theorem wholeQuotients_lifted (os : Os) (started : os.Started) (H : Type) (enc : TypeId × Value → H) :
    ReturnsInHanded {} Try.checked os 4 .any (Rows.wholeQuotientsSpec.pre6 enc Try.prog Try.f4 Rows.wholeQuotientsRow.domain false) (Rows.wholeQuotientsSpec.post enc Try.prog Try.f4 false true false false) := by
  refine returnsInHanded_of_change (C := Try.checked) Try.own started (by kernel_rfl) Try.func4
    (ChangeSpec.witness6 (enc := enc) (C := Try.checked) false ⟨#[], #[.agg #[.int .i64 0, .int .i64 0, .int .i64 0, .int .u8 0], .agg #[.int .i64 0, .int .i64 0, .int .i64 0, .int .u8 0]], []⟩ 8 (by kernel_rfl) (by kernel_rfl) (by kernel_rfl) (by kernel_rfl)) ?_
  intro W base args ds gs before hval0 hW hcnd _
  have hval : ∀ (j : Nat) t v, Try.f4.params[j]? = some t → args[j]? = some v → Value.okWide Try.prog W .any base t v := hval0
  have hW' := hW
  obtain ⟨p, q, hA0, hV, rfl, hfz, hnd⟩ := hW
  have hA : DataW.TrodAll enc Try.prog W 0 (fun _ => true) true Try.f4.params.toList args.toList ds p := hA0
  rw [Try.params4] at hA hval
  obtain ⟨v0, v1, d0, d1, p0, p1, rfl, rfl, rfl, h0, h1⟩ := trodAll_two hA
  obtain ⟨rfl, rfl⟩ := trodVars_none hV
  obtain ⟨A1, B1, C1, Q1, rfl, rfl, rfl, w1⟩ := bigD_open (hval 0 23 v0 rfl rfl) h0
  obtain ⟨A2, B2, C2, Q2, rfl, rfl, rfl, w2⟩ := bigD_open (hval 1 23 v1 rfl rfl) h1

  clear hA0 hval0
  simp only [List.append_nil] at hW'
  refine (quotients_any A1 B1 C1 Q1 A2 B2 C2 Q2 W (i64_of w1.1) (i64_of w1.2.1) (i64_of w1.2.2.1) (u8_of w1.2.2.2) (i64_of w2.1) (i64_of w2.2.1) (i64_of w2.2.2.1) (u8_of w2.2.2.2)).mono fun e W' ⟨hb, he⟩ => ?_
  subst he
  exact ⟨_, rfl, post_kept (pa := []) (pv := []) hW' hb rfl (fun _ _ _ => trodAll_mk1 (shut_bool Try.underlying4 _)) (fun sp => trodAll_mk2 (bigD_shut w1) (bigD_shut w2)) (fun _ => rfl) (ok_one (by kernel_rfl) rfl (okWide_bool_mk Try.underlying4 _))⟩
theorem wholeQuotients_holds : Rows.WholeQuotientsSaid :=
  OpenClaim.holds_of_wide 4 Try.f4 rfl rfl rfl rfl rfl rfl rfl ⟨rfl, rfl, rfl, rfl, rfl⟩ rfl rfl rfl rfl rfl (by kernel_rfl) Try.func4 (by kernel_rfl)
    (of_decide_eq_true (by kernel_rfl)) (by unfold Func.isWrapper; first | (rw [if_pos (by decide +kernel)]; kernel_rfl) | (rw [if_neg (by decide +kernel)]; exact ⟨rfl, rfl⟩))
    (fun os started H enc _ => wholeQuotients_lifted os started H enc)
#print axioms wholeQuotients_holds
end Go.Proofs.Ytaflmokphgjhnaa
