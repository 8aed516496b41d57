/-
  For any three integers as they are handed in (of at most 12 words each) quotient and rest make the number again, the rest is not negative and below the divisor's absolute value, and the greatest common divisor divides both and does not change by multiples: WholeDivides, for every input, without a condition.
-/
import Derived.Test.YtaflmokphgjhnaaRows
import Derived.Test.YtaflmokphgjhnaaCo
import Derived.Test.YtaflmokphgjhnaaBi
namespace Go.Proofs.Ytaflmokphgjhnaa
open Go.ChangeShapes Go.WideShapes Go.ChangeAt Go.RowKit Go.Joins

set_option maxRecDepth 100000 in
theorem wholeDivides_lifted (os : Os) (started : os.Started) (H : Type) (enc : TypeId × Value → H) :
    ReturnsInHanded {} Try.checked os 7 .any (Rows.wholeDividesSpec.pre6 enc Try.prog Try.f7 Rows.wholeDividesRow.domain false) (Rows.wholeDividesSpec.post enc Try.prog Try.f7 false true false false) := by
  refine returnsInHanded_of_change (C := Try.checked) Try.own started (by kernel_rfl) Try.func7
    (ChangeSpec.witness6 (enc := enc) (C := Try.checked) false ⟨#[], #[.agg #[.int .i64 0, .int .i64 0, .int .i64 0, .int .u8 0], .agg #[.int .i64 0, .int .i64 0, .int .i64 0, .int .u8 0], .agg #[.int .i64 0, .int .i64 0, .int .i64 0, .int .u8 0]], []⟩ 8 (by kernel_rfl) (by kernel_rfl) (by kernel_rfl) (by kernel_rfl)) ?_
  intro W base args ds gs before hval0 hW hcnd _
  have hval : ∀ (j : Nat) t v, Try.f7.params[j]? = some t → args[j]? = some v → Value.okWide Try.prog W .any base t v := hval0
  have hW' := hW
  obtain ⟨p, q, hA0, hV, rfl, hfz, hnd⟩ := hW
  have hA : DataW.TrodAll enc Try.prog W 0 (fun _ => true) true Try.f7.params.toList args.toList ds p := hA0
  rw [Try.params7] at hA hval
  obtain ⟨v0, v1, v2, d0, d1, d2, p0, p1, p2, rfl, rfl, rfl, h0, h1, h2⟩ := trodAll_three hA
  obtain ⟨rfl, rfl⟩ := trodVars_none hV
  obtain ⟨A1, B1, C1, Q1, rfl, rfl, rfl, w1⟩ := bigD_open (hval 0 23 v0 rfl rfl) h0
  obtain ⟨A2, B2, C2, Q2, rfl, rfl, rfl, w2⟩ := bigD_open (hval 1 23 v1 rfl rfl) h1
  obtain ⟨A3, B3, C3, Q3, rfl, rfl, rfl, w3⟩ := bigD_open (hval 2 23 v2 rfl rfl) h2
  clear hA0 hval0
  simp only [List.append_nil] at hW'
  refine (divides_any A1 B1 C1 Q1 A2 B2 C2 Q2 A3 B3 C3 Q3 W (i64_of w1.1) (i64_of w1.2.1) (i64_of w1.2.2.1) (u8_of w1.2.2.2) (i64_of w2.1) (i64_of w2.2.1) (i64_of w2.2.2.1) (u8_of w2.2.2.2) (i64_of w3.1) (i64_of w3.2.1) (i64_of w3.2.2.1) (u8_of w3.2.2.2)).mono fun e W' ⟨hb, he⟩ => ?_
  subst he
  exact ⟨_, rfl, post_kept (pa := []) (pv := []) hW' hb rfl (fun _ _ _ => trodAll_mk1 (shut_bool Try.underlying4 _)) (fun sp => trodAll_mk3 (bigD_shut w1) (bigD_shut w2) (bigD_shut w3)) (fun _ => rfl) (ok_one (by kernel_rfl) rfl (okWide_bool_mk Try.underlying4 _))⟩
theorem wholeDivides_holds : Rows.WholeDividesSaid :=
  OpenClaim.holds_of_wide 7 Try.f7 rfl rfl rfl rfl rfl rfl rfl ⟨rfl, rfl, rfl, rfl, rfl⟩ rfl rfl rfl rfl rfl (by kernel_rfl) Try.func7 (by kernel_rfl)
    (of_decide_eq_true (by kernel_rfl)) (by unfold Func.isWrapper; first | (rw [if_pos (by decide +kernel)]; kernel_rfl) | (rw [if_neg (by decide +kernel)]; exact ⟨rfl, rfl⟩))
    (fun os started H enc _ => wholeDivides_lifted os started H enc)
#print axioms wholeDivides_holds
end Go.Proofs.Ytaflmokphgjhnaa
