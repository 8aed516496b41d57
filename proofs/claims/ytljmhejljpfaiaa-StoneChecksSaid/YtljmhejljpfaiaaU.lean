import Derived.Test.YtljmhejljpfaiaaT
import Derived.Test.YtljmhejljpfaiaaK
import Derived.Lib.QuietBelow
import Derived.Deep.QuietTactic
import Derived.BigQuiet
namespace Go.Proofs.Ytljmhejljpfaiaa
set_option maxRecDepth 100000
open Go.RowKit

/-! the doubled area, and the weight -/
/-- the doubled area -/
def tw (l : List Pt) : Int := sm (crs l) (List.finRange l.length)
theorem tw_bd {l : List Pt} (h : Bx l) (hl : l.length ≤ 1000) : -8000000000 ≤ tw l ∧ tw l ≤ 8000000000 := by
  have := sm_bd (crs l) 8000000 h.crs (List.finRange l.length) 1000 (by rw [List.length_finRange]; exact hl) (by omega)
  unfold tw; omega
theorem field90 (x y z : Value) (W : World) : (Instr.field 90 (.agg #[x, y, z]) 0).run Try.prog W = .ok x W := by kernel_rfl
set_option maxHeartbeats 1000000 in
theorem twice_any (b o c : Nat) (l : List Pt) (w : World) (hr : Row w b o l) (h3 : 0 < l.length) (h12 : l.length ≤ 1000) (hs : Bx l) :
    Calls Try.prog 56 #[.slice (some ⟨b, o, none⟩) l.length c] w fun e w' => e = .returned (.int .i64 (tw l)) ∧ Below w.heap.size w w' := by
  have HM := Lib.hid (moments_any b o c l w hr h3 h12 hs)
  have HF := field90 (.int .i64 (sm (crs l) (List.finRange l.length))) (.int .i64 (sm (mox l) (List.finRange l.length))) (.int .i64 (sm (moz l) (List.finRange l.length)))
  clear hr hs
  go_enter Try.func56, Try.ntmps56
  go_wp2_with fail
  refine HM.out.mono ?_
  rintro e w1 ⟨rfl, hb⟩
  go_wp2
  go_ret
  exact ⟨rfl, hb⟩
set_option maxHeartbeats 2000000 in
theorem weight_any (nm : ByteArray) (b o c : Nat) (l : List Pt) (dp dn gx gz : Int) (w : World) (hr : Row w b o l) (h3 : 0 < l.length) (h12 : l.length ≤ 1000) (hs : Bx l) (hb : Bd dp dn gx gz) :
    Calls Try.prog 57 #[.agg #[.string nm, .slice (some ⟨b, o, none⟩) l.length c, .int .i64 dp, .int .i64 dn, .int .i64 gx, .int .i64 gz]] w fun e w' => e = .returned (.int .i64 (tw l * dp * dn)) ∧ Below w.heap.size w w' := by
  have hB0 := bl1 w (.cells #[.string nm, .slice (some ⟨b, o, none⟩) l.length c, .int .i64 dp, .int .i64 dn, .int .i64 gx, .int .i64 gz] 34)
  have hS := StB.new w nm (.slice (some ⟨b, o, none⟩) l.length c) dp dn gx gz 34
  have ht := tw_bd hs h12
  have hdp : 1 ≤ dp ∧ dp ≤ 2000 := hb.1
  have hdn : 1 ≤ dn ∧ dn ≤ 10000 := hb.2.1
  have ht2 := mul_bd (A := 2000) (B := 8000000000) (a := dp) (b := tw l) (by omega) ht (by omega)
  have ht3 := mul_bd (A := 10000) (B := 16000000000000) (a := dn) (b := dp * tw l) (by omega) (by omega) (by omega)
  rw [Int.mul_comm dp] at ht2 ht3
  rw [Int.mul_comm dn] at ht3
  have e1 := IntWalk.i64_in (tw l * dp) (by omega)
  have e2 := IntWalk.i64_in (tw l * dp * dn) (by omega)
  have HT : Hid (∀ (d : Nat) (os : Array Obj), Calls Try.prog 56 #[.slice (some ⟨b, o, none⟩) l.length c] (Sort.grow (redrawn (w.alloc (.cells #[.string nm, .slice (some ⟨b, o, none⟩) l.length c, .int .i64 dp, .int .i64 dn, .int .i64 gx, .int .i64 gz] 34)) d) os) fun e w'' => e = .returned (.int .i64 (tw l)) ∧ ∃ p : Regrown, w'' = Sort.grow (redrawn (w.alloc (.cells #[.string nm, .slice (some ⟨b, o, none⟩) l.length c, .int .i64 dp, .int .i64 dn, .int .i64 gx, .int .i64 gz] 34)) p.d) p.os) := fun d os =>
    Calls.regrown_of (twice_any b o c l _ ((hr.keep hB0).keep (below_regrown _ d os)) h3 h12 hs)
  have c1 := cell_regrown hS.c1
  have c2 := cell_regrown hS.c2
  have c3 := cell_regrown hS.c3
  generalize tw l = t at *
  clear hr hs hb ht ht2 ht3 hdp hdn hS h3 h12
  go_enter Try.func57, Try.ntmps57
  go_wp2_with fail
  refine wp_region_quiet_below (by kernel_rfl) (by kernel_rfl) ?_
  repeat (any_goals (first | go_big_quiet_step (exact HT.out _ _) | quiet_step (exact HT.out _ _)))
  refine wpQuiet_nil ?_
  intro _ hw'
  obtain ⟨⟨dq, osq⟩, hw''⟩ := hw'
  subst hw''
  have hBq := Below.thru hB0 hB0.size (below_regrown _ dq osq)
  generalize Sort.grow (redrawn _ dq) osq = w1 at *
  go_wp2
  go_ret
  exact ⟨rfl, hBq⟩
end Go.Proofs.Ytljmhejljpfaiaa
