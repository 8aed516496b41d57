import Derived.Test.YtljmhejljpfaiaaFe
import Derived.Lib.QuietBelow
import Derived.Deep.QuietTactic
import Derived.BigQuiet
namespace Go.Proofs.Ytljmhejljpfaiaa
set_option maxRecDepth 100000
open Go.RowKit Go.Shelf

/-! the reference's Twice and Weight -/
/-- sums over the first k -/
def rsm (f : Nat → Int) : Nat → Int
  | 0 => 0
  | k + 1 => rsm f k + f k
theorem rsm_range (f : Nat → Int) : ∀ k, (List.range k).foldl (fun s i => s + f i) 0 = rsm f k
  | 0 => rfl
  | k + 1 => by rw [List.range_succ, List.foldl_append, rsm_range f k]; rfl
theorem sm_rsm {n : Nat} (f : Nat → Int) : sm (fun i : Fin n => f i.1) (List.finRange n) = rsm f n := by
  have h : (List.range n) = (List.finRange n).map (·.1) := by
    refine List.ext_getElem (by simp) fun i h1 h2 => ?_
    simp
  rw [← rsm_range, h, List.foldl_map]
  rfl
theorem crR_bd {l : List Pt} (h : Bx l) {k : Nat} (hk : k < l.length) : -8000000 ≤ crR l k ∧ crR l k ≤ 8000000 := h.crs ⟨k, hk⟩
theorem tw_rsm (l : List Pt) : tw l = rsm (crR l) l.length := sm_rsm (crR l)
theorem rsm_bd (f : Nat → Int) (M : Int) (n : Nat) (h : ∀ k, k < n → -M ≤ f k ∧ f k ≤ M) : ∀ k, k ≤ n → -(k * M) ≤ rsm f k ∧ rsm f k ≤ k * M
  | 0, _ => by simp [rsm]
  | k + 1, hk => by
    have ih := rsm_bd f M n h k (by omega)
    have := h k (by omega)
    have e : ((k + 1 : Nat) : Int) * M = k * M + M := by rw [Int.natCast_succ, Int.add_mul, Int.one_mul]
    rw [e]
    unfold rsm
    omega
set_option maxHeartbeats 4000000 in
theorem rtwice_any (b o c : Nat) (l : List Pt) (w : World) (hr : Row w b o l) (h3 : 0 < l.length) (h12 : l.length ≤ 1000) (hs : Bx l) :
    Calls Try.prog 26 #[.slice (some ⟨b, o, none⟩) l.length c] w fun e w' => e = .returned (.int .i64 (tw l)) ∧ Below w.heap.size w w' := by
  rw [tw_rsm]
  have HC := Lib.hid (fun W k (kk : Below w.heap.size w W) (hk : k < l.length) => rcross_any b o c k l W (hr.keep kk) hk h12 hs)
  have HBd := Lib.hid (rsm_bd (crR l) 8000000 l.length (fun k hk => crR_bd hs hk))
  have HCB := Lib.hid (fun k (hk : k < l.length) => crR_bd hs hk)
  have HSU : Hid (∀ k, rsm (crR l) (k + 1) = rsm (crR l) k + crR l k) := fun _ => rfl
  have H0 : Hid (rsm (crR l) 0 = 0) := rfl
  clear hr hs
  generalize l.length = n at *
  go_enter Try.func26, Try.ntmps26
  go_wp2
  go_loopw [4, 3] (fun i v wr => ∃ k : Nat, k ≤ n ∧ i = .int .i64 k ∧ v = .int .i64 (rsm (crR l) k) ∧ Hid (Below w.heap.size w wr)) (fun i _ _ => n - (intOf i).toNat)
  case atStart => exact ⟨0, Nat.zero_le _, rfl, by rw [H0.out], Below.refl _ _⟩
  case round =>
    obtain ⟨k, hk, rfl, rfl, HB⟩ := hrel
    by_cases hlt : k < n
    · have hbd := HBd.out k hk
      have hcb := HCB.out k hlt
      have HS := Lib.hid (HSU.out k)
      have HCK := Lib.hid (HC.out wr k HB.out hlt)
      generalize crR l k = ck at *
      generalize rsm (crR l) k = s at *
      have e1 := IntWalk.i64_in (s + ck) (by omega)
      clear hbd hcb
      go_wp2_with fail
      refine HCK.out.mono ?_
      rintro e w1 ⟨rfl, hb1⟩
      have K1 := Lib.hid (Below.thru HB.out HB.out.size hb1)
      clear hb1
      go_wp2
      go_roundw
      case rel => exact ⟨k + 1, by omega, by go_num, by rw [HS.out], K1.out⟩
      case measure => simp [intOf]; omega
    · obtain rfl : k = n := by omega
      have hB := HB.out
      go_wp2
      go_ret
      exact ⟨rfl, hB⟩
set_option maxHeartbeats 2000000 in
theorem rweight_any (nm : ByteArray) (b o c : Nat) (l : List Pt) (dp dn gx gz : Int) (w : World) (hr : Row w b o l) (h3 : 0 < l.length) (h12 : l.length ≤ 1000) (hs : Bx l) (hb : Bd dp dn gx gz) :
    Calls Try.prog 27 #[.agg #[.string nm, .slice (some ⟨b, o, none⟩) l.length c, .int .i64 dp, .int .i64 dn, .int .i64 gx, .int .i64 gz]] w fun e w' => e = .returned (.int .i64 (tw l * dp * dn)) ∧ Below w.heap.size w w' := by
  have hB0 := bl1 w (.cells #[.string nm, .slice (some ⟨b, o, none⟩) l.length c, .int .i64 dp, .int .i64 dn, .int .i64 gx, .int .i64 gz] 26)
  have hS := StB.new w nm (.slice (some ⟨b, o, none⟩) l.length c) dp dn gx gz 26
  have ht := tw_bd hs h12
  have hdp : 1 ≤ dp ∧ dp ≤ 2000 := hb.1
  have hdn : 1 ≤ dn ∧ dn ≤ 10000 := hb.2.1
  have ht2 := mul_bd (A := 2000) (B := 8000000000) (a := dp) (b := tw l) (by omega) ht (by omega)
  have ht3 := mul_bd (A := 10000) (B := 16000000000000) (a := dn) (b := dp * tw l) (by omega) (by omega) (by omega)
  rw [Int.mul_comm dp] at ht2 ht3
  rw [Int.mul_comm dn] at ht3
  have e1 := IntWalk.i64_in (tw l * dp) (by omega)
  have e2 := IntWalk.i64_in (tw l * dp * dn) (by omega)
  have HT : Hid (∀ (d : Nat) (os : Array Obj), Calls Try.prog 26 #[.slice (some ⟨b, o, none⟩) l.length c] (Sort.grow (redrawn (w.alloc (.cells #[.string nm, .slice (some ⟨b, o, none⟩) l.length c, .int .i64 dp, .int .i64 dn, .int .i64 gx, .int .i64 gz] 26)) d) os) fun e w'' => e = .returned (.int .i64 (tw l)) ∧ ∃ p : Regrown, w'' = Sort.grow (redrawn (w.alloc (.cells #[.string nm, .slice (some ⟨b, o, none⟩) l.length c, .int .i64 dp, .int .i64 dn, .int .i64 gx, .int .i64 gz] 26)) p.d) p.os) := fun d os =>
    Calls.regrown_of (rtwice_any b o c l _ ((hr.keep hB0).keep (below_regrown _ d os)) h3 h12 hs)
  have c1 := cell_regrown hS.c1
  have c2 := cell_regrown hS.c2
  have c3 := cell_regrown hS.c3
  generalize tw l = t at *
  clear hr hs hb ht ht2 ht3 hdp hdn hS h3 h12
  go_enter Try.func27, Try.ntmps27
  go_wp2_with fail
  refine wp_region_quiet_below (by kernel_rfl) (by kernel_rfl) ?_
  repeat (any_goals (first | go_big_quiet_step (exact HT.out _ _) | quiet_step (exact HT.out _ _)))
  refine wpQuiet_nil ?_
  intro _ hw'
  obtain ⟨⟨dq, osq⟩, hw''⟩ := hw'
  subst hw''
  have hBq := Below.thru hB0 hB0.size (below_regrown _ dq osq)
  generalize Sort.grow (redrawn _ dq) osq = w1 at *
  go_wp2
  go_ret
  exact ⟨rfl, hBq⟩
end Go.Proofs.Ytljmhejljpfaiaa
