import Derived.Test.YtjjomjjgoceklaaK
import Derived.IntWalk
namespace Go.Proofs.Ytjjomjjgoceklaa
open Go.RowKit

theorem Dg.small {w : World} {v : Value} {n : Nat} (h : Dg w v n) (hn : Wd n) : v = .agg #[.int .u64 (n : Int), .pointer none] := by
  rcases h with ⟨_, rfl⟩ | ⟨b, sv, ws, rfl, h2, h3, h4, h5, h6, h7⟩
  · rfl
  · have := val_ge ws h5 (by intro e; rw [e] at h6; simp at h6)
    have h8 : WB ^ 1 ≤ WB ^ (ws.length - 1) := Nat.pow_le_pow_right WB_pos (by omega)
    rw [Nat.pow_one] at h8
    unfold Wd at hn
    omega
theorem Dg.of_small (w : World) {n : Nat} (hn : Wd n) : Dg w (.agg #[.int .u64 (n : Int), .pointer none]) n := .inl ⟨hn, rfl⟩

set_option maxHeartbeats 800000 in
theorem commonWord_any (a b : Nat) (ha : Wd a) (hb : Wd b) (w : World) : Calls Try.prog 86 #[.int .u64 (a : Int), .int .u64 (b : Int)] w fun e w' => Below w.heap.size w w' ∧ e = .returned (.int .u64 (Nat.gcd a b : Int)) := by
  go_enter Try.func86, Try.ntmps86
  go_wp2
  go_loopw [0, 1] (fun x y wr => ∃ m n : Nat, x = .int .u64 m ∧ y = .int .u64 n ∧ Wd m ∧ Wd n ∧ Below w.heap.size w wr ∧ Hid (Nat.gcd m n = Nat.gcd a b)) (fun _ y _ => (intOf y).toNat)
  case atStart => exact ⟨a, b, rfl, rfl, ha, hb, Below.refl _ _, rfl⟩
  case round =>
    obtain ⟨m, n, rfl, rfl, hm, hn, hbel, HG⟩ := hrel
    by_cases hz : n = 0
    · subst hz
      rw [show ((0 : Nat) : Int) = 0 from rfl]
      go_wp2
      go_ret
      have := HG.out
      rw [Nat.gcd_zero_right] at this
      exact ⟨hbel, by rw [← this]; rfl⟩
    · have h : ((n : Int) != 0) = true := by rw [bne_iff_ne]; omega
      have hp : (0 : Int) < (n : Int) := by omega
      have hm0 : (0 : Int) ≤ (m : Int) := by omega
      have hne : ¬ ((n : Int) = 0) := by omega
      go_wp2
      go_quiet (fail)
      go_wp2
      go_roundw
      case rel => exact ⟨n, m % n, rfl, by rw [Int.natCast_emod], hn, by unfold Wd at hm ⊢; exact Nat.lt_of_le_of_lt (Nat.mod_le _ _) hm, below_drewN hbel _, by show _ = _; rw [← HG.out, Nat.gcd_comm m n, Nat.gcd_rec n m, Nat.gcd_comm]⟩
      case measure =>
        have h1 : m % n < n := Nat.mod_lt _ (by omega)
        simp only [intOf]
        omega

/-! what division and the greatest common divisor do at two numbers -/
/-- the two results of over -/
def POv (a d : Nat) (w : World) (e : Ending) (w' : World) : Prop :=
  Below w.heap.size w w' ∧ ∃ q r, e = .returned (.tuple #[q, r]) ∧ Dg w' q (a / d) ∧ Dg w' r (a % d)
def OverC (a d : Nat) : Prop := ∀ (va vd : Value) (w : World), Dg w va a → Dg w vd d → Calls Try.prog 88 #[va, vd] w (POv a d w)
def CommonC (a b : Nat) : Prop := ∀ (va vb : Value) (w : World), Dg w va a → Dg w vb b → Calls Try.prog 60 #[va, vb] w (PDg (Nat.gcd a b) w)
theorem gcd_wd {a b : Nat} (ha : Wd a) (hb : Wd b) : Wd (Nat.gcd a b) := by
  unfold Wd at *
  by_cases h : a = 0
  · subst h; rw [Nat.gcd_zero_left]; exact hb
  · exact Nat.lt_of_le_of_lt (Nat.gcd_le_left b (by omega)) ha
theorem common_small (a b : Nat) (ha : Wd a) (hb : Wd b) : CommonC a b := by
  intro va vb w h1 h2
  obtain rfl := h1.small ha
  obtain rfl := h2.small hb
  clear h1 h2
  have hg := gcd_wd ha hb
  go_enter Try.func60, Try.ntmps60
  go_wp2_with (first | (go_at_call 47; refine (isSmall_small _ _).mono ?_; rintro e w1 ⟨rfl, rfl⟩))
  refine (commonWord_any a b ha hb _).mono ?_
  rintro e w1 ⟨hb1, rfl⟩
  have r1 : Rs (w.heap.size + 1 + 1) w1 := Rs.keep (((rs_new _ (by simp)).alloc _).alloc _) hb1 (by simp <;> omega)
  obtain ⟨p4, q4, m1, m2, m3, m4⟩ := r1.cells
  generalize Nat.gcd a b = g at *
  obtain ⟨n1, n2⟩ := two_cells m1 m2 (.int .u64 (g : Int)) (.pointer none)
  go_wp2
  exact bodyPost_ret (v := .agg #[.int .u64 (g : Int), .pointer none]) (by simp [results, Try.results60, go_sem, n1, n2]) rfl ⟨((Below.thru (Below.thru (bl3 _ _ _ _) (by simp; omega) (bl2 _ _ _)) (by simp; omega) hb1).setCell (by simp; omega) _).setCell (by simp; omega) _, _, rfl, Dg.of_small _ hg⟩

theorem over_small (a d : Nat) (ha : Wd a) (hd : Wd d) (hz : d ≠ 0) : OverC a d := by
  intro va vd w h1 h2
  obtain rfl := h1.small ha
  obtain rfl := h2.small hd
  clear h1 h2
  have hp : (0 : Int) < (d : Int) := by omega
  have ha0 : (0 : Int) ≤ (a : Int) := by omega
  have hne : ¬ ((d : Int) = 0) := by omega
  go_enter Try.func88, Try.ntmps88
  go_wp2_with (first | (go_at_call 47; refine (isSmall_small _ _).mono ?_; rintro e w1 ⟨rfl, rfl⟩))
  obtain ⟨q, hq⟩ : ∃ q : Nat, q = a / d := ⟨_, rfl⟩
  obtain ⟨r, hr⟩ : ∃ r : Nat, r = a % d := ⟨_, rfl⟩
  have wq : Wd q := by rw [hq]; unfold Wd at ha ⊢; exact Nat.lt_of_le_of_lt (Nat.div_le_self _ _) ha
  have wr : Wd r := by rw [hr]; unfold Wd at ha ⊢; exact Nat.lt_of_le_of_lt (Nat.mod_le _ _) ha
  have e1 : IntKind.u64.wrap ((a : Int) / (d : Int)) = (q : Int) := by
    rw [hq, ← Int.natCast_ediv]; rw [hq] at wq; unfold Wd WB at wq; rw [IntKind.wrap_u64]; omega
  have e2 : (a : Int) % (d : Int) = (r : Int) := by rw [hr, Int.natCast_emod]
  have HQ := Lib.hid hq; have HR := Lib.hid hr
  clear hq hr
  go_region
  go_wp2
  refine bodyPost_ret (v := .tuple #[.agg #[.int .u64 (q : Int), .pointer none], .agg #[.int .u64 (r : Int), .pointer none]]) (by simp [results, Try.results88, go_sem]) rfl ⟨?_, _, _, rfl, (Dg.of_small _ wq).cast HQ.out, (Dg.of_small _ wr).cast HR.out⟩
  exact Below.thru (bl3 _ _ _ _) (by simp; omega) (bl3 _ _ _ _).drew
end Go.Proofs.Ytjjomjjgoceklaa
