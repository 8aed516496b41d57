import Derived.Test.YtjjomjjgoceklaaGreatChecked
import Derived.Test.YtjjomjjgoceklaaGreatKab
import Derived.Shelf.Spec.BitsCarry
import Derived.WalkKit
import Derived.ProofKit
import Derived.OpenShut
import Derived.Deep.QuietTactic
import Derived.BigQuiet
import Derived.Lib.Hide
import Derived.Deep.RegionWith
import Derived.Deep.OwnRows
import Derived.Deep.LoopGhost
namespace Go.Proofs.YtjjomjjgoceklaaGreat
set_option maxRecDepth 100000
open Go.RowKit

/-- the size of a word; closed to the walk's own rules -/
def WB : Nat := 18446744073709551616
theorem WB_pos : 0 < WB := by unfold WB; omega
/-- n is a word -/
def Wd (n : Nat) : Prop := n < WB
theorem Wd.lt {n : Nat} (h : Wd n) : n < WB := h
theorem Wd.zero : Wd 0 := WB_pos

/-- math/bits.Add64 -/
theorem add64_run (x y c : Nat) (hc : c ≤ 1) (hx : Wd x) (hy : Wd y) : ∃ s k : Nat, Wd s ∧ k ≤ 1 ∧ Hid (s + WB * k = x + y + c) ∧ ∀ w : World,
    (callFunc 144 #[.int .u64 (x : Int), .int .u64 (y : Int), .int .u64 (c : Int)]).run Tryz.prog w = .ok (.value (.tuple #[.int .u64 (s : Int), .int .u64 (k : Int)])) w := by
  unfold Wd WB at *
  refine ⟨(x + y + c) % 18446744073709551616, (x + y + c) / 18446744073709551616, by omega, by omega, by show _ = _; omega, fun w => ?_⟩
  rw [run_callFunc_extern Tryz.func144 (by kernel_rfl) (by kernel_rfl) (by kernel_rfl) (e := add64Entry) (by kernel_rfl), run_add64 x y c (by omega) (by omega) (by omega) (by omega)]
  simp only [Result.andThen]
  congr 5 <;> omega
theorem add64_run0 (x y : Nat) (hx : Wd x) (hy : Wd y) : ∃ s k : Nat, Wd s ∧ k ≤ 1 ∧ Hid (s + WB * k = x + y) ∧ ∀ w : World,
    (callFunc 144 #[.int .u64 (x : Int), .int .u64 (y : Int), .int .u64 0]).run Tryz.prog w = .ok (.value (.tuple #[.int .u64 (s : Int), .int .u64 (k : Int)])) w :=
  add64_run x y 0 (by omega) hx hy
theorem sub64_run (x y b : Nat) (hb : b ≤ 1) (hx : Wd x) (hy : Wd y) : ∃ s k : Nat, Wd s ∧ k ≤ 1 ∧ Hid (x + WB * k = s + y + b) ∧ ∀ w : World,
    (callFunc 157 #[.int .u64 (x : Int), .int .u64 (y : Int), .int .u64 (b : Int)]).run Tryz.prog w = .ok (.value (.tuple #[.int .u64 (s : Int), .int .u64 (k : Int)])) w := by
  unfold Wd WB at *
  refine ⟨(x + 18446744073709551616 - y - b) % 18446744073709551616, if x < y + b then 1 else 0, by omega, by split <;> omega, by show _ = _; split <;> omega, fun w => ?_⟩
  rw [run_callFunc_extern Tryz.func157 (by kernel_rfl) (by kernel_rfl) (by kernel_rfl) (e := sub64Entry) (by kernel_rfl), run_sub64 x y b hb]
  rfl
theorem sub64_run0 (x y : Nat) (hx : Wd x) (hy : Wd y) : ∃ s k : Nat, Wd s ∧ k ≤ 1 ∧ Hid (x + WB * k = s + y) ∧ ∀ w : World,
    (callFunc 157 #[.int .u64 (x : Int), .int .u64 (y : Int), .int .u64 0]).run Tryz.prog w = .ok (.value (.tuple #[.int .u64 (s : Int), .int .u64 (k : Int)])) w :=
  sub64_run x y 0 (by omega) hx hy
/-- a sum that is a word -/
theorem wrap_add (h k : Nat) (hw : Wd (h + k)) : ∃ t : Nat, Wd t ∧ Hid (t = h + k) ∧ IntKind.u64.wrap ((h : Int) + (k : Int)) = (t : Int) :=
  ⟨h + k, hw, rfl, by unfold Wd WB at hw; rw [IntKind.wrap_u64]; omega⟩

theorem mul64_any (x y : Nat) (hx : Wd x) (hy : Wd y) (w : World) :
    Calls Tryz.prog 134 #[.int .u64 (x : Int), .int .u64 (y : Int)] w fun e w' => w = w' ∧ ∃ h l : Nat, e = .returned (.tuple #[.int .u64 (h : Int), .int .u64 (l : Int)]) ∧ Wd l ∧ Wd h ∧ Hid (WB * h + l = x * y) := by
  unfold Wd WB at *
  refine (Tryz.bits_Mul64 x y hx hy w).mono ?_
  rintro e w' ⟨rfl, rfl⟩
  refine ⟨rfl, _, _, rfl, Nat.mod_lt _ (by omega), ?_, ?_⟩
  · exact Nat.div_lt_of_lt_mul (Nat.mul_lt_mul'' hx hy)
  · exact Nat.div_add_mod _ _

/-- timesPlus: x m + c in two words. -/
theorem timesPlus_any (x m c : Nat) (hx : Wd x) (hm : Wd m) (hc : Wd c) (w : World) :
    Calls Tryz.prog 142 #[.int .u64 (x : Int), .int .u64 (m : Int), .int .u64 (c : Int)] w fun e w' =>
      w = w' ∧ ∃ h l : Nat, e = .returned (.tuple #[.int .u64 (h : Int), .int .u64 (l : Int)]) ∧ Wd l ∧ Wd h ∧ Hid (WB * h + l = x * m + c) := by
  go_enter Tryz.func142, Tryz.ntmps142
  go_wp2_with fail
  refine (mul64_any x m hx hm _).mono ?_
  rintro e w' ⟨rfl, h, l, rfl, hl, hh, H⟩
  obtain ⟨s, k, hs, hk, K, hrun⟩ := add64_run0 l c hl hc
  have hb : Wd (h + k) := by
    have H := H.out; have K := K.out
    have hx' : x * m ≤ (WB - 1) * (WB - 1) := Nat.mul_le_mul (by unfold Wd at hx; omega) (by unfold Wd at hm; omega)
    unfold Wd WB at *
    omega
  obtain ⟨t, ht, T, hw⟩ := wrap_add h k hb
  clear hk
  go_wp2
  refine bodyPost_ret (v := .tuple #[.int .u64 (t : Int), .int .u64 (s : Int)]) (by simp [results, Tryz.results142, go_sem]) rfl ⟨rfl, t, s, rfl, hs, ht, ?_⟩
  have H := H.out; have K := K.out; have T := T.out
  show _ = _
  rw [T, ← H, Nat.mul_add]; omega
end Go.Proofs.YtjjomjjgoceklaaGreat
namespace Go.Proofs.YtjjomjjgoceklaaGreat
set_option maxRecDepth 100000
open Go.RowKit

/-! plain: lists of words -/
def val : List Nat → Nat
  | [] => 0
  | x :: r => x + WB * val r
def norm : List Nat → List Nat
  | [] => []
  | x :: r => match norm r with
    | [] => if x = 0 then [] else [x]
    | y :: s => x :: y :: s
/-- no zero at the end -/
def Nrm (l : List Nat) : Prop := l.getLast? ≠ some 0
def Wds (l : List Nat) : Prop := ∀ x ∈ l, Wd x

theorem val_append (a b : List Nat) : val (a ++ b) = val a + WB ^ a.length * val b := by
  induction a with
  | nil => simp [val]
  | cons x r ih => simp only [List.cons_append, val, ih, List.length_cons, Nat.pow_succ]; rw [Nat.mul_add, Nat.mul_comm (WB ^ r.length) WB, Nat.mul_assoc]; omega
theorem val_lt (l : List Nat) (h : Wds l) : val l < WB ^ l.length := by
  induction l with
  | nil => simp [val]
  | cons x r ih =>
    have h1 := ih (fun y hy => h y (List.mem_cons_of_mem _ hy))
    have h2 : x < WB := h x List.mem_cons_self
    simp only [val, List.length_cons, Nat.pow_succ]
    have : WB * (val r + 1) ≤ WB * WB ^ r.length := Nat.mul_le_mul_left _ h1
    rw [Nat.mul_comm (WB ^ r.length)]
    rw [Nat.mul_add] at this
    omega
theorem val_norm (l : List Nat) : val (norm l) = val l := by
  induction l with
  | nil => rfl
  | cons x r ih =>
    simp only [norm]
    split
    · rename_i h; rw [h] at ih; split
      · simp [val, ← ih] ; omega
      · simp [val, ← ih]
    · rename_i y s h; rw [h] at ih; simp only [val] at ih ⊢; rw [← ih]
theorem norm_snoc_zero (l : List Nat) : norm (l ++ [0]) = norm l := by
  induction l with
  | nil => simp [norm]
  | cons x r ih => simp only [List.cons_append, norm, ih]
theorem norm_snoc (l : List Nat) (x : Nat) (h : x ≠ 0) : norm (l ++ [x]) = l ++ [x] := by
  induction l with
  | nil => simp [norm, h]
  | cons y r ih =>
    simp only [List.cons_append, norm, ih]
    cases r <;> simp
theorem norm_nrm (l : List Nat) : Nrm (norm l) := by
  induction l with
  | nil => simp [norm, Nrm]
  | cons x r ih =>
    simp only [norm]
    split
    · split
      · simp [Nrm]
      · rename_i h; simp [Nrm, h]
    · rename_i y s e; rw [e] at ih; unfold Nrm at ih ⊢; rw [List.getLast?_cons_cons]; exact ih
/-! slices of words in memory -/
/-- v is a slice of words that reads ws -/
def Sl (w : World) (v : Value) (ws : List Nat) : Prop :=
  Wds ws ∧ ws.length ≤ 4096 ∧ ((v = .slice none 0 0 ∧ ws = []) ∨ ∃ b o cap : Nat, v = .slice (some ⟨b, o, none⟩) ws.length cap ∧ ws.length ≤ cap ∧ b < w.heap.size ∧
    ∀ i, i < ws.length → w.cell? ⟨b, o + i, none⟩ = some (.int .u64 ((ws.getD i 0 : Nat) : Int)))
theorem Sl.keep {w w' : World} {v : Value} {ws : List Nat} {B : Nat} (h : Sl w v ws) (hb : Below B w w') (hB : w.heap.size ≤ B) : Sl w' v ws := by
  obtain ⟨h1, h2, h | ⟨b, o, cap, hv, hc, hlt, hcell⟩⟩ := h
  · exact ⟨h1, h2, .inl h⟩
  · exact ⟨h1, h2, .inr ⟨b, o, cap, hv, hc, Nat.lt_of_lt_of_le hlt hb.size, fun i hi => (hb.cell (p := ⟨b, o + i, none⟩) (Nat.lt_of_lt_of_le hlt hB)).trans (hcell i hi)⟩⟩
theorem take_succ_getD (ws : List Nat) (j : Nat) (h : j < ws.length) : ws.take (j + 1) = ws.take j ++ [ws.getD j 0] := by
  rw [List.take_succ_eq_append_getElem h, List.getD_eq_getElem?_getD, List.getElem?_eq_getElem h]; rfl
def lenOf : Value → Nat | .slice _ k _ => k | _ => 0
def PSl (ws : List Nat) (w : World) (e : Ending) (w' : World) : Prop := w = w' ∧ ∃ v', e = .returned v' ∧ Sl w v' ws

theorem Sl.take {w : World} {b o cap n : Nat} {ws : List Nat} (h : Wds ws) (h1 : ws.length ≤ 4096) (hc : ws.length ≤ cap) (hlt : b < w.heap.size)
    (hcell : ∀ i, i < ws.length → w.cell? ⟨b, o + i, none⟩ = some (.int .u64 ((ws.getD i 0 : Nat) : Int))) (hn : n ≤ ws.length) : Sl w (.slice (some ⟨b, o, none⟩) n cap) (ws.take n) := by
  refine ⟨fun x hx => h x (List.mem_of_mem_take hx), by simp; omega, .inr ⟨b, o, cap, by simp [Nat.min_eq_left hn], by simp; omega, hlt, fun i hi => ?_⟩⟩
  have hi' : i < n := by simp at hi; omega
  rw [hcell i (by omega)]
  simp [List.getD_eq_getElem?_getD, hi']

theorem trim_any (v : Value) (ws : List Nat) (w : World) (h : Sl w v ws) : Calls Tryz.prog 143 #[v] w (PSl (norm ws) w) := by
  obtain ⟨h1, h2, ⟨rfl, rfl⟩ | ⟨b, o, cap, rfl, hc, hlt, hcell⟩⟩ := h
  · go_enter Tryz.func143, Tryz.ntmps143
    go_wp2
    go_loop [0] (fun t => t = .slice none 0 0) (fun t => 0)
    case atStart => rfl
    case round =>
      obtain rfl := hrel
      go_wp2
      go_ret
      exact ⟨rfl, _, rfl, h1, h2, .inl ⟨rfl, rfl⟩⟩
  · have hn : norm (ws.take ws.length) = norm ws := by rw [List.take_length]
    go_enter Tryz.func143, Tryz.ntmps143
    go_wp2
    go_loop [0] (fun t => ∃ k : Nat, k ≤ ws.length ∧ Hid (norm (ws.take k) = norm ws) ∧ t = .slice (some ⟨b, o, none⟩) k cap) lenOf
    case atStart => exact ⟨ws.length, Nat.le_refl _, hn, rfl⟩
    case round =>
      obtain ⟨k, hk, HN, rfl⟩ := hrel
      cases k with
      | zero =>
        go_wp2
        go_ret
        have hs := Sl.take h1 h2 hc hlt hcell (Nat.zero_le _)
        exact ⟨rfl, _, rfl, by rw [← HN.out]; exact hs⟩
      | succ j =>
        have hj := hcell j (by omega)
        have HT := Lib.hid (take_succ_getD ws j (by omega))
        have hl : ws.length ≤ 4096 := h2
        by_cases hz : ws.getD j 0 = 0
        · rw [hz] at hj
          have HZ := Lib.hid hz
          clear hz hcell hn
          go_wp2
          go_round
          case rel => exact ⟨j, by omega, by show _ = _; rw [← HN.out, HT.out, HZ.out, norm_snoc_zero], rfl⟩
          case measure => simp [lenOf]
        · have hne : (((ws.getD j 0 : Nat) : Int) == 0) = false := by
            rw [beq_eq_false_iff_ne]; exact fun e => hz (by omega)
          have HC := Lib.hid hcell
          generalize ws.getD j 0 = x at *
          clear hcell hn
          have HZ := Lib.hid hz
          clear hz
          go_wp2
          go_ret
          refine ⟨rfl, _, rfl, ?_⟩
          rw [← HN.out, HT.out, norm_snoc _ _ HZ.out, ← HT.out]
          exact Sl.take h1 h2 hc hlt HC.out hk
end Go.Proofs.YtjjomjjgoceklaaGreat
