import Derived.Test.YtjjomjjgoceklaaD
namespace Go.Proofs.Ytjjomjjgoceklaa
open Go.RowKit

theorem quiet_add {P : Program} {f : FuncId} {args : Array Value} {w : World} {a n : Nat} {v : Value}
    (h : Calls P f args (w.drewN (a + n)) fun e w' => e = .returned v ∧ w' = w.drewN (a + n)) :
    Calls P f args (w.drewN (a + n)) fun e w'' => e = .returned v ∧ ∃ m, w'' = w.drewN (a + m) :=
  h.mono fun _ _ ⟨he, hm⟩ => ⟨he, n, hm⟩
theorem below_drewN {B : Nat} {a w : World} (h : Below B a w) (n : Nat) : Below B a (w.drewN n) := ⟨h.os, h.tape, h.output, h.size, h.block⟩

theorem signOf_t (w : World) : Calls Try.prog 58 #[.bool true] w fun e w' => e = .returned (.int .i64 1) ∧ w' = w := by
  go_enter Try.func58, Try.ntmps58
  go_wp2
  go_ret
  exact ⟨rfl, rfl⟩
theorem signOf_f (w : World) : Calls Try.prog 58 #[.bool false] w fun e w' => e = .returned (.int .i64 (-1)) ∧ w' = w := by
  go_enter Try.func58, Try.ntmps58
  go_wp2
  go_ret
  exact ⟨rfl, rfl⟩

def cmpN (m n : Nat) : Int := if m < n then -1 else if m = n then 0 else 1
theorem cmpN_lt {m n : Nat} (h : m < n) : cmpN m n = -1 := by unfold cmpN; rw [if_pos h]
theorem cmpN_gt {m n : Nat} (h : n < m) : cmpN m n = 1 := by unfold cmpN; rw [if_neg (by omega), if_neg (by omega)]
theorem cmpN_eq {m n : Nat} (h : m = n) : cmpN m n = 0 := by unfold cmpN; rw [if_neg (by omega), if_pos h]

theorem val_ge (l : List Nat) (h : Nrm l) (hne : l ≠ []) : WB ^ (l.length - 1) ≤ val l := by
  obtain ⟨r, x, rfl⟩ : ∃ r x, l = r ++ [x] := ⟨l.dropLast, l.getLast hne, (List.dropLast_concat_getLast hne).symm⟩
  have hx : x ≠ 0 := by unfold Nrm at h; simpa using h
  rw [val_snoc]
  simp only [List.length_append, List.length_singleton, Nat.add_sub_cancel]
  have : WB ^ r.length * 1 ≤ WB ^ r.length * x := Nat.mul_le_mul_left _ (by omega)
  omega
theorem val_len_lt {a b : List Nat} (ha : Wds a) (hb : Nrm b) (h : a.length < b.length) : val a < val b := by
  have h1 := val_lt a ha
  have h2 := val_ge b hb (by intro e; rw [e] at h; simp at h)
  have h3 : WB ^ a.length ≤ WB ^ (b.length - 1) := Nat.pow_le_pow_right WB_pos (by omega)
  omega
theorem val_split (l : List Nat) (i : Nat) (h : i < l.length) : val l = val (l.take i) + WB ^ i * (l.getD i 0 + WB * val (l.drop (i + 1))) := by
  have := val_append (l.take i) (l.drop i)
  rw [List.take_append_drop, List.length_take, Nat.min_eq_left (Nat.le_of_lt h), drop_getD l i h] at this
  exact this
theorem val_cmp_at {a b : List Nat} (ha : Wds a) (i : Nat) (hia : i < a.length) (hib : i < b.length) (hd : a.drop (i + 1) = b.drop (i + 1)) (hlt : a.getD i 0 < b.getD i 0) : val a < val b := by
  rw [val_split a i hia, val_split b i hib, hd]
  have h1 := val_lt (a.take i) (fun x hx => ha x (List.mem_of_mem_take hx))
  rw [List.length_take, Nat.min_eq_left (Nat.le_of_lt hia)] at h1
  have h2 : WB ^ i * (a.getD i 0 + WB * val (b.drop (i + 1)) + 1) ≤ WB ^ i * (b.getD i 0 + WB * val (b.drop (i + 1))) := Nat.mul_le_mul_left _ (by omega)
  rw [Nat.mul_add (WB ^ i) _ 1] at h2
  omega

def PCmp (a b : List Nat) (w : World) (e : Ending) (w' : World) : Prop := Below w.heap.size w w' ∧ e = .returned (.int .i64 (cmpN (val a) (val b)))
theorem PCmp.ret {a b : List Nat} {w w' : World} {n : Int} (hb : Below w.heap.size w w') (h : cmpN (val a) (val b) = n) : PCmp a b w (.returned (.int .i64 n)) w' := ⟨hb, by rw [h]⟩

set_option maxRecDepth 100000 in
theorem compareWords_any (va vb : Value) (a b : List Nat) (w : World) (ha : Sl w va a) (hb : Sl w vb b) (na : Nrm a) (nb : Nrm b) : Calls Try.prog 82 #[va, vb] w (PCmp a b w) := by
  have wa := ha.1
  have wb := hb.1
  have la := ha.2.1
  have lb := hb.2.1
  obtain ⟨pa, ca, rfl, hga⟩ := ha.opened' w.heap.size (Nat.le_refl _)
  obtain ⟨pb, cb, rfl, hgb⟩ := hb.opened' w.heap.size (Nat.le_refl _)
  have NA := Lib.hid na; have NB := Lib.hid nb
  have WA := Lib.hid wa; have WBb := Lib.hid wb
  have HGA := Lib.hid hga; have HGB := Lib.hid hgb
  clear ha hb na nb wa wb hga hgb
  rcases Nat.lt_trichotomy a.length b.length with h | h | h
  · have h1 : ((a.length : Int) != (b.length : Int)) = true := by rw [bne_iff_ne]; omega
    have h2 : decide ((b.length : Int) < (a.length : Int)) = false := by simp; omega
    have h3 : decide (b.length < a.length) = false := by simp; omega
    have h4 : (a.length != b.length) = true := by rw [bne_iff_ne]; omega
    go_enter Try.func82, Try.ntmps82
    go_wp2_with (go_at_call 58; refine (signOf_f _).mono ?_; rintro e w' ⟨rfl, rfl⟩)
    go_ret
    exact PCmp.ret (Below.refl _ _) (cmpN_lt (val_len_lt WA.out NB.out h))
  · have h1 : ((a.length : Int) != (b.length : Int)) = false := by rw [h]; simp
    have h4 : (a.length != b.length) = false := by rw [h]; simp
    have HE := Lib.hid h
    clear h
    go_enter Try.func82, Try.ntmps82
    go_wp2
    go_loopw [5] (fun i wr => ∃ k : Nat, k ≤ a.length ∧ i = .int .i64 ((k : Int) - 1) ∧ Below w.heap.size w wr ∧ Hid (a.drop k = b.drop k)) (fun i _ => (intOf i + 1).toNat)
    case atStart => exact ⟨a.length, Nat.le_refl _, rfl, Below.refl _ _, by show _ = _; rw [List.drop_length, HE.out, List.drop_length]⟩
    case round =>
      obtain ⟨k, hk, rfl, hbel, HD⟩ := hrel
      cases k with
      | zero =>
        go_wp2
        go_ret
        have hd := HD.out
        simp only [List.drop_zero] at hd
        exact PCmp.ret hbel (cmpN_eq (by rw [hd]))
      | succ j =>
        have hjb : j < b.length := by have := HE.out; omega
        obtain ⟨ba, oa, rfl, _, hbl, hcell⟩ := HGA.out j (by omega)
        obtain ⟨bb, ob, rfl, _, hbl2, hcell2⟩ := HGB.out j hjb
        have e1 : ((j + 1 : Nat) : Int) - 1 = (j : Int) := by omega
        rw [e1]
        have c1 := (hbel.cell (p := ⟨ba, oa + j, none⟩) hbl).trans hcell
        have c2 := (hbel.cell (p := ⟨bb, ob + j, none⟩) hbl2).trans hcell2
        clear hcell hcell2 e1
        have b1 : (j : Int) < (a.length : Int) := by omega
        have b2 : (j : Int) < (b.length : Int) := by omega
        have CA := Lib.hid (fun hlt => val_cmp_at (a := a) (b := b) WA.out j (by omega) hjb HD.out hlt)
        have CB := Lib.hid (fun hlt => val_cmp_at (a := b) (b := a) WBb.out j hjb (by omega) HD.out.symm hlt)
        have CE := Lib.hid (drop_getD a j (by omega))
        have CF := Lib.hid (drop_getD b j hjb)
        generalize hx : a.getD j 0 = x at *
        generalize hy : b.getD j 0 = y at *
        clear hx hy
        rcases Nat.lt_trichotomy x y with hxy | hxy | hxy
        · have g1 : ((x : Int) != (y : Int)) = true := by rw [bne_iff_ne]; omega
          have g2 : decide (y < x) = false := by simp; omega
          go_wp2
          go_quiet (fail)
          go_wp2
          go_quiet ((go_at_call 58; first | exact quiet_add (signOf_f _) | exact Calls.quiet_of_same (signOf_f _)))
          go_wp2
          go_ret
          exact PCmp.ret (below_drewN (below_drewN hbel _) _) (cmpN_lt (CA.out hxy))
        · subst hxy
          clear CA CB
          go_wp2
          go_quiet (fail)
          go_wp2
          go_roundw
          case rel => exact ⟨j, by omega, rfl, below_drewN hbel _, by show _ = _; rw [CE.out, CF.out, HD.out]⟩
          case measure => simp [intOf]
        · have g1 : ((x : Int) != (y : Int)) = true := by rw [bne_iff_ne]; omega
          have g2 : decide (y < x) = true := by simp; omega
          go_wp2
          go_quiet (fail)
          go_wp2
          go_quiet ((go_at_call 58; first | exact quiet_add (signOf_t _) | exact Calls.quiet_of_same (signOf_t _)))
          go_wp2
          go_ret
          exact PCmp.ret (below_drewN (below_drewN hbel _) _) (cmpN_gt (CB.out hxy))
  · have h1 : ((a.length : Int) != (b.length : Int)) = true := by rw [bne_iff_ne]; omega
    have h2 : decide ((b.length : Int) < (a.length : Int)) = true := by simp; omega
    have h3 : decide (b.length < a.length) = true := by simp; omega
    have h4 : (a.length != b.length) = true := by rw [bne_iff_ne]; omega
    go_enter Try.func82, Try.ntmps82
    go_wp2_with (go_at_call 58; refine (signOf_t _).mono ?_; rintro e w' ⟨rfl, rfl⟩)
    go_ret
    exact PCmp.ret (Below.refl _ _) (cmpN_gt (val_len_lt WBb.out NA.out h))
end Go.Proofs.Ytjjomjjgoceklaa
