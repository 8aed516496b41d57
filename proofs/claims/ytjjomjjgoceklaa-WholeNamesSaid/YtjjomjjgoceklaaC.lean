import Derived.Test.YtjjomjjgoceklaaB
namespace Go.Proofs.Ytjjomjjgoceklaa
open Go.RowKit

theorem wf_at (X Z : List Nat) (y : Nat) : wf (X ++ y :: Z) X.length = .int .u64 (y : Int) := by
  unfold wf; simp [List.getD_eq_getElem?_getD]
theorem row_mid {w : World} {b t n : Nat} {X Z : List Nat} {y : Nat} (h : w.rowIs b t n (wf (X ++ y :: Z))) (s : Nat) :
    (w.setCell ⟨b, X.length, none⟩ (.int .u64 (s : Int))).rowIs b t n (wf (X ++ s :: Z)) := by
  refine (h.set X.length _).congr (fun j _ => ?_)
  by_cases e : j = X.length
  · subst e; rw [if_pos rfl, wf_at]
  · rw [if_neg e]
    unfold wf
    simp only [List.getD_eq_getElem?_getD, List.getElem?_append]
    by_cases hj : j < X.length
    · simp [hj]
    · obtain ⟨i, rfl⟩ : ∃ i, j = X.length + (i + 1) := ⟨j - X.length - 1, by omega⟩
      simp [Nat.add_sub_cancel_left]
theorem drop_getD (P : List Nat) (k : Nat) (h : k < P.length) : P.drop k = P.getD k 0 :: P.drop (k + 1) := by
  rw [List.drop_eq_getElem_cons h, List.getD_eq_getElem?_getD, List.getElem?_eq_getElem h]; rfl
theorem only_setCell {a w : World} {g : Nat} (h : a.grownBy w (some g)) {p : Addr} (hp : p.block = g) (u : Value) : a.grownBy (w.setCell p u) (some g) :=
  ⟨h.os, h.tape, h.output, by simpa [World.setCell] using h.size, fun i hi hne => (Below.heap_setCell w p u i (by
    rintro rfl
    exact hne (by rw [hp]))).trans (h.block i hi hne)⟩
/-- the words behind a slice's value, apart from block g -/
def Rd (w : World) (g : Nat) (p : Option Addr) (ws : List Nat) : Prop :=
  ∀ i, i < ws.length → ∃ b o : Nat, p = some ⟨b, o, none⟩ ∧ b ≠ g ∧ b < w.heap.size ∧ w.cell? ⟨b, o + i, none⟩ = some (.int .u64 ((ws.getD i 0 : Nat) : Int))

theorem am_step {x m c h l p s k' : Nat} {P ws out : List Nat} {k : Nat} (hk : out.length = k) (H : val out + WB ^ k * c = val (P.take k) + m * val (ws.take k))
    (E1 : WB * h + l = x * m + c) (E2 : s + WB * k' = p + l) (hx : ws.getD k 0 = x) (hp : P.getD k 0 = p) :
    val (out ++ [s]) + WB ^ (k + 1) * (h + k') = val (P.take (k + 1)) + m * val (ws.take (k + 1)) := by
  rw [val_take_succ, val_take_succ, val_snoc, hk, hx, hp]
  have e : WB ^ (k + 1) * (h + k') = WB ^ k * (WB * (h + k')) := by rw [Nat.pow_succ, Nat.mul_assoc]
  have e1 : s + WB * (h + k') = p + x * m + c := by rw [Nat.mul_add]; omega
  have e2 : WB ^ k * s + WB ^ k * (WB * (h + k')) = WB ^ k * p + WB ^ k * (x * m) + WB ^ k * c := by rw [← Nat.mul_add, e1, Nat.mul_add, Nat.mul_add]
  have e3 : m * (val (ws.take k) + WB ^ k * x) = m * val (ws.take k) + WB ^ k * (x * m) := by
    rw [Nat.mul_add, Nat.mul_left_comm, Nat.mul_comm m x]
  omega
theorem am_carry {x m c h l p s k' : Nat} (hx : Wd x) (hm : Wd m) (hc : Wd c) (hp : Wd p) (E1 : WB * h + l = x * m + c) (E2 : s + WB * k' = p + l) : Wd (h + k') := by
  have hx' : x * m ≤ (WB - 1) * (WB - 1) := Nat.mul_le_mul (by unfold Wd at hx; omega) (by unfold Wd at hm; omega)
  unfold Wd WB at *
  omega

def PAm (P ws A C : List Nat) (m N g : Nat) (w : World) (e : Ending) (w' : World) : Prop :=
  ∃ (out : List Nat) (c : Nat), e = .returned (.int .u64 (c : Int)) ∧ out.length = ws.length ∧ Wds out ∧ Wd c ∧ val out + WB ^ ws.length * c = val P + m * val ws ∧
    w'.rowIs g 24 N (wf (A ++ (out ++ C))) ∧ w.grownBy w' (some g) ∧ w'.heap.size = w.heap.size

set_option maxRecDepth 100000 in
theorem addMultiple_any (g cp m cw N : Nat) (p : Option Addr) (A P C ws : List Nat) (w : World) (hrow : w.rowIs g 24 N (wf (A ++ (P ++ C)))) (hN : A.length + ws.length ≤ N) (hP : P.length = ws.length) (wP : Wds P)
    (hws : Wds ws) (hg : Rd w g p ws) (hm : Wd m) (hl : ws.length ≤ 8000) :
    Calls Try.prog 99 #[.slice (some ⟨g, A.length, none⟩) ws.length cp, .slice p ws.length cw, .int .u64 (m : Int)] w (PAm P ws A C m N g w) := by
  have WS := Lib.hid hws
  have WP := Lib.hid wP
  have HPL := Lib.hid hP
  have HG := Lib.hid hg
  clear hws wP hP hg
  go_enter Try.func99, Try.ntmps99
  go_wp2
  go_loopw [7, 15] (fun c i wr => ∃ (k cc : Nat) (out : List Nat), k ≤ ws.length ∧ i = .int .i64 k ∧ Wd cc ∧ c = .int .u64 cc ∧ Hid (out.length = k) ∧ Wds out ∧ wr.rowIs g 24 N (wf (A ++ out ++ (P.drop k ++ C))) ∧ w.grownBy wr (some g) ∧
    Hid (wr.heap.size = w.heap.size) ∧ Hid (val out + WB ^ k * cc = val (P.take k) + m * val (ws.take k))) (fun _ i _ => ws.length - (intOf i).toNat)
  case atStart => exact ⟨0, 0, [], Nat.zero_le _, rfl, Wd.zero, rfl, rfl, Wds.nil, by simpa using hrow, World.grownBy.refl _ _, rfl, by show _ = _; simp [val]⟩
  case round =>
    obtain ⟨k, cc, out, hk, rfl, hcc, rfl, HL, hw, hr, hgr, HS, HV⟩ := hrel
    by_cases hlt : k < ws.length
    · obtain ⟨b, o, rfl, hbg, hbl, hcell⟩ := HG.out k hlt
      have wx := WS.out.getD k
      have wp := WP.out.getD k
      have hd := drop_getD P k (by rw [HPL.out]; exact hlt)
      generalize hx : ws.getD k 0 = x at *
      generalize hy : P.getD k 0 = y at *
      rw [hd, List.cons_append] at hr
      have HX := Lib.hid hx; have HY := Lib.hid hy; have HD := Lib.hid hd
      clear hx hy hd
      have c1 := hgr.cell hcell (by simp; exact hbg)
      have c3 := hr.cell (i := (A ++ out).length) (by simp [HL.out]; omega)
      rw [wf_at] at c3
      have eL : (A ++ out).length = A.length + k := by rw [List.length_append, HL.out]
      have hr2 := fun s => row_mid hr s
      rw [eL] at c3 hr2
      have HR2 := Lib.hid hr2
      clear eL hr2
      have c4 := hr.frozen (A.length + k)
      clear hcell
      go_wp2_with fail
      refine (timesPlus_any x m cc wx hm hcc _).mono ?_
      rintro e w' ⟨rfl, h, l, rfl, hl1, hh, E1⟩
      obtain ⟨s, k', hs, hk', E2, hrun⟩ := add64_run0 y l wp hl1
      obtain ⟨t, ht, HT, hwr⟩ := wrap_add h k' (am_carry wx hm hcc wp E1.out E2.out)
      go_wp2
      go_roundw
      case rel => exact ⟨k + 1, t, out ++ [s], by omega, by go_num, ht, rfl, by show _ = _; simp [HL.out], hw.snoc hs, by simpa using HR2.out s, only_setCell hgr rfl _, by show _ = _; rw [← HS.out]; simp [World.setCell], by show _ = _; rw [HT.out]; exact am_step HL.out HV.out E1.out E2.out HX.out HY.out⟩
      case measure => simp [intOf]; omega
    · obtain rfl : k = ws.length := by omega
      go_wp2
      go_ret
      have hv := HV.out
      rw [List.take_length, ← HPL.out, List.take_length] at hv
      rw [List.drop_of_length_le (by rw [HPL.out]; exact Nat.le_refl _)] at hr
      exact ⟨out, cc, rfl, HL.out, hw, hcc, by rw [← HPL.out]; exact hv, by simpa using hr, hgr, HS.out⟩
theorem tm_step {x m c h l p s k' : Nat} {P ws out : List Nat} {k : Nat} (hk : out.length = k) (H : val out + m * val (ws.take k) = val (P.take k) + WB ^ k * c)
    (E1 : WB * h + l = x * m + c) (E2 : p + WB * k' = s + l) (hx : ws.getD k 0 = x) (hp : P.getD k 0 = p) :
    val (out ++ [s]) + m * val (ws.take (k + 1)) = val (P.take (k + 1)) + WB ^ (k + 1) * (h + k') := by
  rw [val_take_succ, val_take_succ, val_snoc, hk, hx, hp]
  have e : WB ^ (k + 1) * (h + k') = WB ^ k * (WB * (h + k')) := by rw [Nat.pow_succ, Nat.mul_assoc]
  have e1 : s + x * m + c = p + WB * (h + k') := by rw [Nat.mul_add]; omega
  have e2 : WB ^ k * s + WB ^ k * (x * m) + WB ^ k * c = WB ^ k * p + WB ^ k * (WB * (h + k')) := by rw [← Nat.mul_add, ← Nat.mul_add, e1, Nat.mul_add]
  have e3 : m * (val (ws.take k) + WB ^ k * x) = m * val (ws.take k) + WB ^ k * (x * m) := by
    rw [Nat.mul_add, Nat.mul_left_comm, Nat.mul_comm m x]
  omega
theorem tm_carry {x m c h l p s k' : Nat} (hx : Wd x) (hm : Wd m) (hc : Wd c) (hp : Wd p) (E1 : WB * h + l = x * m + c) (E2 : p + WB * k' = s + l) (hs : Wd s) : Wd (h + k') := by
  have hx' : x * m ≤ (WB - 1) * (WB - 1) := Nat.mul_le_mul (by unfold Wd at hx; omega) (by unfold Wd at hm; omega)
  unfold Wd WB at *
  omega

def PTm (P ws A C : List Nat) (m N g : Nat) (w : World) (e : Ending) (w' : World) : Prop :=
  ∃ (out : List Nat) (c : Nat), e = .returned (.int .u64 (c : Int)) ∧ out.length = ws.length ∧ Wds out ∧ Wd c ∧ val out + m * val ws = val P + WB ^ ws.length * c ∧
    w'.rowIs g 24 N (wf (A ++ (out ++ C))) ∧ w.grownBy w' (some g) ∧ w'.heap.size = w.heap.size

set_option maxRecDepth 100000 in
theorem takeMultiple_any (g cp m cw N : Nat) (p : Option Addr) (A P C ws : List Nat) (w : World) (hrow : w.rowIs g 24 N (wf (A ++ (P ++ C)))) (hN : A.length + ws.length ≤ N) (hP : P.length = ws.length) (wP : Wds P)
    (hws : Wds ws) (hg : Rd w g p ws) (hm : Wd m) (hl : ws.length ≤ 8000) :
    Calls Try.prog 111 #[.slice (some ⟨g, A.length, none⟩) ws.length cp, .slice p ws.length cw, .int .u64 (m : Int)] w (PTm P ws A C m N g w) := by
  have WS := Lib.hid hws
  have WP := Lib.hid wP
  have HPL := Lib.hid hP
  have HG := Lib.hid hg
  clear hws wP hP hg
  go_enter Try.func111, Try.ntmps111
  go_wp2
  go_loopw [7, 15] (fun c i wr => ∃ (k cc : Nat) (out : List Nat), k ≤ ws.length ∧ i = .int .i64 k ∧ Wd cc ∧ c = .int .u64 cc ∧ Hid (out.length = k) ∧ Wds out ∧ wr.rowIs g 24 N (wf (A ++ out ++ (P.drop k ++ C))) ∧ w.grownBy wr (some g) ∧
    Hid (wr.heap.size = w.heap.size) ∧ Hid (val out + m * val (ws.take k) = val (P.take k) + WB ^ k * cc)) (fun _ i _ => ws.length - (intOf i).toNat)
  case atStart => exact ⟨0, 0, [], Nat.zero_le _, rfl, Wd.zero, rfl, rfl, Wds.nil, by simpa using hrow, World.grownBy.refl _ _, rfl, by show _ = _; simp [val]⟩
  case round =>
    obtain ⟨k, cc, out, hk, rfl, hcc, rfl, HL, hw, hr, hgr, HS, HV⟩ := hrel
    by_cases hlt : k < ws.length
    · obtain ⟨b, o, rfl, hbg, hbl, hcell⟩ := HG.out k hlt
      have wx := WS.out.getD k
      have wp := WP.out.getD k
      have hd := drop_getD P k (by rw [HPL.out]; exact hlt)
      generalize hx : ws.getD k 0 = x at *
      generalize hy : P.getD k 0 = y at *
      rw [hd, List.cons_append] at hr
      have HX := Lib.hid hx; have HY := Lib.hid hy; have HD := Lib.hid hd
      clear hx hy hd
      have c1 := hgr.cell hcell (by simp; exact hbg)
      have c3 := hr.cell (i := (A ++ out).length) (by simp [HL.out]; omega)
      rw [wf_at] at c3
      have eL : (A ++ out).length = A.length + k := by rw [List.length_append, HL.out]
      have hr2 := fun s => row_mid hr s
      rw [eL] at c3 hr2
      have HR2 := Lib.hid hr2
      clear eL hr2
      have c4 := hr.frozen (A.length + k)
      clear hcell
      go_wp2_with fail
      refine (timesPlus_any x m cc wx hm hcc _).mono ?_
      rintro e w' ⟨rfl, h, l, rfl, hl1, hh, E1⟩
      obtain ⟨s, k', hs, hk', E2, hrun⟩ := sub64_run0 y l wp hl1
      obtain ⟨t, ht, HT, hwr⟩ := wrap_add h k' (tm_carry wx hm hcc wp E1.out E2.out hs)
      go_wp2
      go_roundw
      case rel => exact ⟨k + 1, t, out ++ [s], by omega, by go_num, ht, rfl, by show _ = _; simp [HL.out], hw.snoc hs, by simpa using HR2.out s, only_setCell hgr rfl _, by show _ = _; rw [← HS.out]; simp [World.setCell], by show _ = _; rw [HT.out]; exact tm_step HL.out HV.out E1.out E2.out HX.out HY.out⟩
      case measure => simp [intOf]; omega
    · obtain rfl : k = ws.length := by omega
      go_wp2
      go_ret
      have hv := HV.out
      rw [List.take_length, ← HPL.out, List.take_length] at hv
      rw [List.drop_of_length_le (by rw [HPL.out]; exact Nat.le_refl _)] at hr
      exact ⟨out, cc, rfl, HL.out, hw, hcc, by rw [← HPL.out]; exact hv, by simpa using hr, hgr, HS.out⟩
end Go.Proofs.Ytjjomjjgoceklaa
