import Derived.Test.YtljmhejljpfaiaaGreatS
namespace Go.Proofs.YtljmhejljpfaiaaGreat
set_option maxRecDepth 100000
open Go.RowKit Go.Shelf
attribute [local go_sem] Oper.semAt_some

/-! slices.Values, All, Backward over points -/
/-- a list that an iterator reads: the box of its slice, and its row, are not the caller's -/
structure Ev (Bs : List Nat) (Be b o c : Nat) (l : List Pt) (W : World) : Prop where
  row : Row W b o l
  box : Boxed W Be 24 (.slice (some ⟨b, o, none⟩) l.length c)
  sane : Sane Bs W
  nb : Be ∉ Bs ∧ ¬ ow Bs W Be
  nr : b ∉ Bs ∧ ¬ ow Bs W b
theorem Ev.ko {B : Nat} {Bs : List Nat} {Be b o c : Nat} {l : List Pt} {W W' : World} (h : Ev Bs Be b o c l W) (k : KO B Bs W W') (hl : 0 < l.length) : Ev Bs Be b o c l W' :=
  ⟨k.row h.row h.nr.1 h.nr.2, k.boxed h.box h.nb.1 h.nb.2, k.sane h.sane, ⟨h.nb.1, k.own _ h.box.lt h.nb.2⟩, ⟨h.nr.1, k.own _ (h.row.lt hl) h.nr.2⟩⟩
theorem Ev.below {Bs : List Nat} {Be b o c : Nat} {l : List Pt} {W W' : World} (h : Ev Bs Be b o c l W) (k : Below W.heap.size W W') (hl : 0 < l.length) : Ev Bs Be b o c l W' := h.ko (KO.of_below (B := 0) k h.sane) hl
def encV (l : List Pt) (i : Fin l.length) : Array Value := #[.agg #[.int .i64 (px l i.1), .int .i64 (pz l i.1)]]
def encA (l : List Pt) (i : Fin l.length) : Array Value := #[.int .i64 i.1, .agg #[.int .i64 (px l i.1), .int .i64 (pz l i.1)]]
theorem fin_take_rev {n : Nat} (k j : Nat) (h : k + (j + 1) = n) : (List.finRange n).reverse.take (k + 1) = (List.finRange n).reverse.take k ++ [⟨j, by omega⟩] := by
  rw [List.take_succ_eq_append_getElem (by simp; omega)]
  simp
  omega
set_option maxHeartbeats 4000000 in
theorem values1_in (n lr : Nat) (Bs : List Nat) (B Be b o c : Nat) (l : List Pt) (h3 : 0 < l.length) (h12 : l.length ≤ 1000000) (J Jx : List (Fin l.length) → World → Prop) (W : World)
    (hJ : ∀ s W W', J s W → Below W.heap.size W W' → J s W')
    (hY : ∀ m pre x W1, J pre W1 → Sane Bs W1 → pre.length < l.length → YieldAt Fence.wide m Tryz.prog lr (encV l x) W1 fun e W' =>
      (e = .returned (.bool true) ∧ J (pre ++ [x]) W' ∧ KO B Bs W1 W') ∨ (e = .returned (.bool false) ∧ Jx (pre ++ [x]) W' ∧ KO B Bs W1 W'))
    (hE : Ev Bs Be b o c l W) (h0 : J [] W) :
    CallsIn Fence.wide n Tryz.prog 48 #[.func (.yield lr) #[] #[], .pointer (some ⟨Be, 0, none⟩)] W fun e W' => (∃ v, e = .returned v) ∧ ((∃ xs, xs = List.finRange l.length ∧ J xs W') ∨ (∃ pre, Jx pre W')) := by
  have HJ := Lib.hid hJ; have HY := Lib.hid hY; have HE := Lib.hid hE; have H0 := Lib.hid h0
  have cb := hE.box.cell
  clear hJ hY hE h0
  refine callsIn_of_wp Tryz.func48 rfl trivial ?_ rfl
  simp only [Tryz.ntmps48, List.size_toArray, List.length_cons, List.length_nil, Nat.reduceAdd, Nat.reduceSub, Array.replicate_succ, Array.replicate_zero, List.push_toArray, List.append_toArray, List.nil_append, List.cons_append]
  obtain ⟨nn, hnn⟩ : ∃ nn, nn = l.length := ⟨_, rfl⟩
  rw [← hnn] at h3 h12 cb
  have HNN := Lib.hid hnn
  clear hnn
  gi_wp2
  gi_loopw [7] (fun i wr => ∃ k : Nat, k ≤ nn ∧ i = .int .i64 k ∧ Hid (J ((List.finRange l.length).take k) wr) ∧ Hid (Ev Bs Be b o c l wr)) (fun i _ => nn - (intOf i).toNat)
  case atStart => exact ⟨0, Nat.zero_le _, by first | rfl | go_num, H0.out, HE.out⟩
  case round =>
    obtain ⟨k, hk, rfl, HJk, HEk⟩ := hrel
    clear cb
    by_cases hlt : k < nn
    · have hrow := HEk.out.row
      obtain ⟨ckx, ckz⟩ := hrow (k) (by rw [← HNN.out]; omega)
      have hbw := cell_lt ckx
      have cb := HEk.out.box.cell
      have cf := HEk.out.box.frozen
      rw [← HNN.out] at cb
      have hbe := HEk.out.box.lt
      clear hrow
      have hB1 : Below wr.heap.size wr (wr.alloc (.cells #[.int .i64 (px l k), .int .i64 (pz l k)] 37)) := bl1 wr _
      have J1 := HJ.out _ _ _ HJk.out hB1
      have E1 := HEk.out.below hB1 (by rw [← HNN.out]; exact h3)
      obtain ⟨fn, tmps, assign, body, hy, hR⟩ := HY.out (n - 1) _ ⟨k, by rw [← HNN.out]; omega⟩ _ J1 E1.sane (by rw [List.length_take, List.length_finRange, ← HNN.out]; omega)
      unfold encV at hy
      dsimp only at hy
      rw [← fin_take k (by rw [← HNN.out]; exact hlt)] at hR
      have HR := Lib.hid hR
      have HE1 := Lib.hid E1
      clear hR J1 E1 hB1
      have hdp : Fence.wide.depth.isSome = true → 1 ≤ n := fun h => by cases h
      gi_wp2_with (refine ⟨hdp, HR.out.mono ?_⟩; rintro e W3 hW3; rcases hW3 with ⟨rfl, hj3, hk3⟩ | ⟨rfl, hx3, -⟩)
      · have E3 := Lib.hid (HE1.out.ko hk3 (by rw [← HNN.out]; exact h3))
        go_roundw
        case rel => exact ⟨k + 1, by omega, by go_num, hj3, E3.out⟩
        case measure => simp [intOf] <;> omega
      · exact bodyPost_ret (results_none rfl _ _ _) rfl ⟨⟨_, rfl⟩, .inr ⟨_, hx3⟩⟩
    · obtain rfl : k = nn := by omega
      gi_wp2
      go_end0
      exact ⟨⟨_, rfl⟩, .inl ⟨_, rfl, by have h := HJk.out; rw [List.take_of_length_le (by rw [List.length_finRange, ← HNN.out]; exact Nat.le_refl _)] at h; exact h⟩⟩
theorem values_seq (Be b o c : Nat) (l : List Pt) (w0 : World) (h3 : 0 < l.length) (h12 : l.length ≤ 1000000) (hr : Row w0 b o l) (hb : Boxed w0 Be 24 (.slice (some ⟨b, o, none⟩) l.length c)) :
    SeqX Tryz.prog 48 #[.pointer (some ⟨Be, 0, none⟩)] (encV l) (fun k => k = Be ∨ k = b) (fun xs => xs = List.finRange l.length) l.length w0 := fun n lr Bs J Jx W hW hs hp hJ _hJx hY h0 =>
  values1_in n lr Bs W.heap.size Be b o c l h3 h12 J Jx W (fun s A C h k => hJ s A C h (Ch.of_below k)) hY
    ⟨hr.keep hW, (hW.block Be hb.lt).trans hb, hs, hp Be (.inl rfl), hp b (.inr rfl)⟩ h0
set_option maxHeartbeats 4000000 in
theorem all1_in (n lr : Nat) (Bs : List Nat) (B Be b o c : Nat) (l : List Pt) (h3 : 0 < l.length) (h12 : l.length ≤ 1000000) (J Jx : List (Fin l.length) → World → Prop) (W : World)
    (hJ : ∀ s W W', J s W → Below W.heap.size W W' → J s W')
    (hY : ∀ m pre x W1, J pre W1 → Sane Bs W1 → pre.length < l.length → YieldAt Fence.wide m Tryz.prog lr (encA l x) W1 fun e W' =>
      (e = .returned (.bool true) ∧ J (pre ++ [x]) W' ∧ KO B Bs W1 W') ∨ (e = .returned (.bool false) ∧ Jx (pre ++ [x]) W' ∧ KO B Bs W1 W'))
    (hE : Ev Bs Be b o c l W) (h0 : J [] W) :
    CallsIn Fence.wide n Tryz.prog 77 #[.func (.yield lr) #[] #[], .pointer (some ⟨Be, 0, none⟩)] W fun e W' => (∃ v, e = .returned v) ∧ ((∃ xs, xs = List.finRange l.length ∧ J xs W') ∨ (∃ pre, Jx pre W')) := by
  have HJ := Lib.hid hJ; have HY := Lib.hid hY; have HE := Lib.hid hE; have H0 := Lib.hid h0
  have cb := hE.box.cell
  clear hJ hY hE h0
  refine callsIn_of_wp Tryz.func77 rfl trivial ?_ rfl
  simp only [Tryz.ntmps77, List.size_toArray, List.length_cons, List.length_nil, Nat.reduceAdd, Nat.reduceSub, Array.replicate_succ, Array.replicate_zero, List.push_toArray, List.append_toArray, List.nil_append, List.cons_append]
  obtain ⟨nn, hnn⟩ : ∃ nn, nn = l.length := ⟨_, rfl⟩
  rw [← hnn] at h3 h12 cb
  have HNN := Lib.hid hnn
  clear hnn
  gi_wp2
  gi_loopw [7] (fun i wr => ∃ k : Nat, k ≤ nn ∧ i = .int .i64 k ∧ Hid (J ((List.finRange l.length).take k) wr) ∧ Hid (Ev Bs Be b o c l wr)) (fun i _ => nn - (intOf i).toNat)
  case atStart => exact ⟨0, Nat.zero_le _, by first | rfl | go_num, H0.out, HE.out⟩
  case round =>
    obtain ⟨k, hk, rfl, HJk, HEk⟩ := hrel
    clear cb
    by_cases hlt : k < nn
    · have hrow := HEk.out.row
      obtain ⟨ckx, ckz⟩ := hrow (k) (by rw [← HNN.out]; omega)
      have hbw := cell_lt ckx
      have cb := HEk.out.box.cell
      have cf := HEk.out.box.frozen
      rw [← HNN.out] at cb
      have hbe := HEk.out.box.lt
      clear hrow
      have hB1 : Below wr.heap.size wr (wr.alloc (.cells #[.int .i64 (px l k), .int .i64 (pz l k)] 37)) := bl1 wr _
      have J1 := HJ.out _ _ _ HJk.out hB1
      have E1 := HEk.out.below hB1 (by rw [← HNN.out]; exact h3)
      obtain ⟨fn, tmps, assign, body, hy, hR⟩ := HY.out (n - 1) _ ⟨k, by rw [← HNN.out]; omega⟩ _ J1 E1.sane (by rw [List.length_take, List.length_finRange, ← HNN.out]; omega)
      unfold encA at hy
      dsimp only at hy
      rw [← fin_take k (by rw [← HNN.out]; exact hlt)] at hR
      have HR := Lib.hid hR
      have HE1 := Lib.hid E1
      clear hR J1 E1 hB1
      have hdp : Fence.wide.depth.isSome = true → 1 ≤ n := fun h => by cases h
      gi_wp2_with (refine ⟨hdp, HR.out.mono ?_⟩; rintro e W3 hW3; rcases hW3 with ⟨rfl, hj3, hk3⟩ | ⟨rfl, hx3, -⟩)
      · have E3 := Lib.hid (HE1.out.ko hk3 (by rw [← HNN.out]; exact h3))
        go_roundw
        case rel => exact ⟨k + 1, by omega, by go_num, hj3, E3.out⟩
        case measure => simp [intOf] <;> omega
      · exact bodyPost_ret (results_none rfl _ _ _) rfl ⟨⟨_, rfl⟩, .inr ⟨_, hx3⟩⟩
    · obtain rfl : k = nn := by omega
      gi_wp2
      go_end0
      exact ⟨⟨_, rfl⟩, .inl ⟨_, rfl, by have h := HJk.out; rw [List.take_of_length_le (by rw [List.length_finRange, ← HNN.out]; exact Nat.le_refl _)] at h; exact h⟩⟩
theorem all_seq (Be b o c : Nat) (l : List Pt) (w0 : World) (h3 : 0 < l.length) (h12 : l.length ≤ 1000000) (hr : Row w0 b o l) (hb : Boxed w0 Be 24 (.slice (some ⟨b, o, none⟩) l.length c)) :
    SeqX Tryz.prog 77 #[.pointer (some ⟨Be, 0, none⟩)] (encA l) (fun k => k = Be ∨ k = b) (fun xs => xs = List.finRange l.length) l.length w0 := fun n lr Bs J Jx W hW hs hp hJ _hJx hY h0 =>
  all1_in n lr Bs W.heap.size Be b o c l h3 h12 J Jx W (fun s A C h k => hJ s A C h (Ch.of_below k)) hY
    ⟨hr.keep hW, (hW.block Be hb.lt).trans hb, hs, hp Be (.inl rfl), hp b (.inr rfl)⟩ h0
set_option maxHeartbeats 4000000 in
theorem back1_in (n lr : Nat) (Bs : List Nat) (B Be b o c : Nat) (l : List Pt) (h3 : 0 < l.length) (h12 : l.length ≤ 1000000) (J Jx : List (Fin l.length) → World → Prop) (W : World)
    (hJ : ∀ s W W', J s W → Below W.heap.size W W' → J s W')
    (hY : ∀ m pre x W1, J pre W1 → Sane Bs W1 → pre.length < l.length → YieldAt Fence.wide m Tryz.prog lr (encA l x) W1 fun e W' =>
      (e = .returned (.bool true) ∧ J (pre ++ [x]) W' ∧ KO B Bs W1 W') ∨ (e = .returned (.bool false) ∧ Jx (pre ++ [x]) W' ∧ KO B Bs W1 W'))
    (hE : Ev Bs Be b o c l W) (h0 : J [] W) :
    CallsIn Fence.wide n Tryz.prog 78 #[.func (.yield lr) #[] #[], .pointer (some ⟨Be, 0, none⟩)] W fun e W' => (∃ v, e = .returned v) ∧ ((∃ xs, xs = (List.finRange l.length).reverse ∧ J xs W') ∨ (∃ pre, Jx pre W')) := by
  have HJ := Lib.hid hJ; have HY := Lib.hid hY; have HE := Lib.hid hE; have H0 := Lib.hid h0
  have cb := hE.box.cell
  clear hJ hY hE h0
  refine callsIn_of_wp Tryz.func78 rfl trivial ?_ rfl
  simp only [Tryz.ntmps78, List.size_toArray, List.length_cons, List.length_nil, Nat.reduceAdd, Nat.reduceSub, Array.replicate_succ, Array.replicate_zero, List.push_toArray, List.append_toArray, List.nil_append, List.cons_append]
  obtain ⟨nn, hnn⟩ : ∃ nn, nn = l.length := ⟨_, rfl⟩
  rw [← hnn] at h3 h12 cb
  have HNN := Lib.hid hnn
  clear hnn
  gi_wp2
  gi_loopw [3] (fun i wr => ∃ k j : Nat, k + j = nn ∧ i = .int .i64 ((j : Int) - 1) ∧ Hid (J (((List.finRange l.length).reverse).take k) wr) ∧ Hid (Ev Bs Be b o c l wr)) (fun i _ => (intOf i + 1).toNat)
  case atStart => exact ⟨0, nn, by omega, rfl, H0.out, HE.out⟩
  case round =>
    obtain ⟨k, j, hk, rfl, HJk, HEk⟩ := hrel
    clear cb
    cases j with
    | succ j =>
      have ej : ((j + 1 : Nat) : Int) - 1 = (j : Int) := by omega
      rw [ej]
      have hlt : j < nn := by omega
      have hrow := HEk.out.row
      obtain ⟨ckx, ckz⟩ := hrow (j) (by rw [← HNN.out]; omega)
      have hbw := cell_lt ckx
      have cb := HEk.out.box.cell
      have cf := HEk.out.box.frozen
      rw [← HNN.out] at cb
      have hbe := HEk.out.box.lt
      clear hrow
      have hB1 : Below wr.heap.size wr wr := Below.refl _ _
      have J1 := HJ.out _ _ _ HJk.out hB1
      have E1 := HEk.out.below hB1 (by rw [← HNN.out]; exact h3)
      obtain ⟨fn, tmps, assign, body, hy, hR⟩ := HY.out (n - 1) _ ⟨j, by rw [← HNN.out]; omega⟩ _ J1 E1.sane (by rw [List.length_take, List.length_reverse, List.length_finRange, ← HNN.out]; omega)
      unfold encA at hy
      dsimp only at hy
      have hfx := @fin_take_rev l.length k j (by rw [← HNN.out]; exact hk)
      rw [← hfx] at hR
      clear hfx
      have HR := Lib.hid hR
      have HE1 := Lib.hid E1
      clear hR J1 E1 hB1
      have hdp : Fence.wide.depth.isSome = true → 1 ≤ n := fun h => by cases h
      gi_wp2_with (refine ⟨hdp, HR.out.mono ?_⟩; rintro e W3 hW3; rcases hW3 with ⟨rfl, hj3, hk3⟩ | ⟨rfl, hx3, -⟩)
      · have E3 := Lib.hid (HE1.out.ko hk3 (by rw [← HNN.out]; exact h3))
        go_roundw
        case rel => exact ⟨k + 1, j, by omega, by go_num, hj3, E3.out⟩
        case measure => simp [intOf] <;> omega
      · exact bodyPost_ret (results_none rfl _ _ _) rfl ⟨⟨_, rfl⟩, .inr ⟨_, hx3⟩⟩
    | zero =>
      obtain rfl : k = nn := by omega
      gi_wp2
      go_end0
      exact ⟨⟨_, rfl⟩, .inl ⟨_, rfl, by have h := HJk.out; rw [List.take_of_length_le (by rw [List.length_reverse, List.length_finRange, ← HNN.out]; exact Nat.le_refl _)] at h; exact h⟩⟩
theorem back_seq (Be b o c : Nat) (l : List Pt) (w0 : World) (h3 : 0 < l.length) (h12 : l.length ≤ 1000000) (hr : Row w0 b o l) (hb : Boxed w0 Be 24 (.slice (some ⟨b, o, none⟩) l.length c)) :
    SeqX Tryz.prog 78 #[.pointer (some ⟨Be, 0, none⟩)] (encA l) (fun k => k = Be ∨ k = b) (fun xs => xs = (List.finRange l.length).reverse) l.length w0 := fun n lr Bs J Jx W hW hs hp hJ _hJx hY h0 =>
  back1_in n lr Bs W.heap.size Be b o c l h3 h12 J Jx W (fun s A C h k => hJ s A C h (Ch.of_below k)) hY
    ⟨hr.keep hW, (hW.block Be hb.lt).trans hb, hs, hp Be (.inl rfl), hp b (.inr rfl)⟩ h0
end Go.Proofs.YtljmhejljpfaiaaGreat
