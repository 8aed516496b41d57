import Derived.Test.YtljmhejljpfaiaaGreatN
import Derived.Test.YtljmhejljpfaiaaGreatR
namespace Go.Proofs.YtljmhejljpfaiaaGreat
set_option maxRecDepth 100000
set_option maxRecDepth 100000
open Go.RowKit Go.Shelf
attribute [local go_sem] Oper.semAt_some

theorem cell_blk {w : World} {b off : Nat} {v : Value} (h : w.cell? ⟨b, off, none⟩ = some v) : ∃ cur T u, w.heap[b]? = some (.cells cur T u) := by
  unfold World.cell? at h
  dsimp only at h
  split at h
  · rename_i cur T u hb; exact ⟨_, _, _, hb⟩
  · cases h
theorem KO.cell {B : Nat} {Bs : List Nat} {W W' : World} (h : KO B Bs W W') {b off : Nat} {v : Value} (hc : W.cell? ⟨b, off, none⟩ = some v) (h1 : b ∉ Bs) (h2 : ¬ ow Bs W b) : W'.cell? ⟨b, off, none⟩ = some v := by
  obtain ⟨cur, T, u, hb⟩ := cell_blk hc
  rw [cell_same (a := ⟨b, off, none⟩) ((h.cells b cur T u h1 h2 hb).trans hb.symm)]
  exact hc
theorem KO.boxed {B : Nat} {Bs : List Nat} {W W' : World} (h : KO B Bs W W') {b : Nat} {t : TypeId} {v : Value} (hc : Boxed W b t v) (h1 : b ∉ Bs) (h2 : ¬ ow Bs W b) : Boxed W' b t v := h.cells b _ _ _ h1 h2 hc
theorem KO.row {B : Nat} {Bs : List Nat} {W W' : World} (h : KO B Bs W W') {b o : Nat} {l : List Pt} (hr : Row W b o l) (h1 : b ∉ Bs) (h2 : ¬ ow Bs W b) : Row W' b o l := fun i hi => ⟨h.cell (hr i hi).1 h1 h2, h.cell (hr i hi).2 h1 h2⟩
/-- a shape that an iterator reads: the box of its slice, and its row, are not the caller's -/
structure Ed (Bs : List Nat) (Be b o c : Nat) (l : List Pt) (W : World) : Prop where
  row : Row W b o l
  box : Boxed W Be 49 (.slice (some ⟨b, o, none⟩) l.length c)
  sane : Sane Bs W
  nb : Be ∉ Bs ∧ ¬ ow Bs W Be
  nr : b ∉ Bs ∧ ¬ ow Bs W b
theorem Ed.ko {B : Nat} {Bs : List Nat} {Be b o c : Nat} {l : List Pt} {W W' : World} (h : Ed Bs Be b o c l W) (k : KO B Bs W W') (hl : 0 < l.length) : Ed Bs Be b o c l W' :=
  ⟨k.row h.row h.nr.1 h.nr.2, k.boxed h.box h.nb.1 h.nb.2, k.sane h.sane, ⟨h.nb.1, k.own _ h.box.lt h.nb.2⟩, ⟨h.nr.1, k.own _ (h.row.lt hl) h.nr.2⟩⟩
theorem Ed.below {Bs : List Nat} {Be b o c : Nat} {l : List Pt} {W W' : World} (h : Ed Bs Be b o c l W) (k : Below W.heap.size W W') (hl : 0 < l.length) : Ed Bs Be b o c l W' := h.ko (KO.of_below (B := 0) k h.sane) hl
/-- both corners of an edge -/
def enc2 (l : List Pt) (i : Fin l.length) : Array Value := #[.agg #[.int .i64 (px l i.1), .int .i64 (pz l i.1)], .agg #[.int .i64 (px l (nx l.length i.1)), .int .i64 (pz l (nx l.length i.1))]]
theorem fin_take {n : Nat} (k : Nat) (h : k < n) : (List.finRange n).take (k + 1) = (List.finRange n).take k ++ [⟨k, h⟩] := by
  rw [List.take_succ_eq_append_getElem (by simpa using h)]
  simp
set_option maxHeartbeats 2000000 in
theorem edges1_in (n lr : Nat) (Bs : List Nat) (B Be b o c : Nat) (l : List Pt) (h3 : 0 < l.length) (h12 : l.length ≤ 1000000) (J Jx : List (Fin l.length) → World → Prop) (W : World)
    (hJ : ∀ s W W', J s W → Below W.heap.size W W' → J s W')
    (hY : ∀ m pre x W1, J pre W1 → Sane Bs W1 → pre.length < l.length → YieldAt Fence.wide m Tryz.prog lr (enc2 l x) W1 fun e W' =>
      (e = .returned (.bool true) ∧ J (pre ++ [x]) W' ∧ KO B Bs W1 W') ∨ (e = .returned (.bool false) ∧ Jx (pre ++ [x]) W' ∧ KO B Bs W1 W'))
    (hE : Ed Bs Be b o c l W) (h0 : J [] W) :
    CallsIn Fence.wide n Tryz.prog 85 #[.func (.yield lr) #[] #[], .pointer (some ⟨Be, 0, none⟩)] W fun e W' => (∃ v, e = .returned v) ∧ ((∃ xs, xs = List.finRange l.length ∧ J xs W') ∨ (∃ pre, Jx pre W')) := by
  have HJ := Lib.hid hJ; have HY := Lib.hid hY; have HE := Lib.hid hE; have H0 := Lib.hid h0
  have cb := hE.box.cell
  clear hJ hY hE h0
  refine callsIn_of_wp Tryz.func85 rfl trivial ?_ rfl
  simp only [Tryz.ntmps85, List.size_toArray, List.length_cons, List.length_nil, Nat.reduceAdd, Nat.reduceSub, Array.replicate_succ, Array.replicate_zero, List.push_toArray, List.append_toArray, List.nil_append, List.cons_append]
  obtain ⟨nn, hnn⟩ : ∃ nn, nn = l.length := ⟨_, rfl⟩
  rw [← hnn] at h3 h12 cb
  have HNN := Lib.hid hnn
  clear hnn
  gi_wp2
  gi_loopw [7] (fun i wr => ∃ k : Nat, k ≤ nn ∧ i = .int .i64 k ∧ Hid (J ((List.finRange l.length).take k) wr) ∧ Hid (Ed Bs Be b o c l wr)) (fun i _ => nn - (intOf i).toNat)
  case atStart => exact ⟨0, Nat.zero_le _, rfl, H0.out, HE.out⟩
  case round =>
    obtain ⟨k, hk, rfl, HJk, HEk⟩ := hrel
    clear cb
    by_cases hlt : k < nn
    · have hrow := HEk.out.row
      have hj := nx_lt hlt
      obtain ⟨ckx, ckz⟩ := hrow k (by rw [← HNN.out]; exact hlt)
      obtain ⟨cjx, cjz⟩ := hrow (nx nn k) (by rw [← HNN.out]; exact hj)
      have hbw := cell_lt ckx
      have cb := HEk.out.box.cell
      have cf := HEk.out.box.frozen
      rw [← HNN.out] at cb
      have hbe := HEk.out.box.lt
      clear hrow
      have hB1 : Below wr.heap.size wr (wr.alloc (.cells #[.int .i64 (px l k), .int .i64 (pz l k)] 37)).drew := (bl1 wr _).drew
      have J1 := HJ.out _ _ _ HJk.out hB1
      have E1 := HEk.out.below hB1 (by rw [← HNN.out]; exact h3)
      obtain ⟨fn, tmps, assign, body, hy, hR⟩ := HY.out (n - 1) _ ⟨k, by rw [← HNN.out]; exact hlt⟩ _ J1 E1.sane (by rw [List.length_take, List.length_finRange, ← HNN.out]; omega)
      unfold enc2 at hy
      dsimp only at hy
      rw [← HNN.out] at hy
      rw [← fin_take k (by rw [← HNN.out]; exact hlt)] at hR
      have HR := Lib.hid hR
      have HE1 := Lib.hid E1
      clear hR J1 E1 hB1
      gi_wp2_with fail
      have hdp : Fence.wide.depth.isSome = true → 1 ≤ n := fun h => by cases h
      gi_region_with (first | (refine ⟨trivial, hdp, ?_⟩; gi_at_call 61; refine (callsIn_wide.2 (next_any (some ⟨b, o, none⟩) nn c k _ hlt h12)).mono ?_; rintro e w2 ⟨rfl, rfl⟩) | (refine ⟨hdp, HR.out.mono ?_⟩; rintro e W3 hW3; obtain ⟨bv, rfl, H3⟩ : ∃ bv : Bool, e = .returned (.bool bv) ∧ Hid ((bv = true ∧ J (List.take (k + 1) (List.finRange l.length)) W3 ∧ KO B Bs _ W3) ∨ (bv = false ∧ Jx (List.take (k + 1) (List.finRange l.length)) W3 ∧ KO B Bs _ W3)) := hW3.elim (fun h => ⟨true, h.1, .inl ⟨rfl, h.2⟩⟩) (fun h => ⟨false, h.1, .inr ⟨rfl, h.2⟩⟩)))
      all_goals
        rcases H3.out with ⟨rfl, hj3, hk3⟩ | ⟨rfl, hx3, -⟩
        · have E3 := Lib.hid (HE1.out.ko hk3 (by rw [← HNN.out]; exact h3))
          clear hk3 hy
          gi_wp2
          go_roundw
          case rel => exact ⟨k + 1, by omega, by go_num, hj3, E3.out⟩
          case measure => simp [intOf]; omega
        · clear hy
          gi_wp2
          exact bodyPost_ret (results_none rfl _ _ _) rfl ⟨⟨_, rfl⟩, .inr ⟨_, hx3⟩⟩
    · obtain rfl : k = nn := by omega
      gi_wp2
      go_end0
      exact ⟨⟨_, rfl⟩, .inl ⟨_, rfl, by have h := HJk.out; rw [List.take_of_length_le (by rw [List.length_finRange, ← HNN.out]; exact Nat.le_refl _)] at h; exact h⟩⟩
/-- edges hands over the corners of each edge -/
theorem edges_seq (Be b o c : Nat) (l : List Pt) (w0 : World) (h3 : 0 < l.length) (h12 : l.length ≤ 1000000) (hr : Row w0 b o l) (hb : Boxed w0 Be 49 (.slice (some ⟨b, o, none⟩) l.length c)) :
    SeqX Tryz.prog 85 #[.pointer (some ⟨Be, 0, none⟩)] (enc2 l) (fun k => k = Be ∨ k = b) (fun xs => xs = List.finRange l.length) l.length w0 := fun n lr Bs J Jx W hW hs hp hJ _hJx hY h0 =>
  edges1_in n lr Bs W.heap.size Be b o c l h3 h12 J Jx W (fun s A C h k => hJ s A C h (Ch.of_below k)) hY
    ⟨hr.keep hW, (hW.block Be hb.lt).trans hb, hs, hp Be (.inl rfl), hp b (.inr rfl)⟩ h0
end Go.Proofs.YtljmhejljpfaiaaGreat
