import Derived.Test.YtjjomjjgoceklaaE
namespace Go.Proofs.Ytjjomjjgoceklaa
open Go.RowKit

theorem ext_step {x m c h l : Nat} {ws out : List Nat} {k c0 : Nat} (hk : out.length = k) (H : val out + WB ^ k * c = m * val (ws.take k) + c0)
    (E1 : WB * h + l = x * m + c) (hx : ws.getD k 0 = x) :
    val (out ++ [l]) + WB ^ (k + 1) * h = m * val (ws.take (k + 1)) + c0 := by
  rw [val_take_succ, val_snoc, hk, hx]
  have e : WB ^ (k + 1) * h = WB ^ k * (WB * h) := by rw [Nat.pow_succ, Nat.mul_assoc]
  have e2 : WB ^ k * (WB * h) + WB ^ k * l = WB ^ k * (x * m) + WB ^ k * c := by rw [← Nat.mul_add, E1, Nat.mul_add]
  have e3 : m * (val (ws.take k) + WB ^ k * x) = m * val (ws.take k) + WB ^ k * (x * m) := by
    rw [Nat.mul_add, Nat.mul_left_comm, Nat.mul_comm m x]
  omega

set_option maxRecDepth 100000 in
theorem extend_any (v : Value) (ws : List Nat) (m c0 : Nat) (w : World) (h : Sl w v ws) (hl : ws.length ≤ 4000) (hm : Wd m) (hc0 : Wd c0) :
    Calls Try.prog 91 #[v, .int .u64 (m : Int), .int .u64 (c0 : Int)] w fun e w' => ∃ l, Wds l ∧ val l = m * val ws + c0 ∧ PSn (norm l) w e w' := by
  have hws := h.1
  obtain ⟨p, cw, rfl, hg⟩ := h.opened' w.heap.size (Nat.le_refl _)
  have hmk := mk_words1 ws.length hl
  have WS := Lib.hid hws
  have HG := Lib.hid hg
  clear h hws hg
  go_enter Try.func91, Try.ntmps91
  go_wp2
  clear hmk
  go_loopw [2, 16] (fun c i wr => ∃ (k cc : Nat) (out : List Nat), k ≤ ws.length ∧ i = .int .i64 k ∧ Wd cc ∧ c = .int .u64 cc ∧ Hid (out.length = k) ∧ Wds out ∧ wr.rowIs w.heap.size 24 (ws.length + 1) (wf out) ∧ Below w.heap.size w wr ∧
    Hid (val out + WB ^ k * cc = m * val (ws.take k) + c0)) (fun _ i _ => ws.length - (intOf i).toNat)
  case atStart => exact ⟨0, c0, [], Nat.zero_le _, rfl, hc0, rfl, rfl, Wds.nil, row_new _ _, (Below.refl _ _).alloc (Nat.le_refl _) _, by show _ = _; simp [val]⟩
  case round =>
    obtain ⟨k, cc, out, hk, rfl, hcc, rfl, HL, hw, hr, hbel, HV⟩ := hrel
    by_cases hlt : k < ws.length
    · obtain ⟨b, o, rfl, hbg, hbl, hcell⟩ := HG.out k hlt
      have wx := WS.out.getD k
      generalize hx : ws.getD k 0 = x at *
      have HX := Lib.hid hx
      clear hx
      have c1 := (hbel.cell (p := ⟨b, o + k, none⟩) hbl).trans hcell
      have c3 := hr.cell (i := k) (by omega)
      have c4 := hr.frozen k
      clear hcell
      go_wp2_with fail
      refine (timesPlus_any x m cc wx hm hcc _).mono ?_
      rintro e w' ⟨rfl, h, l, rfl, hl1, hh, E1⟩
      have hr2 := row_push hr l
      rw [HL.out] at hr2
      go_wp2
      go_roundw
      case rel => exact ⟨k + 1, h, out ++ [l], by omega, by go_num, hh, rfl, by show _ = _; simp [HL.out], hw.snoc hl1, hr2, hbel.setCell (Nat.le_refl _) _, ext_step HL.out HV.out E1.out HX.out⟩
      case measure => simp [intOf]; omega
    · obtain rfl : k = ws.length := by omega
      have c3 := hr.cell (i := ws.length) (by omega)
      have c4 := hr.frozen ws.length
      have hr2 := row_push hr cc
      rw [HL.out] at hr2
      have hb2 := hbel.setCell (p := ⟨w.heap.size, ws.length, none⟩) (Nat.le_refl _) (.int .u64 (cc : Int))
      have hsl := Sl.of_row hr2 (by simp [HL.out]) (hw.snoc hcc) (by omega) (Nat.le_refl _)
      go_wp2_with (go_at_call 97; refine (trim_any _ _ _ hsl).mono ?_; rintro e w' ⟨rfl, v', rfl, hv'⟩)
      go_ret
      refine ⟨_, hw.snoc hcc, ?_, hb2, _, rfl, hv'⟩
      have hv := HV.out
      rw [List.take_length] at hv
      rw [val_snoc, HL.out]; exact hv

/-! digits -/
/-- v is a digits value that stands for n -/
def Dg (w : World) (v : Value) (n : Nat) : Prop :=
  (Wd n ∧ v = .agg #[.int .u64 (n : Int), .pointer none]) ∨
  ∃ (b : Nat) (sv : Value) (ws : List Nat), v = .agg #[.int .u64 0, .pointer (some ⟨b, 0, none⟩)] ∧ b < w.heap.size ∧ w.cell? ⟨b, 0, none⟩ = some sv ∧ Sl w sv ws ∧ Nrm ws ∧ 2 ≤ ws.length ∧ n = val ws
theorem Dg.keep {w w' : World} {v : Value} {n B : Nat} (h : Dg w v n) (hb : Below B w w') (hB : w.heap.size ≤ B) : Dg w' v n := by
  rcases h with h | ⟨b, sv, ws, h1, h2, h3, h4, h5, h6, h7⟩
  · exact .inl h
  · exact .inr ⟨b, sv, ws, h1, Nat.lt_of_lt_of_le h2 hb.size, (hb.cell (p := ⟨b, 0, none⟩) (Nat.lt_of_lt_of_le h2 hB)).trans h3, h4.keep hb hB, h5, h6, h7⟩
/-- a call that returns digits of n in new memory -/
def PDg (n : Nat) (w : World) (e : Ending) (w' : World) : Prop := Below w.heap.size w w' ∧ ∃ v, e = .returned v ∧ Dg w' v n

theorem sl_len1 {w : World} {v : Value} {x : Nat} (h : Sl w v [x]) : ∃ b o cap, v = .slice (some ⟨b, o, none⟩) 1 cap ∧ b < w.heap.size ∧ w.cell? ⟨b, o, none⟩ = some (.int .u64 (x : Int)) := by
  obtain ⟨p, cap, rfl, _, hg⟩ := h.opened
  obtain ⟨b, o, rfl, h1, h2⟩ := hg 0 (by simp)
  exact ⟨b, o, cap, rfl, h1, h2⟩
theorem bl1 (w : World) (x : Obj) : Below w.heap.size w (w.alloc x) := (Below.refl _ _).alloc (Nat.le_refl _) _
theorem bl2 (w : World) (x y : Obj) : Below w.heap.size w ((w.alloc x).alloc y) := (bl1 w x).alloc (by simp) _
theorem bl3 (w : World) (x y z : Obj) : Below w.heap.size w (((w.alloc x).alloc y).alloc z) := (bl2 w x y).alloc (by simp; omega) _
theorem Below.thru {B : Nat} {a W w1 : World} (h : Below B a W) (hB : B ≤ W.heap.size) (k : Below W.heap.size W w1) : Below B a w1 := h.trans (k.mono hB)
theorem cell_alloc_new1 (w : World) (v : Value) (t : TypeId) : (w.alloc (.cells #[v] t)).cell? ⟨w.heap.size, 0, none⟩ = some v := by
  have h := Go.Deep.blk_alloc_new w (.cells #[v] t)
  unfold World.cell?
  rw [h]; rfl
theorem digitsOf_any (v : Value) (ws : List Nat) (w : World) (h : Sl w v ws) (hn : Nrm ws) : Calls Try.prog 79 #[v] w (PDg (val ws) w) := by
  match ws, h, hn with
  | [], h, _ =>
    obtain ⟨p, cap, rfl, _, _⟩ := h.opened
    clear h
    go_enter Try.func79, Try.ntmps79
    go_wp2
    exact bodyPost_ret (v := .agg #[.int .u64 0, .pointer none]) (by simp [results, Try.results79, go_sem]) rfl ⟨bl1 _ _, _, rfl, .inl ⟨Wd.zero, rfl⟩⟩
  | [x], h, _ =>
    have hx : Wd x := h.1 x List.mem_cons_self
    obtain ⟨b, o, cap, rfl, hlt, hc⟩ := sl_len1 h
    clear h
    go_enter Try.func79, Try.ntmps79
    go_wp2
    exact bodyPost_ret (v := .agg #[.int .u64 x, .pointer none]) (by simp [results, Try.results79, go_sem]) rfl ⟨bl1 _ _, _, rfl, .inl ⟨by simpa [val] using hx, by simp [val]⟩⟩
  | x :: y :: r, h, hn =>
    have H := Lib.hid h
    obtain ⟨p, cap, rfl, _, _⟩ := h.opened
    clear h
    go_enter Try.func79, Try.ntmps79
    go_wp2
    refine bodyPost_ret (v := .agg #[.int .u64 0, .pointer (some ⟨w.heap.size + 1, 0, none⟩)]) (by simp [results, Try.results79, go_sem]) rfl
      ⟨bl2 _ _ _, _, rfl, .inr ⟨_, _, x :: y :: r, rfl, by simp, by have := cell_alloc_new1 (w.alloc (.cells #[.int .u64 0, .pointer (some ⟨w.heap.size + 1, 0, none⟩)] 27)) (.slice p (r.length + 1 + 1) cap) 102; rw [World.size_alloc] at this; exact this, H.out.keep (bl2 _ _ _) (Nat.le_refl _), hn, by simp, rfl⟩⟩
/-- the two cells of a boxed digits value -/
abbrev box2 (a b : Value) : Obj := .cells #[a, b] 27
theorem bcell {W w1 : World} (hb : Below W.heap.size W w1) : (∀ b o, b < W.heap.size → w1.cell? ⟨b, o, none⟩ = W.cell? ⟨b, o, none⟩) ∧ (∀ b o, b < W.heap.size → w1.frozen? ⟨b, o, none⟩ = W.frozen? ⟨b, o, none⟩) :=
  ⟨fun b o h => hb.cell (p := ⟨b, o, none⟩) h, fun b o h => hb.frozen (p := ⟨b, o, none⟩) h⟩
theorem isSmall_small (n : Int) (w : World) :
    Calls Try.prog 47 #[.agg #[.int .u64 n, .pointer none]] w fun e w' => e = .returned (.bool true) ∧ w' = w.alloc (.cells #[.int .u64 n, .pointer none] 27) := by
  go_enter Try.func47, Try.ntmps47
  go_wp2
  go_ret
  exact ⟨rfl, rfl⟩
theorem isSmall_big (n : Int) (a : Addr) (w : World) :
    Calls Try.prog 47 #[.agg #[.int .u64 n, .pointer (some a)]] w fun e w' => e = .returned (.bool false) ∧ w' = w.alloc (.cells #[.int .u64 n, .pointer (some a)] 27) := by
  go_enter Try.func47, Try.ntmps47
  go_wp2
  go_ret
  exact ⟨rfl, rfl⟩
theorem isZero_zero (w : World) :
    Calls Try.prog 57 #[.agg #[.int .u64 0, .pointer none]] w fun e w' => e = .returned (.bool true) ∧ w' = (w.alloc (.cells #[.int .u64 0, .pointer none] 27)).alloc (.cells #[.int .u64 0, .pointer none] 27) := by
  go_enter Try.func57, Try.ntmps57
  go_wp2_with (go_at_call 47; refine (isSmall_small _ _).mono ?_; rintro e w1 ⟨rfl, rfl⟩)
  go_ret
  exact ⟨rfl, rfl⟩
theorem isZero_small (n : Nat) (hn : n ≠ 0) (w : World) :
    Calls Try.prog 57 #[.agg #[.int .u64 (n : Int), .pointer none]] w fun e w' => e = .returned (.bool false) ∧ w' = (w.alloc (.cells #[.int .u64 (n : Int), .pointer none] 27)).alloc (.cells #[.int .u64 (n : Int), .pointer none] 27) := by
  have h : ((n : Int) == 0) = false := by rw [beq_eq_false_iff_ne]; omega
  clear hn
  go_enter Try.func57, Try.ntmps57
  go_wp2_with (go_at_call 47; refine (isSmall_small _ _).mono ?_; rintro e w1 ⟨rfl, rfl⟩)
  go_ret
  exact ⟨rfl, rfl⟩
theorem isZero_big (n : Int) (a : Addr) (w : World) :
    Calls Try.prog 57 #[.agg #[.int .u64 n, .pointer (some a)]] w fun e w' => e = .returned (.bool false) ∧ w' = (w.alloc (.cells #[.int .u64 n, .pointer (some a)] 27)).alloc (.cells #[.int .u64 n, .pointer (some a)] 27) := by
  go_enter Try.func57, Try.ntmps57
  go_wp2_with (go_at_call 47; refine (isSmall_big _ _ _).mono ?_; rintro e w1 ⟨rfl, rfl⟩)
  go_ret
  exact ⟨rfl, rfl⟩
theorem isOne_one (w : World) :
    Calls Try.prog 74 #[.agg #[.int .u64 1, .pointer none]] w fun e w' => e = .returned (.bool true) ∧ w' = (w.alloc (.cells #[.int .u64 1, .pointer none] 27)).alloc (.cells #[.int .u64 1, .pointer none] 27) := by
  go_enter Try.func74, Try.ntmps74
  go_wp2_with (go_at_call 47; refine (isSmall_small _ _).mono ?_; rintro e w1 ⟨rfl, rfl⟩)
  go_ret
  exact ⟨rfl, rfl⟩
theorem isOne_small (n : Nat) (hn : n ≠ 1) (w : World) :
    Calls Try.prog 74 #[.agg #[.int .u64 (n : Int), .pointer none]] w fun e w' => e = .returned (.bool false) ∧ w' = (w.alloc (.cells #[.int .u64 (n : Int), .pointer none] 27)).alloc (.cells #[.int .u64 (n : Int), .pointer none] 27) := by
  have h : ((n : Int) == 1) = false := by rw [beq_eq_false_iff_ne]; omega
  clear hn
  go_enter Try.func74, Try.ntmps74
  go_wp2_with (go_at_call 47; refine (isSmall_small _ _).mono ?_; rintro e w1 ⟨rfl, rfl⟩)
  go_ret
  exact ⟨rfl, rfl⟩
theorem isOne_big (n : Int) (a : Addr) (w : World) :
    Calls Try.prog 74 #[.agg #[.int .u64 n, .pointer (some a)]] w fun e w' => e = .returned (.bool false) ∧ w' = (w.alloc (.cells #[.int .u64 n, .pointer (some a)] 27)).alloc (.cells #[.int .u64 n, .pointer (some a)] 27) := by
  go_enter Try.func74, Try.ntmps74
  go_wp2_with (go_at_call 47; refine (isSmall_big _ _ _).mono ?_; rintro e w1 ⟨rfl, rfl⟩)
  go_ret
  exact ⟨rfl, rfl⟩
/-- whether digits are 0: one contract for all shapes -/
theorem isZero_any {v : Value} {n : Nat} (w : World) (h : Dg w v n) : Calls Try.prog 57 #[v] w fun e w' => e = .returned (.bool (decide (n = 0))) ∧ ∃ c t, w' = (w.alloc (.cells c t)).alloc (.cells c t) := by
  rcases h with ⟨_, rfl⟩ | ⟨b, sv, ws, rfl, h2, h3, h4, h5, h6, h7⟩
  · by_cases hz : n = 0
    · subst hz
      exact (isZero_zero w).mono fun e w' ⟨h1, h2⟩ => ⟨by rw [h1]; rfl, _, _, h2⟩
    · exact (isZero_small n hz w).mono fun e w' ⟨h1, h2⟩ => ⟨by rw [h1]; simp [hz], _, _, h2⟩
  · have hz : n ≠ 0 := by
      have := val_ge ws h5 (by intro e; rw [e] at h6; simp at h6)
      have : 0 < WB ^ (ws.length - 1) := Nat.pow_pos WB_pos
      omega
    exact (isZero_big _ _ w).mono fun e w' ⟨h1, h2⟩ => ⟨by rw [h1]; simp [hz], _, _, h2⟩
end Go.Proofs.Ytjjomjjgoceklaa
