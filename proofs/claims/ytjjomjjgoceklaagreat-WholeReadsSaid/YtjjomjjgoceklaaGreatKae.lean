import Derived.Test.YtjjomjjgoceklaaGreatKad
import Derived.Deep.RegionHeld3
namespace Go.Proofs.YtjjomjjgoceklaaGreat
set_option maxRecDepth 100000
open Go.RowKit

theorem ext_step {x m c h l : Nat} {ws out : List Nat} {k c0 : Nat} (hk : out.length = k) (H : val out + WB ^ k * c = m * val (ws.take k) + c0)
    (E1 : WB * h + l = x * m + c) (hx : ws.getD k 0 = x) :
    val (out ++ [l]) + WB ^ (k + 1) * h = m * val (ws.take (k + 1)) + c0 := by
  rw [val_take_succ, val_snoc, hk, hx]
  have e : WB ^ (k + 1) * h = WB ^ k * (WB * h) := by rw [Nat.pow_succ, Nat.mul_assoc]
  have e2 : WB ^ k * (WB * h) + WB ^ k * l = WB ^ k * (x * m) + WB ^ k * c := by rw [← Nat.mul_add, E1, Nat.mul_add]
  have e3 : m * (val (ws.take k) + WB ^ k * x) = m * val (ws.take k) + WB ^ k * (x * m) := by
    rw [Nat.mul_add, Nat.mul_left_comm, Nat.mul_comm m x]
  omega

set_option maxRecDepth 100000 in
theorem extend_any (v : Value) (ws : List Nat) (m c0 : Nat) (w : World) (h : Sl w v ws) (hl : ws.length ≤ 4000) (hm : Wd m) (hc0 : Wd c0) :
    Calls Tryz.prog 121 #[v, .int .u64 (m : Int), .int .u64 (c0 : Int)] w fun e w' => ∃ l, Wds l ∧ val l = m * val ws + c0 ∧ PSn (norm l) w e w' := by
  have hws := h.1
  obtain ⟨p, cw, rfl, hg⟩ := h.opened' w.heap.size (Nat.le_refl _)
  have hmk := mk_words1 ws.length hl
  have WS := Lib.hid hws
  have HG := Lib.hid hg
  clear h hws hg
  go_enter Tryz.func121, Tryz.ntmps121
  go_wp2
  clear hmk
  go_loopw [2, 16] (fun c i wr => ∃ (k cc : Nat) (out : List Nat), k ≤ ws.length ∧ i = .int .i64 k ∧ Wd cc ∧ c = .int .u64 cc ∧ Hid (out.length = k) ∧ Wds out ∧ wr.rowIs w.heap.size 23 (ws.length + 1) (wf out) ∧ Below w.heap.size w wr ∧
    Hid (val out + WB ^ k * cc = m * val (ws.take k) + c0)) (fun _ i _ => ws.length - (intOf i).toNat)
  case atStart => exact ⟨0, c0, [], Nat.zero_le _, rfl, hc0, rfl, rfl, Wds.nil, row_new _ _, (Below.refl _ _).alloc (Nat.le_refl _) _, by show _ = _; simp [val]⟩
  case round =>
    obtain ⟨k, cc, out, hk, rfl, hcc, rfl, HL, hw, hr, hbel, HV⟩ := hrel
    by_cases hlt : k < ws.length
    · obtain ⟨b, o, rfl, hbg, hbl, hcell⟩ := HG.out k hlt
      have wx := WS.out.getD k
      generalize hx : ws.getD k 0 = x at *
      have HX := Lib.hid hx
      clear hx
      have c1 := (hbel.cell (p := ⟨b, o + k, none⟩) hbl).trans hcell
      have c3 := hr.cell (i := k) (by omega)
      have c4 := hr.frozen k
      clear hcell
      go_wp2_with fail
      refine (timesPlus_any x m cc wx hm hcc _).mono ?_
      rintro e w' ⟨rfl, h, l, rfl, hl1, hh, E1⟩
      have hr2 := row_push hr l
      rw [HL.out] at hr2
      go_wp2
      go_roundw
      case rel => exact ⟨k + 1, h, out ++ [l], by omega, by go_num, hh, rfl, by show _ = _; simp [HL.out], hw.snoc hl1, hr2, hbel.setCell (Nat.le_refl _) _, ext_step HL.out HV.out E1.out HX.out⟩
      case measure => simp [intOf]; omega
    · obtain rfl : k = ws.length := by omega
      have c3 := hr.cell (i := ws.length) (by omega)
      have c4 := hr.frozen ws.length
      have hr2 := row_push hr cc
      rw [HL.out] at hr2
      have hb2 := hbel.setCell (p := ⟨w.heap.size, ws.length, none⟩) (Nat.le_refl _) (.int .u64 (cc : Int))
      have hsl := Sl.of_row hr2 (by simp [HL.out]) (hw.snoc hcc) (by omega) (Nat.le_refl _)
      go_wp2_with (go_at_call 143; refine (trim_any _ _ _ hsl).mono ?_; rintro e w' ⟨rfl, v', rfl, hv'⟩)
      go_ret
      refine ⟨_, hw.snoc hcc, ?_, hb2, _, rfl, hv'⟩
      have hv := HV.out
      rw [List.take_length] at hv
      rw [val_snoc, HL.out]; exact hv

/-! digits -/
/-- v is a digits value that stands for n -/
def Dg (w : World) (v : Value) (n : Nat) : Prop :=
  (Wd n ∧ v = .agg #[.int .u64 (n : Int), .pointer none]) ∨
  ∃ (b : Nat) (sv : Value) (ws : List Nat), v = .agg #[.int .u64 0, .pointer (some ⟨b, 0, none⟩)] ∧ b < w.heap.size ∧ w.cell? ⟨b, 0, none⟩ = some sv ∧ Sl w sv ws ∧ Nrm ws ∧ 2 ≤ ws.length ∧ n = val ws
theorem Dg.keep {w w' : World} {v : Value} {n B : Nat} (h : Dg w v n) (hb : Below B w w') (hB : w.heap.size ≤ B) : Dg w' v n := by
  rcases h with h | ⟨b, sv, ws, h1, h2, h3, h4, h5, h6, h7⟩
  · exact .inl h
  · exact .inr ⟨b, sv, ws, h1, Nat.lt_of_lt_of_le h2 hb.size, (hb.cell (p := ⟨b, 0, none⟩) (Nat.lt_of_lt_of_le h2 hB)).trans h3, h4.keep hb hB, h5, h6, h7⟩
/-- a call that returns digits of n in new memory -/
def PDg (n : Nat) (w : World) (e : Ending) (w' : World) : Prop := Below w.heap.size w w' ∧ ∃ v, e = .returned v ∧ Dg w' v n

theorem sl_len1 {w : World} {v : Value} {x : Nat} (h : Sl w v [x]) : ∃ b o cap, v = .slice (some ⟨b, o, none⟩) 1 cap ∧ b < w.heap.size ∧ w.cell? ⟨b, o, none⟩ = some (.int .u64 (x : Int)) := by
  obtain ⟨p, cap, rfl, _, hg⟩ := h.opened
  obtain ⟨b, o, rfl, h1, h2⟩ := hg 0 (by simp)
  exact ⟨b, o, cap, rfl, h1, h2⟩
theorem bl1 (w : World) (x : Obj) : Below w.heap.size w (w.alloc x) := (Below.refl _ _).alloc (Nat.le_refl _) _
theorem bl2 (w : World) (x y : Obj) : Below w.heap.size w ((w.alloc x).alloc y) := (bl1 w x).alloc (by simp) _
theorem bl3 (w : World) (x y z : Obj) : Below w.heap.size w (((w.alloc x).alloc y).alloc z) := (bl2 w x y).alloc (by simp; omega) _
theorem Below.thru {B : Nat} {a W w1 : World} (h : Below B a W) (hB : B ≤ W.heap.size) (k : Below W.heap.size W w1) : Below B a w1 := h.trans (k.mono hB)
theorem cell_alloc_new1 (w : World) (v : Value) (t : TypeId) : (w.alloc (.cells #[v] t)).cell? ⟨w.heap.size, 0, none⟩ = some v := by
  have h := Go.Deep.blk_alloc_new w (.cells #[v] t)
  unfold World.cell?
  rw [h]; rfl
theorem digitsOf_any (v : Value) (ws : List Nat) (w : World) (h : Sl w v ws) (hn : Nrm ws) : Calls Tryz.prog 122 #[v] w (PDg (val ws) w) := by
  match ws, h, hn with
  | [], h, _ =>
    obtain ⟨p, cap, rfl, _, _⟩ := h.opened
    clear h
    go_enter Tryz.func122, Tryz.ntmps122
    go_wp2
    exact bodyPost_ret (v := .agg #[.int .u64 0, .pointer none]) (by simp [results, Tryz.results122, go_sem]) rfl ⟨bl1 _ _, _, rfl, .inl ⟨Wd.zero, rfl⟩⟩
  | [x], h, _ =>
    have hx : Wd x := h.1 x List.mem_cons_self
    obtain ⟨b, o, cap, rfl, hlt, hc⟩ := sl_len1 h
    clear h
    go_enter Tryz.func122, Tryz.ntmps122
    go_wp2
    exact bodyPost_ret (v := .agg #[.int .u64 x, .pointer none]) (by simp [results, Tryz.results122, go_sem]) rfl ⟨bl1 _ _, _, rfl, .inl ⟨by simpa [val] using hx, by simp [val]⟩⟩
  | x :: y :: r, h, hn =>
    have H := Lib.hid h
    obtain ⟨p, cap, rfl, _, _⟩ := h.opened
    clear h
    go_enter Tryz.func122, Tryz.ntmps122
    go_wp2
    refine bodyPost_ret (v := .agg #[.int .u64 0, .pointer (some ⟨w.heap.size + 1, 0, none⟩)]) (by simp [results, Tryz.results122, go_sem]) rfl
      ⟨bl2 _ _ _, _, rfl, .inr ⟨_, _, x :: y :: r, rfl, by simp, by have := cell_alloc_new1 (w.alloc (.cells #[.int .u64 0, .pointer (some ⟨w.heap.size + 1, 0, none⟩)] 26)) (.slice p (r.length + 1 + 1) cap) 138; rw [World.size_alloc] at this; exact this, H.out.keep (bl2 _ _ _) (Nat.le_refl _), hn, by simp, rfl⟩⟩
theorem bcell {W w1 : World} (hb : Below W.heap.size W w1) : (∀ b o, b < W.heap.size → w1.cell? ⟨b, o, none⟩ = W.cell? ⟨b, o, none⟩) ∧ (∀ b o, b < W.heap.size → w1.frozen? ⟨b, o, none⟩ = W.frozen? ⟨b, o, none⟩) :=
  ⟨fun b o h => hb.cell (p := ⟨b, o, none⟩) h, fun b o h => hb.frozen (p := ⟨b, o, none⟩) h⟩
theorem isSmall_small (n : Int) (w : World) :
    Calls Tryz.prog 123 #[.agg #[.int .u64 n, .pointer none]] w fun e w' => e = .returned (.bool true) ∧ w' = w.alloc (.cells #[.int .u64 n, .pointer none] 26) := by
  go_enter Tryz.func123, Tryz.ntmps123
  go_wp2
  go_ret
  exact ⟨rfl, rfl⟩
theorem isSmall_big (n : Int) (a : Addr) (w : World) :
    Calls Tryz.prog 123 #[.agg #[.int .u64 n, .pointer (some a)]] w fun e w' => e = .returned (.bool false) ∧ w' = w.alloc (.cells #[.int .u64 n, .pointer (some a)] 26) := by
  go_enter Tryz.func123, Tryz.ntmps123
  go_wp2
  go_ret
  exact ⟨rfl, rfl⟩
theorem isZero_zero (w : World) :
    Calls Tryz.prog 89 #[.agg #[.int .u64 0, .pointer none]] w fun e w' => e = .returned (.bool true) ∧ w' = (w.alloc (.cells #[.int .u64 0, .pointer none] 26)).alloc (.cells #[.int .u64 0, .pointer none] 26) := by
  go_enter Tryz.func89, Tryz.ntmps89
  go_wp2_with (go_at_call 123; refine (isSmall_small _ _).mono ?_; rintro e w1 ⟨rfl, rfl⟩)
  go_ret
  exact ⟨rfl, rfl⟩
theorem isZero_small (n : Nat) (hn : n ≠ 0) (w : World) :
    Calls Tryz.prog 89 #[.agg #[.int .u64 (n : Int), .pointer none]] w fun e w' => e = .returned (.bool false) ∧ w' = (w.alloc (.cells #[.int .u64 (n : Int), .pointer none] 26)).alloc (.cells #[.int .u64 (n : Int), .pointer none] 26) := by
  have h : ((n : Int) == 0) = false := by rw [beq_eq_false_iff_ne]; omega
  clear hn
  go_enter Tryz.func89, Tryz.ntmps89
  go_wp2_with (go_at_call 123; refine (isSmall_small _ _).mono ?_; rintro e w1 ⟨rfl, rfl⟩)
  go_ret
  exact ⟨rfl, rfl⟩
theorem isZero_big (n : Int) (a : Addr) (w : World) :
    Calls Tryz.prog 89 #[.agg #[.int .u64 n, .pointer (some a)]] w fun e w' => e = .returned (.bool false) ∧ w' = (w.alloc (.cells #[.int .u64 n, .pointer (some a)] 26)).alloc (.cells #[.int .u64 n, .pointer (some a)] 26) := by
  go_enter Tryz.func89, Tryz.ntmps89
  go_wp2_with (go_at_call 123; refine (isSmall_big _ _ _).mono ?_; rintro e w1 ⟨rfl, rfl⟩)
  go_ret
  exact ⟨rfl, rfl⟩
theorem isOne_one (w : World) :
    Calls Tryz.prog 119 #[.agg #[.int .u64 1, .pointer none]] w fun e w' => e = .returned (.bool true) ∧ w' = (w.alloc (.cells #[.int .u64 1, .pointer none] 26)).alloc (.cells #[.int .u64 1, .pointer none] 26) := by
  go_enter Tryz.func119, Tryz.ntmps119
  go_wp2_with (go_at_call 123; refine (isSmall_small _ _).mono ?_; rintro e w1 ⟨rfl, rfl⟩)
  go_ret
  exact ⟨rfl, rfl⟩
theorem isOne_small (n : Nat) (hn : n ≠ 1) (w : World) :
    Calls Tryz.prog 119 #[.agg #[.int .u64 (n : Int), .pointer none]] w fun e w' => e = .returned (.bool false) ∧ w' = (w.alloc (.cells #[.int .u64 (n : Int), .pointer none] 26)).alloc (.cells #[.int .u64 (n : Int), .pointer none] 26) := by
  have h : ((n : Int) == 1) = false := by rw [beq_eq_false_iff_ne]; omega
  clear hn
  go_enter Tryz.func119, Tryz.ntmps119
  go_wp2_with (go_at_call 123; refine (isSmall_small _ _).mono ?_; rintro e w1 ⟨rfl, rfl⟩)
  go_ret
  exact ⟨rfl, rfl⟩
theorem isOne_big (n : Int) (a : Addr) (w : World) :
    Calls Tryz.prog 119 #[.agg #[.int .u64 n, .pointer (some a)]] w fun e w' => e = .returned (.bool false) ∧ w' = (w.alloc (.cells #[.int .u64 n, .pointer (some a)] 26)).alloc (.cells #[.int .u64 n, .pointer (some a)] 26) := by
  go_enter Tryz.func119, Tryz.ntmps119
  go_wp2_with (go_at_call 123; refine (isSmall_big _ _ _).mono ?_; rintro e w1 ⟨rfl, rfl⟩)
  go_ret
  exact ⟨rfl, rfl⟩
/-- whether digits are 0: one contract for all shapes -/
theorem isZero_any {v : Value} {n : Nat} (w : World) (h : Dg w v n) : Calls Tryz.prog 89 #[v] w fun e w' => e = .returned (.bool (decide (n = 0))) ∧ ∃ c t, w' = (w.alloc (.cells c t)).alloc (.cells c t) := by
  rcases h with ⟨_, rfl⟩ | ⟨b, sv, ws, rfl, h2, h3, h4, h5, h6, h7⟩
  · by_cases hz : n = 0
    · subst hz
      exact (isZero_zero w).mono fun e w' ⟨h1, h2⟩ => ⟨by rw [h1]; rfl, _, _, h2⟩
    · exact (isZero_small n hz w).mono fun e w' ⟨h1, h2⟩ => ⟨by rw [h1]; simp [hz], _, _, h2⟩
  · have hz : n ≠ 0 := by
      have := val_ge ws h5 (by intro e; rw [e] at h6; simp at h6)
      have : 0 < WB ^ (ws.length - 1) := Nat.pow_pos WB_pos
      omega
    exact (isZero_big _ _ w).mono fun e w' ⟨h1, h2⟩ => ⟨by rw [h1]; simp [hz], _, _, h2⟩
end Go.Proofs.YtjjomjjgoceklaaGreat
namespace Go.Proofs.YtjjomjjgoceklaaGreat
set_option maxRecDepth 100000
open Go.RowKit

def PWs (n : Nat) (w : World) (e : Ending) (w' : World) : Prop := Below w.heap.size w w' ∧ ∃ v' ws, e = .returned v' ∧ Sl w' v' ws ∧ Nrm ws ∧ val ws = n
theorem words_any (v : Value) (n : Nat) (w : World) (h : Dg w v n) : Calls Tryz.prog 133 #[v] w (PWs n w) := by
  rcases h with ⟨hn, rfl⟩ | ⟨b, sv, ws, rfl, h2, h3, h4, h5, h6, h7⟩
  · by_cases hz : n = 0
    · subst hz
      go_enter Tryz.func133, Tryz.ntmps133
      go_wp2
      go_ret
      exact ⟨bl1 _ _, _, [], rfl, ⟨Wds.nil, by simp, .inl ⟨rfl, rfl⟩⟩, by simp [Nrm], rfl⟩
    · have h : ((n : Int) == 0) = false := by rw [beq_eq_false_iff_ne]; omega
      have HZ := Lib.hid hz
      clear hz
      go_enter Tryz.func133, Tryz.ntmps133
      go_wp2
      go_ret
      refine ⟨bl2 _ _ _, _, [n], rfl, ⟨?_, by simp, .inr ⟨w.heap.size + 1, 0, 1, rfl, by simp, by simp, ?_⟩⟩, by simp [Nrm, HZ.out], by simp [val]⟩
      · intro x hx; simp only [List.mem_singleton] at hx; rw [hx]; exact hn
      · intro i hi
        have : i = 0 := by simp at hi; omega
        subst this
        have := cell_alloc_new1 (w.alloc (.cells #[.int .u64 (n : Int), .pointer none] 26)) (.int .u64 (n : Int)) 23
        rw [World.size_alloc] at this
        simp at this ⊢
  · have HS := Lib.hid h4; have HV := Lib.hid h7
    clear h4 h7
    obtain ⟨p, cap, rfl, _, _⟩ := HS.out.opened
    go_enter Tryz.func133, Tryz.ntmps133
    go_wp2
    go_ret
    exact ⟨bl1 _ _, _, ws, rfl, HS.out.keep (bl1 _ _) (Nat.le_refl _), h5, HV.out.symm⟩

theorem nrm_len {ws : List Nat} {n k : Nat} (h : Nrm ws) (hv : val ws = n) (hn : n < WB ^ k) : ws.length ≤ k := by
  by_cases he : ws = []
  · subst he; simp
  · have h1 := val_ge ws h he
    rcases Nat.lt_or_ge k ws.length with h2 | h2
    · have h3 : WB ^ k ≤ WB ^ (ws.length - 1) := Nat.pow_le_pow_right WB_pos (by omega)
      omega
    · exact h2
theorem Dg.agg {w : World} {v : Value} {n : Nat} (h : Dg w v n) : ∃ (x : Int) (p : Option Addr), v = .agg #[.int .u64 x, .pointer p] := by
  rcases h with ⟨_, rfl⟩ | ⟨_, _, _, rfl, _⟩
  · exact ⟨_, _, rfl⟩
  · exact ⟨_, _, rfl⟩
/-- a number of at most 1000 words -/
def Sz (n : Nat) : Prop := ∃ k, k ≤ 1000 ∧ n < WB ^ k
theorem Sz.len {n : Nat} {ws : List Nat} (hn : Sz n) (h : Nrm ws) (hv : val ws = n) : ws.length ≤ 1000 := by
  obtain ⟨k, hk, h1⟩ := hn
  exact Nat.le_trans (nrm_len h hv h1) hk
/-- the four cells of two boxes at B and B + 1 -/
def Bx (B : Nat) (x y z t : Value) (w : World) : Prop := w.cell? ⟨B, 0, none⟩ = some x ∧ w.cell? ⟨B, 1, none⟩ = some y ∧ w.cell? ⟨B + 1, 0, none⟩ = some z ∧ w.cell? ⟨B + 1, 1, none⟩ = some t
theorem Bx.keep {B C : Nat} {x y z t : Value} {w w' : World} (h : Bx B x y z t w) (hb : Below C w w') (hB : B + 1 < C) : Bx B x y z t w' :=
  ⟨(hb.cell (p := ⟨B, 0, none⟩) (show B < C by omega)).trans h.1, (hb.cell (p := ⟨B, 1, none⟩) (show B < C by omega)).trans h.2.1, (hb.cell (p := ⟨B + 1, 0, none⟩) (show B + 1 < C from hB)).trans h.2.2.1, (hb.cell (p := ⟨B + 1, 1, none⟩) (show B + 1 < C from hB)).trans h.2.2.2⟩
theorem Bx.store2 {B : Nat} {x y z t : Value} {w : World} (h : Bx B x y z t w) (u v : Value) : Bx B x y z t ((w.setCell ⟨B + 1 + 1, 0, none⟩ u).setCell ⟨B + 1 + 1, 1, none⟩ v) :=
  h.keep (C := B + 1 + 1) (((Below.refl _ _).setCell (by simp) _).setCell (by simp) _) (by omega)
/-- block T holds no list of digits -/
structure Odd (T : Nat) (w : World) : Prop where
  pair : ∀ (o : Nat) (x y : Int), w.cell? ⟨T, o, none⟩ = some (.int .u64 x) → w.cell? ⟨T, o + 1, none⟩ = some (.int .u64 y) → False
  head : ∀ (p : Option Addr) (l c : Nat), w.cell? ⟨T, 0, none⟩ = some (.slice p l c) → False
/-- digits stay while a block that holds no list of digits is written -/
theorem Dg.store {w w' : World} {v : Value} {n T : Nat} (h : Dg w v n) (hT : Odd T w) (hg : w.grownBy w' (some T)) : Dg w' v n := by
  rcases h with h | ⟨b, sv, ws, h1, h2, h3, h4, h5, h6, h7⟩
  · exact .inl h
  · have key : ∀ (b : Nat), b < w.heap.size → b ≠ T → ∀ o, w'.cell? ⟨b, o, none⟩ = w.cell? ⟨b, o, none⟩ := fun b hb hne o => World.cell?_of_block (hg.block b hb (by intro e; cases e; exact hne rfl))
    obtain ⟨g1, g2, ⟨rfl, rfl⟩ | ⟨b', o, cap, hv, hc, hlt, hcell⟩⟩ := h4
    · simp at h6
    · have hne : b ≠ T := by
        rintro rfl
        rw [hv] at h3
        exact hT.head _ _ _ h3
      have hne' : b' ≠ T := by
        rintro rfl
        exact hT.pair o _ _ (hcell 0 (by omega)) (hcell 1 (by omega))
      exact .inr ⟨b, sv, ws, h1, Nat.lt_of_lt_of_le h2 hg.size, (key b h2 hne 0).trans h3, ⟨g1, g2, .inr ⟨b', o, cap, hv, hc, Nat.lt_of_lt_of_le hlt hg.size, fun i hi => (key b' hlt hne' _).trans (hcell i hi)⟩⟩, h5, h6, h7⟩
/-- the digits result's box at T -/
def Rs (T : Nat) (w : World) : Prop := ∃ (x : Int) (p : Option Addr), w.heap[T]? = some (.cells #[.int .u64 x, .pointer p] 26)
theorem Rs.keep {T C : Nat} {w w' : World} (h : Rs T w) (hb : Below C w w') (hT : T < C) : Rs T w' := by
  obtain ⟨x, p, h⟩ := h
  exact ⟨x, p, (hb.block T hT).trans h⟩
theorem Rs.alloc {T : Nat} {w : World} (h : Rs T w) (o : Obj) : Rs T (w.alloc o) := by
  obtain ⟨x, p, h⟩ := h
  exact ⟨x, p, (Below.heap_alloc w o T (Array.getElem?_eq_some_iff.1 h).1).trans h⟩
theorem rs_new (w : World) {T : Nat} (hT : T = w.heap.size) : Rs T (w.alloc (.cells #[.int .u64 0, .pointer none] 26)) := by
  subst hT; exact ⟨0, none, Go.Deep.blk_alloc_new _ _⟩
theorem Rs.cells {T : Nat} {w : World} (h : Rs T w) : ∃ (x : Int) (p : Option Addr), w.cell? ⟨T, 0, none⟩ = some (.int .u64 x) ∧ w.cell? ⟨T, 1, none⟩ = some (.pointer p) ∧ w.frozen? ⟨T, 0, none⟩ = false ∧ w.frozen? ⟨T, 1, none⟩ = false := by
  obtain ⟨x, p, h⟩ := h
  exact ⟨x, p, by simp [World.cell?, h], by simp [World.cell?, h], by simp [World.frozen?, h], by simp [World.frozen?, h]⟩
theorem Rs.odd {T : Nat} {w : World} (h : Rs T w) : Odd T w := by
  obtain ⟨x, p, h⟩ := h
  have hc : ∀ o, w.cell? ⟨T, o, none⟩ = (#[Value.int .u64 x, .pointer p] : Array Value)[o]? := fun o => by simp [World.cell?, h]
  refine ⟨fun o x' y' h1 h2 => ?_, fun p l c h1 => ?_⟩
  · rw [hc] at h1 h2
    match o with
    | 0 => simp at h2
    | 1 => simp at h1
    | o + 2 => simp at h1
  · rw [hc] at h1; simp at h1
/-- the Z result's box at T -/
def Rz (T : Nat) (w : World) : Prop := ∃ (s : Bool) (x : Int) (p : Option Addr), w.heap[T]? = some (.cells #[.bool s, .int .u64 x, .pointer p] 28)
theorem Rz.keep {T C : Nat} {w w' : World} (h : Rz T w) (hb : Below C w w') (hT : T < C) : Rz T w' := by
  obtain ⟨s, x, p, h⟩ := h
  exact ⟨s, x, p, (hb.block T hT).trans h⟩
theorem Rz.alloc {T : Nat} {w : World} (h : Rz T w) (o : Obj) : Rz T (w.alloc o) := by
  obtain ⟨s, x, p, h⟩ := h
  exact ⟨s, x, p, (Below.heap_alloc w o T (Array.getElem?_eq_some_iff.1 h).1).trans h⟩
theorem rz_new (w : World) {T : Nat} (hT : T = w.heap.size) : Rz T (w.alloc (.cells #[.bool false, .int .u64 0, .pointer none] 28)) := by
  subst hT; exact ⟨false, 0, none, Go.Deep.blk_alloc_new _ _⟩
theorem Rz.cells {T : Nat} {w : World} (h : Rz T w) : ∃ (s : Bool) (x : Int) (p : Option Addr), w.cell? ⟨T, 0, none⟩ = some (.bool s) ∧ w.cell? ⟨T, 1, none⟩ = some (.int .u64 x) ∧ w.cell? ⟨T, 2, none⟩ = some (.pointer p) ∧ w.frozen? ⟨T, 0, none⟩ = false ∧ w.frozen? ⟨T, 1, none⟩ = false ∧ w.frozen? ⟨T, 2, none⟩ = false := by
  obtain ⟨s, x, p, h⟩ := h
  exact ⟨s, x, p, by simp [World.cell?, h], by simp [World.cell?, h], by simp [World.cell?, h], by simp [World.frozen?, h], by simp [World.frozen?, h], by simp [World.frozen?, h]⟩
theorem Rz.odd {T : Nat} {w : World} (h : Rz T w) : Odd T w := by
  obtain ⟨s, x, p, h⟩ := h
  have hc : ∀ o, w.cell? ⟨T, o, none⟩ = (#[Value.bool s, .int .u64 x, .pointer p] : Array Value)[o]? := fun o => by simp [World.cell?, h]
  refine ⟨fun o x' y' h1 h2 => ?_, fun p l c h1 => ?_⟩
  · rw [hc] at h1 h2
    match o with
    | 0 => simp at h1
    | 1 => simp at h2
    | 2 => simp at h1
    | o + 3 => simp at h1
  · rw [hc] at h1; simp at h1
theorem grown2 (w : World) (T i j : Nat) (u v : Value) : w.grownBy ((w.setCell ⟨T, i, none⟩ u).setCell ⟨T, j, none⟩ v) (some T) := only_setCell (p := ⟨T, j, none⟩) (only_setCell (p := ⟨T, i, none⟩) (World.grownBy.refl _ _) rfl _) rfl _
theorem grown3 (w : World) (T i j k : Nat) (u v z : Value) : w.grownBy (((w.setCell ⟨T, i, none⟩ u).setCell ⟨T, j, none⟩ v).setCell ⟨T, k, none⟩ z) (some T) := only_setCell (p := ⟨T, k, none⟩) (grown2 w T i j u v) rfl _
theorem two_cells {w : World} {T : Nat} {p q : Value} (h1 : w.cell? ⟨T, 0, none⟩ = some p) (h2 : w.cell? ⟨T, 1, none⟩ = some q) (u v : Value) :
    ((w.setCell ⟨T, 0, none⟩ u).setCell ⟨T, 1, none⟩ v).cell? ⟨T, 0, none⟩ = some u ∧ ((w.setCell ⟨T, 0, none⟩ u).setCell ⟨T, 1, none⟩ v).cell? ⟨T, 1, none⟩ = some v := by
  have e1 : (w.setCell ⟨T, 0, none⟩ u).cell? ⟨T, 0, none⟩ = some u := World.cell?_setCell_same' _ _ _ (by rw [h1]; rfl)
  have e2 : (w.setCell ⟨T, 0, none⟩ u).cell? ⟨T, 1, none⟩ = some q := by rw [World.cell?_setCell_other _ _ _ _ (by simp)]; exact h2
  exact ⟨by rw [World.cell?_setCell_other _ _ _ _ (by simp)]; exact e1, World.cell?_setCell_same' _ _ _ (by rw [e2]; rfl)⟩
theorem Dg.cast {w : World} {v : Value} {m n : Nat} (h : Dg w v m) (e : m = n) : Dg w v n := e ▸ h
set_option maxRecDepth 100000 in
theorem plus_any (va vb : Value) (a b : Nat) (w : World) (ha : Dg w va a) (hb : Dg w vb b) (la : Sz a) (lb : Sz b) : Calls Tryz.prog 124 #[va, vb] w (PDg (a + b) w) := by
  have HA := Lib.hid ha; have HB := Lib.hid hb
  rcases ha with ⟨hn, rfl⟩ | ⟨ba, sva, wsa, rfl, a2, a3, a4, a5, a6, a7⟩
  · rcases hb with ⟨hm, rfl⟩ | ⟨bb, svb, wsb, rfl, b2, b3, b4, b5, b6, b7⟩
    · obtain ⟨s, k, hs, hk, HE, hrun⟩ := add64_run0 a b hn hm
      by_cases hz : k = 0
      · subst hz
        have hrun : ∀ w : World, (callFunc 144 #[.int .u64 (a : Int), .int .u64 (b : Int), .int .u64 0]).run Tryz.prog w = .ok (.value (.tuple #[.int .u64 (s : Int), .int .u64 0])) w := hrun
        go_enter Tryz.func124, Tryz.ntmps124
        go_wp2_with (go_at_call 123; refine (isSmall_small _ _).mono ?_; rintro e w1 ⟨rfl, rfl⟩)
        exact bodyPost_ret (v := .agg #[.int .u64 s, .pointer none]) (by simp [results, Tryz.results124, go_sem]) rfl ⟨Below.thru (bl3 _ _ _ _) (by simp; omega) (bl2 _ _ _), _, rfl, .inl ⟨by have := HE.out; rw [Nat.mul_zero, Nat.add_zero] at this; rw [← this]; exact hs, by have := HE.out; rw [Nat.mul_zero, Nat.add_zero] at this; rw [← this]⟩⟩
      · have h : ((k : Int) == 0) = false := by rw [beq_eq_false_iff_ne]; omega
        clear hz
        go_enter Tryz.func124, Tryz.ntmps124
        go_wp2_with (go_at_call 123; refine (isSmall_small _ _).mono ?_; rintro e w1 ⟨rfl, rfl⟩)
        clear hrun h hk hs HE
        generalize hW : World.alloc _ (Obj.cells #[Value.int IntKind.u64 ↑b, Value.pointer none] 26) = W
        have f1 : Below w.heap.size w W := by rw [← hW]; exact Below.thru (bl3 _ _ _ _) (by simp; omega) (bl2 _ _ _)
        have f2 : W.heap.size = w.heap.size + 5 := by rw [← hW]; simp
        have f3 : Bx w.heap.size (.int .u64 (a : Int)) (.pointer none) (.int .u64 (b : Int)) (.pointer none) W := by
          rw [← hW]; refine ⟨?_, ?_, ?_, ?_⟩ <;> simp [go_sem, World.cell?_alloc_past]
        have f4 : Rs (w.heap.size + 1 + 1) W := by
          rw [← hW]; exact (((rs_new _ (by simp)).alloc _).alloc _)
        clear hW
        have f3 : Bx w.heap.size (.int .u64 (a : Int)) (.pointer none) (.int .u64 (b : Int)) (.pointer none) W.drew := f3
        have f4 : Rs (w.heap.size + 1 + 1) W.drew := f4
        have f1 : Below w.heap.size w W.drew := f1.drew
        have f2 : w.heap.size + 3 ≤ W.drew.heap.size := by show _ ≤ W.heap.size; omega
        go_region_held3 (fun w' => w'.cell? ⟨w.heap.size, 0, none⟩ = some (.int .u64 (a : Int)) ∧ w'.cell? ⟨w.heap.size, 1, none⟩ = some (.pointer none) ∧ w'.cell? ⟨w.heap.size + 1, 0, none⟩ = some (.int .u64 (b : Int)) ∧ w'.cell? ⟨w.heap.size + 1, 1, none⟩ = some (.pointer none))
          (first | exact Bx.store2 d4 _ _ | exact d4 | exact d3 | exact d2 | exact d1 | exact f3)
          (first
            | (go_at_call 133; (with_reducible refine (words_any (.agg #[.int .u64 (a : Int), .pointer none]) a W.drew (HA.out.keep (B := w.heap.size) f1 (Nat.le_refl _))).mono ?_); rintro e w1 ⟨hb1, v1, ws1, rfl, hs1, hn1, hv1⟩
               have d1 := Bx.keep f3 hb1 (by omega); have r1 := Rs.keep f4 hb1 (by omega); have k1 := Below.thru f1 f1.size hb1; have z1 : w.heap.size + 3 ≤ w1.heap.size := Nat.le_trans f2 hb1.size)
            | (go_at_call 133; (with_reducible refine (words_any (.agg #[.int .u64 (b : Int), .pointer none]) b w1 (HB.out.keep (B := w.heap.size) k1 (Nat.le_refl _))).mono ?_); rintro e w2 ⟨hb2, v2, ws2, rfl, hs2, hn2, hv2⟩
               have d2 := Bx.keep d1 hb2 (by omega); have r2 := Rs.keep r1 hb2 (by omega); have k2 := Below.thru k1 k1.size hb2; have z2 : w.heap.size + 3 ≤ w2.heap.size := Nat.le_trans z1 hb2.size)
            | (go_at_call 145; (with_reducible refine (addWords_both v1 v2 ws1 ws2 w2 (hs1.keep hb2 (Nat.le_refl _)) hs2 (Nat.le_trans (la.len hn1 hv1) (by omega)) (Nat.le_trans (lb.len hn2 hv2) (by omega))).mono ?_); rintro e w3 ⟨ws3, hw3, hv3, hb3, v3, rfl, hs3⟩
               have d3 := Bx.keep d2 hb3 (by omega); have r3 := Rs.keep r2 hb3 (by omega); have k3 := Below.thru k2 k2.size hb3; have z3 : w.heap.size + 3 ≤ w3.heap.size := Nat.le_trans z2 hb3.size)
            | (go_at_call 122; (with_reducible refine (digitsOf_any v3 (norm ws3) w3 hs3 (norm_nrm _)).mono ?_); rintro e w4 ⟨hb4, v4, rfl, hs4⟩
               have d4 := Bx.keep d3 hb4 (by omega); have r4 := Rs.keep r3 hb4 (by omega); obtain ⟨p4, q4, m1, m2, m3, m4⟩ := r4.cells; obtain ⟨x4, y4, rfl⟩ := hs4.agg; have k4 := Below.thru k3 k3.size hb4; have z4 : w.heap.size + 3 ≤ w4.heap.size := Nat.le_trans z3 hb4.size))
        obtain ⟨n1, n2⟩ := two_cells m1 m2 (.int .u64 x4) (.pointer y4)
        go_wp2
        exact bodyPost_ret (v := .agg #[.int .u64 x4, .pointer y4]) (by simp [results, Tryz.results124, go_sem, n1, n2]) rfl ⟨(k4.setCell (by simp; omega) _).setCell (by simp; omega) _, _, rfl, (hs4.store r4.odd (grown2 _ _ _ _ _ _)).cast (by rw [val_norm, hv3, hv1, hv2])⟩

    · clear b2 b3 b4 b5 b6 b7
      go_enter Tryz.func124, Tryz.ntmps124
      go_wp2_with (go_at_call 123; first | ((with_reducible refine (isSmall_small _ _).mono ?_); rintro e w1 ⟨rfl, rfl⟩) | ((with_reducible refine (isSmall_big _ _ _).mono ?_); rintro e w1 ⟨rfl, rfl⟩))
      clear hn
      generalize hW : World.alloc _ (Obj.cells #[Value.int IntKind.u64 0, Value.pointer (some ⟨bb, 0, none⟩)] 26) = W
      have f1 : Below w.heap.size w W := by rw [← hW]; exact Below.thru (bl3 _ _ _ _) (by simp; omega) (bl2 _ _ _)
      have f2 : W.heap.size = w.heap.size + 5 := by rw [← hW]; simp
      have f3 : Bx w.heap.size (.int .u64 (a : Int)) (.pointer none) (.int .u64 0) (.pointer (some ⟨bb, 0, none⟩)) W := by
        rw [← hW]; refine ⟨?_, ?_, ?_, ?_⟩ <;> simp [go_sem, World.cell?_alloc_past]
      have f4 : Rs (w.heap.size + 1 + 1) W := by
        rw [← hW]; exact (((rs_new _ (by simp)).alloc _).alloc _)
      clear hW
      have f3 : Bx w.heap.size (.int .u64 (a : Int)) (.pointer none) (.int .u64 0) (.pointer (some ⟨bb, 0, none⟩)) W.drew := f3
      have f4 : Rs (w.heap.size + 1 + 1) W.drew := f4
      have f1 : Below w.heap.size w W.drew := f1.drew
      have f2 : w.heap.size + 3 ≤ W.drew.heap.size := by show _ ≤ W.heap.size; omega
      go_region_held3 (fun w' => w'.cell? ⟨w.heap.size, 0, none⟩ = some (.int .u64 (a : Int)) ∧ w'.cell? ⟨w.heap.size, 1, none⟩ = some (.pointer none) ∧ w'.cell? ⟨w.heap.size + 1, 0, none⟩ = some (.int .u64 0) ∧ w'.cell? ⟨w.heap.size + 1, 1, none⟩ = some (.pointer (some ⟨bb, 0, none⟩)))
        (first | exact Bx.store2 d4 _ _ | exact d4 | exact d3 | exact d2 | exact d1 | exact f3)
        (first
          | (go_at_call 133; (with_reducible refine (words_any (.agg #[.int .u64 (a : Int), .pointer none]) a W.drew (HA.out.keep (B := w.heap.size) f1 (Nat.le_refl _))).mono ?_); rintro e w1 ⟨hb1, v1, ws1, rfl, hs1, hn1, hv1⟩
             have d1 := Bx.keep f3 hb1 (by omega); have r1 := Rs.keep f4 hb1 (by omega); have k1 := Below.thru f1 f1.size hb1; have z1 : w.heap.size + 3 ≤ w1.heap.size := Nat.le_trans f2 hb1.size)
          | (go_at_call 133; (with_reducible refine (words_any (.agg #[.int .u64 0, .pointer (some ⟨bb, 0, none⟩)]) b w1 (HB.out.keep (B := w.heap.size) k1 (Nat.le_refl _))).mono ?_); rintro e w2 ⟨hb2, v2, ws2, rfl, hs2, hn2, hv2⟩
             have d2 := Bx.keep d1 hb2 (by omega); have r2 := Rs.keep r1 hb2 (by omega); have k2 := Below.thru k1 k1.size hb2; have z2 : w.heap.size + 3 ≤ w2.heap.size := Nat.le_trans z1 hb2.size)
          | (go_at_call 145; (with_reducible refine (addWords_both v1 v2 ws1 ws2 w2 (hs1.keep hb2 (Nat.le_refl _)) hs2 (Nat.le_trans (la.len hn1 hv1) (by omega)) (Nat.le_trans (lb.len hn2 hv2) (by omega))).mono ?_); rintro e w3 ⟨ws3, hw3, hv3, hb3, v3, rfl, hs3⟩
             have d3 := Bx.keep d2 hb3 (by omega); have r3 := Rs.keep r2 hb3 (by omega); have k3 := Below.thru k2 k2.size hb3; have z3 : w.heap.size + 3 ≤ w3.heap.size := Nat.le_trans z2 hb3.size)
          | (go_at_call 122; (with_reducible refine (digitsOf_any v3 (norm ws3) w3 hs3 (norm_nrm _)).mono ?_); rintro e w4 ⟨hb4, v4, rfl, hs4⟩
             have d4 := Bx.keep d3 hb4 (by omega); have r4 := Rs.keep r3 hb4 (by omega); obtain ⟨p4, q4, m1, m2, m3, m4⟩ := r4.cells; obtain ⟨x4, y4, rfl⟩ := hs4.agg; have k4 := Below.thru k3 k3.size hb4; have z4 : w.heap.size + 3 ≤ w4.heap.size := Nat.le_trans z3 hb4.size))
      obtain ⟨n1, n2⟩ := two_cells m1 m2 (.int .u64 x4) (.pointer y4)
      go_wp2
      exact bodyPost_ret (v := .agg #[.int .u64 x4, .pointer y4]) (by simp [results, Tryz.results124, go_sem, n1, n2]) rfl ⟨(k4.setCell (by simp; omega) _).setCell (by simp; omega) _, _, rfl, (hs4.store r4.odd (grown2 _ _ _ _ _ _)).cast (by rw [val_norm, hv3, hv1, hv2])⟩

  · obtain ⟨xb, pb, rfl⟩ := hb.agg
    clear hb a2 a3 a4 a5 a6 a7
    go_enter Tryz.func124, Tryz.ntmps124
    go_wp2_with (go_at_call 123; refine (isSmall_big _ _ _).mono ?_; rintro e w1 ⟨rfl, rfl⟩)
    skip
    generalize hW : World.alloc _ (Obj.cells #[Value.int IntKind.u64 0, Value.pointer (some ⟨ba, 0, none⟩)] 26) = W
    have f1 : Below w.heap.size w W := by rw [← hW]; exact Below.thru (bl3 _ _ _ _) (by simp; omega) (bl1 _ _)
    have f2 : W.heap.size = w.heap.size + 4 := by rw [← hW]; simp
    have f3 : Bx w.heap.size (.int .u64 0) (.pointer (some ⟨ba, 0, none⟩)) (.int .u64 xb) (.pointer pb) W := by
      rw [← hW]; refine ⟨?_, ?_, ?_, ?_⟩ <;> simp [go_sem, World.cell?_alloc_past]
    have f4 : Rs (w.heap.size + 1 + 1) W := by
      rw [← hW]; exact ((rs_new _ (by simp)).alloc _)
    clear hW
    have f3 : Bx w.heap.size (.int .u64 0) (.pointer (some ⟨ba, 0, none⟩)) (.int .u64 xb) (.pointer pb) W.drew := f3
    have f4 : Rs (w.heap.size + 1 + 1) W.drew := f4
    have f1 : Below w.heap.size w W.drew := f1.drew
    have f2 : w.heap.size + 3 ≤ W.drew.heap.size := by show _ ≤ W.heap.size; omega
    go_region_held3 (fun w' => w'.cell? ⟨w.heap.size, 0, none⟩ = some (.int .u64 0) ∧ w'.cell? ⟨w.heap.size, 1, none⟩ = some (.pointer (some ⟨ba, 0, none⟩)) ∧ w'.cell? ⟨w.heap.size + 1, 0, none⟩ = some (.int .u64 xb) ∧ w'.cell? ⟨w.heap.size + 1, 1, none⟩ = some (.pointer pb))
      (first | exact Bx.store2 d4 _ _ | exact d4 | exact d3 | exact d2 | exact d1 | exact f3)
      (first
        | (go_at_call 133; (with_reducible refine (words_any (.agg #[.int .u64 0, .pointer (some ⟨ba, 0, none⟩)]) a W.drew (HA.out.keep (B := w.heap.size) f1 (Nat.le_refl _))).mono ?_); rintro e w1 ⟨hb1, v1, ws1, rfl, hs1, hn1, hv1⟩
           have d1 := Bx.keep f3 hb1 (by omega); have r1 := Rs.keep f4 hb1 (by omega); have k1 := Below.thru f1 f1.size hb1; have z1 : w.heap.size + 3 ≤ w1.heap.size := Nat.le_trans f2 hb1.size)
        | (go_at_call 133; (with_reducible refine (words_any (.agg #[.int .u64 xb, .pointer pb]) b w1 (HB.out.keep (B := w.heap.size) k1 (Nat.le_refl _))).mono ?_); rintro e w2 ⟨hb2, v2, ws2, rfl, hs2, hn2, hv2⟩
           have d2 := Bx.keep d1 hb2 (by omega); have r2 := Rs.keep r1 hb2 (by omega); have k2 := Below.thru k1 k1.size hb2; have z2 : w.heap.size + 3 ≤ w2.heap.size := Nat.le_trans z1 hb2.size)
        | (go_at_call 145; (with_reducible refine (addWords_both v1 v2 ws1 ws2 w2 (hs1.keep hb2 (Nat.le_refl _)) hs2 (Nat.le_trans (la.len hn1 hv1) (by omega)) (Nat.le_trans (lb.len hn2 hv2) (by omega))).mono ?_); rintro e w3 ⟨ws3, hw3, hv3, hb3, v3, rfl, hs3⟩
           have d3 := Bx.keep d2 hb3 (by omega); have r3 := Rs.keep r2 hb3 (by omega); have k3 := Below.thru k2 k2.size hb3; have z3 : w.heap.size + 3 ≤ w3.heap.size := Nat.le_trans z2 hb3.size)
        | (go_at_call 122; (with_reducible refine (digitsOf_any v3 (norm ws3) w3 hs3 (norm_nrm _)).mono ?_); rintro e w4 ⟨hb4, v4, rfl, hs4⟩
           have d4 := Bx.keep d3 hb4 (by omega); have r4 := Rs.keep r3 hb4 (by omega); obtain ⟨p4, q4, m1, m2, m3, m4⟩ := r4.cells; obtain ⟨x4, y4, rfl⟩ := hs4.agg; have k4 := Below.thru k3 k3.size hb4; have z4 : w.heap.size + 3 ≤ w4.heap.size := Nat.le_trans z3 hb4.size))
    obtain ⟨n1, n2⟩ := two_cells m1 m2 (.int .u64 x4) (.pointer y4)
    go_wp2
    exact bodyPost_ret (v := .agg #[.int .u64 x4, .pointer y4]) (by simp [results, Tryz.results124, go_sem, n1, n2]) rfl ⟨(k4.setCell (by simp; omega) _).setCell (by simp; omega) _, _, rfl, (hs4.store r4.odd (grown2 _ _ _ _ _ _)).cast (by rw [val_norm, hv3, hv1, hv2])⟩

end Go.Proofs.YtjjomjjgoceklaaGreat
