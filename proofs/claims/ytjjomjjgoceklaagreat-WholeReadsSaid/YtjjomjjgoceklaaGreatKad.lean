import Derived.Test.YtjjomjjgoceklaaGreatKac
namespace Go.Proofs.YtjjomjjgoceklaaGreat
set_option maxRecDepth 100000
open Go.RowKit

theorem Tryz.info23 : (Tryz.prog.info? 23).map (fun i => (i.zero, i.size, i.bytes)) = some (some (.int .u64 0), 1, 8) := by kernel_rfl

/-- cell i of a row that holds the words out, and 0 behind them -/
def wf (out : List Nat) : Nat → Value := fun i => .int .u64 ((out.getD i 0 : Nat) : Int)

theorem val_take_succ (l : List Nat) (k : Nat) : val (l.take (k + 1)) = val (l.take k) + WB ^ k * l.getD k 0 := by
  by_cases h : k < l.length
  · rw [take_succ_getD l k h, val_append]; simp [val, Nat.min_eq_left (Nat.le_of_lt h)]
  · rw [List.take_of_length_le (by omega), List.take_of_length_le (by omega), List.getD_eq_getElem?_getD, List.getElem?_eq_none (by omega)]; simp
theorem val_snoc (l : List Nat) (x : Nat) : val (l ++ [x]) = val l + WB ^ l.length * x := by rw [val_append]; simp [val]
theorem Wds.snoc {l : List Nat} {x : Nat} (h : Wds l) (hx : Wd x) : Wds (l ++ [x]) := by
  intro y hy
  rcases List.mem_append.1 hy with hy | hy
  · exact h y hy
  · simp only [List.mem_singleton] at hy; rw [hy]; exact hx
theorem Wds.nil : Wds [] := fun _ h => nomatch h
theorem Wds.getD {l : List Nat} (h : Wds l) (i : Nat) : Wd (l.getD i 0) := by
  by_cases hi : i < l.length
  · rw [List.getD_eq_getElem?_getD, List.getElem?_eq_getElem hi]; exact h _ (List.getElem_mem hi)
  · rw [List.getD_eq_getElem?_getD, List.getElem?_eq_none (by omega)]; exact Wd.zero
theorem row_push {w : World} {b t n : Nat} {out : List Nat} (h : w.rowIs b t n (wf out)) (s : Nat) : (w.setCell ⟨b, out.length, none⟩ (.int .u64 (s : Int))).rowIs b t n (wf (out ++ [s])) := by
  refine (h.set out.length _).congr (fun j _ => ?_)
  unfold wf
  by_cases e : j = out.length
  · subst e; simp [List.getD_eq_getElem?_getD]
  · rw [if_neg e]
    simp only [List.getD_eq_getElem?_getD]
    by_cases hj : j < out.length
    · rw [List.getElem?_append_left hj]
    · rw [List.getElem?_eq_none (by omega), List.getElem?_eq_none (by simp; omega)]
theorem row_new (w : World) (n : Nat) : (w.alloc (.cells (madeCells #[.int .u64 0] n) 23)).rowIs w.heap.size 23 n (wf []) := (World.rowIs_made w _ n 23).congr (fun j _ => by simp [wf])
theorem Sl.of_row {w : World} {b n cap : Nat} {out : List Nat} (h : w.rowIs b 23 n (wf out)) (hl : out.length = n) (hw : Wds out) (h1 : n ≤ 4096) (hc : n ≤ cap) : Sl w (.slice (some ⟨b, 0, none⟩) n cap) out := by
  subst hl
  exact ⟨hw, h1, .inr ⟨b, 0, cap, rfl, hc, h.lt, fun i hi => by rw [Nat.zero_add]; exact h.cell hi⟩⟩
/-- a slice's parts -/
theorem Sl.opened {w : World} {v : Value} {ws : List Nat} (h : Sl w v ws) : ∃ (p : Option Addr) (cap : Nat), v = .slice p ws.length cap ∧ ws.length ≤ cap ∧
    ∀ i, i < ws.length → ∃ b o : Nat, p = some ⟨b, o, none⟩ ∧ b < w.heap.size ∧ w.cell? ⟨b, o + i, none⟩ = some (.int .u64 ((ws.getD i 0 : Nat) : Int)) := by
  obtain ⟨_, _, ⟨rfl, rfl⟩ | ⟨b, o, cap, rfl, hc, hlt, hcell⟩⟩ := h
  · exact ⟨none, 0, rfl, Nat.le_refl _, fun i hi => absurd hi (Nat.not_lt_zero _)⟩
  · exact ⟨_, cap, rfl, hc, fun i hi => ⟨b, o, rfl, hlt, hcell i hi⟩⟩

/-- make([]uint64, n+1) -/
theorem mk_words1 (n : Nat) (hn : n ≤ 4000) : ∀ w : World, (Instr.makeSlice 138 (.int .i64 ((n : Int) + 1)) (.int .i64 ((n : Int) + 1))).run Tryz.prog w = .ok (.slice (some ⟨w.heap.size, 0, none⟩) (n + 1) (n + 1)) (w.alloc (.cells (madeCells #[.int .u64 0] (n + 1)) 23)) :=
  run_make_row' (P := Tryz.prog) 138 23 (.int .u64 0) 8 Tryz.underlying138 Tryz.info23 rfl .i64 .i64 (n + 1) (by omega) (by omega)
theorem mk_words (n : Nat) (hn : n ≤ 9000) : ∀ w : World, (Instr.makeSlice 138 (.int .i64 (n : Int)) (.int .i64 (n : Int))).run Tryz.prog w = .ok (.slice (some ⟨w.heap.size, 0, none⟩) n n) (w.alloc (.cells (madeCells #[.int .u64 0] n) 23)) :=
  run_make_row' (P := Tryz.prog) 138 23 (.int .u64 0) 8 Tryz.underlying138 Tryz.info23 rfl .i64 .i64 n (by omega) (by omega)
/-- new words in new memory -/
def PSn (ws : List Nat) (w : World) (e : Ending) (w' : World) : Prop := Below w.heap.size w w' ∧ ∃ v', e = .returned v' ∧ Sl w' v' ws

theorem add_step {x y c s k' : Nat} {a b out : List Nat} {k : Nat} (hk : out.length = k) (H : val out + WB ^ k * c = val (a.take k) + val (b.take k)) (E : s + WB * k' = x + y + c)
    (hx : a.getD k 0 = x) (hy : b.getD k 0 = y) : val (out ++ [s]) + WB ^ (k + 1) * k' = val (a.take (k + 1)) + val (b.take (k + 1)) := by
  rw [val_take_succ, val_take_succ, val_snoc, hk, hx, hy]
  have e : WB ^ (k + 1) * k' = WB ^ k * (WB * k') := by rw [Nat.pow_succ, Nat.mul_assoc]
  have e2 : WB ^ k * s + WB ^ k * (WB * k') = WB ^ k * x + WB ^ k * y + WB ^ k * c := by rw [← Nat.mul_add, E, Nat.mul_add, Nat.mul_add]
  omega

set_option maxRecDepth 100000 in
theorem addWords_any (va vb : Value) (a b : List Nat) (w : World) (ha : Sl w va a) (hb : Sl w vb b) (hla : a.length ≤ 4000) (_hlb : b.length ≤ 4000) (hle : b.length ≤ a.length) :
    Calls Tryz.prog 145 #[va, vb] w fun e w' => ∃ ws, Wds ws ∧ val ws = val a + val b ∧ PSn (norm ws) w e w' := by
  have wa := ha.1
  have wb := hb.1
  obtain ⟨pa, ca, rfl, hca, hga⟩ := ha.opened
  obtain ⟨pb, cb, rfl, hcb, hgb⟩ := hb.opened
  have hmk := mk_words1 a.length hla
  clear ha hb
  have WA := Lib.hid wa
  have WBb := Lib.hid wb
  clear wa wb
  go_enter Tryz.func145, Tryz.ntmps145
  go_wp2
  clear hmk
  go_loopw [6, 23] (fun c i wr => ∃ (k cc : Nat) (out : List Nat), k ≤ a.length ∧ i = .int .i64 k ∧ cc ≤ 1 ∧ c = .int .u64 cc ∧ Hid (out.length = k) ∧ Wds out ∧ wr.rowIs w.heap.size 23 (a.length + 1) (wf out) ∧ Below w.heap.size w wr ∧
    Hid (val out + WB ^ k * cc = val (a.take k) + val (b.take k))) (fun _ i _ => a.length - (intOf i).toNat)
  case atStart => exact ⟨0, 0, [], Nat.zero_le _, rfl, Nat.zero_le _, rfl, rfl, Wds.nil, row_new _ _, (Below.refl _ _).alloc (Nat.le_refl _) _, by show _ = _; simp [val]⟩
  case round =>
    obtain ⟨k, cc, out, hk, rfl, hcc, rfl, HL, hw, hrow, hbel, HV⟩ := hrel
    by_cases hlt : k < a.length
    · by_cases hltb : k < b.length
      · obtain ⟨ba, oa, rfl, hba, hcella⟩ := hga k hlt
        obtain ⟨bb, ob, rfl, hbb, hcellb⟩ := hgb k hltb
        have wx := WA.out.getD k
        have wy := WBb.out.getD k
        generalize hx : a.getD k 0 = x at *
        generalize hy : b.getD k 0 = y at *
        have HX := Lib.hid hx; have HY := Lib.hid hy
        clear hx hy hga hgb
        obtain ⟨s, k', hs, hk', HE, hrun⟩ := add64_run x y cc hcc wx wy
        have c1 := (hbel.cell (p := ⟨ba, oa + k, none⟩) hba).trans hcella
        have c2 := (hbel.cell (p := ⟨bb, ob + k, none⟩) hbb).trans hcellb
        have c3 := hrow.cell (i := k) (by omega)
        have c4 := hrow.frozen k
        clear hcella hcellb
        go_wp2
        have HL' := HL.out
        subst HL'
        go_roundw
        case rel => exact ⟨out.length + 1, k', out ++ [s], by omega, by go_num, hk', rfl, by show _ = _; simp, hw.snoc hs, row_push hrow s, hbel.setCell (Nat.le_refl _) _, add_step rfl HV.out HE.out HX.out HY.out⟩
        case measure => simp [intOf]; omega
      · obtain ⟨ba, oa, rfl, hba, hcella⟩ := hga k hlt
        have wx := WA.out.getD k
        have hy : b.getD k 0 = 0 := by rw [List.getD_eq_getElem?_getD, List.getElem?_eq_none (by omega)]; rfl
        generalize hx : a.getD k 0 = x at *
        have HX := Lib.hid hx; have HY := Lib.hid hy
        clear hx hy hga hgb
        obtain ⟨s, k', hs, hk', HE, hrun⟩ := add64_run x 0 cc hcc wx Wd.zero
        have hrun : ∀ w : World, (callFunc 144 #[.int .u64 (x : Int), .int .u64 0, .int .u64 (cc : Int)]).run Tryz.prog w = .ok (.value (.tuple #[.int .u64 (s : Int), .int .u64 (k' : Int)])) w := hrun
        have c1 := (hbel.cell (p := ⟨ba, oa + k, none⟩) hba).trans hcella
        have c3 := hrow.cell (i := k) (by omega)
        have c4 := hrow.frozen k
        clear hcella
        go_wp2
        have HL' := HL.out
        subst HL'
        go_roundw
        case rel => exact ⟨out.length + 1, k', out ++ [s], by omega, by go_num, hk', rfl, by show _ = _; simp, hw.snoc hs, row_push hrow s, hbel.setCell (Nat.le_refl _) _, add_step rfl HV.out HE.out HX.out HY.out⟩
        case measure => simp [intOf]; omega
    · obtain rfl : k = a.length := by omega
      have c3 := hrow.cell (i := a.length) (by omega)
      have c4 := hrow.frozen a.length
      have hr2 := row_push hrow cc
      rw [HL.out] at hr2
      have hb2 := hbel.setCell (p := ⟨w.heap.size, a.length, none⟩) (Nat.le_refl _) (.int .u64 (cc : Int))
      have wc : Wd cc := by unfold Wd WB; omega
      have hsl := Sl.of_row hr2 (by simp [HL.out]) (hw.snoc wc) (by omega) (Nat.le_refl _)
      clear hga hgb
      go_wp2_with (go_at_call 143; refine (trim_any _ _ _ hsl).mono ?_; rintro e w' ⟨rfl, v', rfl, hv'⟩)
      go_ret
      refine ⟨_, hw.snoc wc, ?_, hb2, _, rfl, hv'⟩
      have hv := HV.out
      rw [List.take_length, List.take_of_length_le hle] at hv
      rw [val_snoc, HL.out]; exact hv
set_option maxRecDepth 100000 in
theorem addWords_swap (va vb : Value) (a b : List Nat) (w : World) (ha : Sl w va a) (hb : Sl w vb b) (hla : a.length ≤ 4000) (_hlb : b.length ≤ 4000) (hlt0 : b.length < a.length) :
    Calls Tryz.prog 145 #[vb, va] w fun e w' => ∃ ws, Wds ws ∧ val ws = val a + val b ∧ PSn (norm ws) w e w' := by
  have hle : b.length ≤ a.length := by omega
  have wa := ha.1
  have wb := hb.1
  obtain ⟨pa, ca, rfl, hca, hga⟩ := ha.opened
  obtain ⟨pb, cb, rfl, hcb, hgb⟩ := hb.opened
  have hmk := mk_words1 a.length hla
  clear ha hb
  have WA := Lib.hid wa
  have WBb := Lib.hid wb
  clear wa wb
  go_enter Tryz.func145, Tryz.ntmps145
  go_wp2
  clear hmk
  go_loopw [6, 23] (fun c i wr => ∃ (k cc : Nat) (out : List Nat), k ≤ a.length ∧ i = .int .i64 k ∧ cc ≤ 1 ∧ c = .int .u64 cc ∧ Hid (out.length = k) ∧ Wds out ∧ wr.rowIs w.heap.size 23 (a.length + 1) (wf out) ∧ Below w.heap.size w wr ∧
    Hid (val out + WB ^ k * cc = val (a.take k) + val (b.take k))) (fun _ i _ => a.length - (intOf i).toNat)
  case atStart => exact ⟨0, 0, [], Nat.zero_le _, rfl, Nat.zero_le _, rfl, rfl, Wds.nil, row_new _ _, (Below.refl _ _).alloc (Nat.le_refl _) _, by show _ = _; simp [val]⟩
  case round =>
    obtain ⟨k, cc, out, hk, rfl, hcc, rfl, HL, hw, hrow, hbel, HV⟩ := hrel
    by_cases hlt : k < a.length
    · by_cases hltb : k < b.length
      · obtain ⟨ba, oa, rfl, hba, hcella⟩ := hga k hlt
        obtain ⟨bb, ob, rfl, hbb, hcellb⟩ := hgb k hltb
        have wx := WA.out.getD k
        have wy := WBb.out.getD k
        generalize hx : a.getD k 0 = x at *
        generalize hy : b.getD k 0 = y at *
        have HX := Lib.hid hx; have HY := Lib.hid hy
        clear hx hy hga hgb
        obtain ⟨s, k', hs, hk', HE, hrun⟩ := add64_run x y cc hcc wx wy
        have c1 := (hbel.cell (p := ⟨ba, oa + k, none⟩) hba).trans hcella
        have c2 := (hbel.cell (p := ⟨bb, ob + k, none⟩) hbb).trans hcellb
        have c3 := hrow.cell (i := k) (by omega)
        have c4 := hrow.frozen k
        clear hcella hcellb
        go_wp2
        have HL' := HL.out
        subst HL'
        go_roundw
        case rel => exact ⟨out.length + 1, k', out ++ [s], by omega, by go_num, hk', rfl, by show _ = _; simp, hw.snoc hs, row_push hrow s, hbel.setCell (Nat.le_refl _) _, add_step rfl HV.out HE.out HX.out HY.out⟩
        case measure => simp [intOf]; omega
      · obtain ⟨ba, oa, rfl, hba, hcella⟩ := hga k hlt
        have wx := WA.out.getD k
        have hy : b.getD k 0 = 0 := by rw [List.getD_eq_getElem?_getD, List.getElem?_eq_none (by omega)]; rfl
        generalize hx : a.getD k 0 = x at *
        have HX := Lib.hid hx; have HY := Lib.hid hy
        clear hx hy hga hgb
        obtain ⟨s, k', hs, hk', HE, hrun⟩ := add64_run x 0 cc hcc wx Wd.zero
        have hrun : ∀ w : World, (callFunc 144 #[.int .u64 (x : Int), .int .u64 0, .int .u64 (cc : Int)]).run Tryz.prog w = .ok (.value (.tuple #[.int .u64 (s : Int), .int .u64 (k' : Int)])) w := hrun
        have c1 := (hbel.cell (p := ⟨ba, oa + k, none⟩) hba).trans hcella
        have c3 := hrow.cell (i := k) (by omega)
        have c4 := hrow.frozen k
        clear hcella
        go_wp2
        have HL' := HL.out
        subst HL'
        go_roundw
        case rel => exact ⟨out.length + 1, k', out ++ [s], by omega, by go_num, hk', rfl, by show _ = _; simp, hw.snoc hs, row_push hrow s, hbel.setCell (Nat.le_refl _) _, add_step rfl HV.out HE.out HX.out HY.out⟩
        case measure => simp [intOf]; omega
    · obtain rfl : k = a.length := by omega
      have c3 := hrow.cell (i := a.length) (by omega)
      have c4 := hrow.frozen a.length
      have hr2 := row_push hrow cc
      rw [HL.out] at hr2
      have hb2 := hbel.setCell (p := ⟨w.heap.size, a.length, none⟩) (Nat.le_refl _) (.int .u64 (cc : Int))
      have wc : Wd cc := by unfold Wd WB; omega
      have hsl := Sl.of_row hr2 (by simp [HL.out]) (hw.snoc wc) (by omega) (Nat.le_refl _)
      clear hga hgb
      go_wp2_with (go_at_call 143; refine (trim_any _ _ _ hsl).mono ?_; rintro e w' ⟨rfl, v', rfl, hv'⟩)
      go_ret
      refine ⟨_, hw.snoc wc, ?_, hb2, _, rfl, hv'⟩
      have hv := HV.out
      rw [List.take_length, List.take_of_length_le hle] at hv
      rw [val_snoc, HL.out]; exact hv

/-- addWords, any lengths -/
theorem addWords_both (va vb : Value) (a b : List Nat) (w : World) (ha : Sl w va a) (hb : Sl w vb b) (hla : a.length ≤ 4000) (hlb : b.length ≤ 4000) :
    Calls Tryz.prog 145 #[va, vb] w fun e w' => ∃ ws, Wds ws ∧ val ws = val a + val b ∧ PSn (norm ws) w e w' := by
  by_cases h : b.length ≤ a.length
  · exact addWords_any va vb a b w ha hb hla hlb h
  · refine (addWords_swap vb va b a w hb ha hlb hla (by omega)).mono fun e w' ⟨ws, h1, h2, h3⟩ => ⟨ws, h1, by rw [h2, Nat.add_comm], h3⟩

theorem sub_step {x y c s k' : Nat} {a b out : List Nat} {k : Nat} (hk : out.length = k) (H : val out + val (b.take k) = val (a.take k) + WB ^ k * c) (E : x + WB * k' = s + y + c)
    (hx : a.getD k 0 = x) (hy : b.getD k 0 = y) : val (out ++ [s]) + val (b.take (k + 1)) = val (a.take (k + 1)) + WB ^ (k + 1) * k' := by
  rw [val_take_succ, val_take_succ, val_snoc, hk, hx, hy]
  have e : WB ^ (k + 1) * k' = WB ^ k * (WB * k') := by rw [Nat.pow_succ, Nat.mul_assoc]
  have e2 : WB ^ k * x + WB ^ k * (WB * k') = WB ^ k * s + WB ^ k * y + WB ^ k * c := by rw [← Nat.mul_add, E, Nat.mul_add, Nat.mul_add]
  omega
theorem sub_end {a b out : List Nat} {n cc : Nat} (ho : out.length = n) (hw : Wds out) (hle : b.length ≤ n) (hn : a.length = n) (HV : val out + val (b.take n) = val (a.take n) + WB ^ n * cc) (hcc : cc ≤ 1) (hv : val b ≤ val a) :
    val out = val a - val b := by
  have h1 := val_lt out hw
  rw [ho] at h1
  rw [List.take_of_length_le hle, ← hn, List.take_length] at HV
  rw [hn] at HV
  have : cc = 0 := by
    rcases Nat.lt_or_ge cc 1 with h | h
    · omega
    · have : cc = 1 := by omega
      subst this; omega
  subst this
  omega
set_option maxRecDepth 100000 in
theorem subtractWords_any (va vb : Value) (a b : List Nat) (w : World) (ha : Sl w va a) (hb : Sl w vb b) (hla : a.length ≤ 4000) (_hlb : b.length ≤ 4000) (hle : b.length ≤ a.length) (hval : val b ≤ val a) :
    Calls Tryz.prog 146 #[va, vb] w fun e w' => ∃ ws, Wds ws ∧ val ws = val a - val b ∧ PSn (norm ws) w e w' := by
  have wa := ha.1
  have wb := hb.1
  obtain ⟨pa, ca, rfl, hca, hga⟩ := ha.opened
  obtain ⟨pb, cb, rfl, hcb, hgb⟩ := hb.opened
  have hmk := mk_words a.length (by omega)
  have HVAL := Lib.hid hval
  clear ha hb hval
  have WA := Lib.hid wa
  have WBb := Lib.hid wb
  clear wa wb
  go_enter Tryz.func146, Tryz.ntmps146
  go_wp2
  clear hmk
  go_loopw [6, 15] (fun c i wr => ∃ (k cc : Nat) (out : List Nat), k ≤ a.length ∧ i = .int .i64 k ∧ cc ≤ 1 ∧ c = .int .u64 cc ∧ Hid (out.length = k) ∧ Wds out ∧ wr.rowIs w.heap.size 23 a.length (wf out) ∧ Below w.heap.size w wr ∧
    Hid (val out + val (b.take k) = val (a.take k) + WB ^ k * cc)) (fun _ i _ => a.length - (intOf i).toNat)
  case atStart => exact ⟨0, 0, [], Nat.zero_le _, rfl, Nat.zero_le _, rfl, rfl, Wds.nil, row_new _ _, (Below.refl _ _).alloc (Nat.le_refl _) _, by show _ = _; simp [val]⟩
  case round =>
    obtain ⟨k, cc, out, hk, rfl, hcc, rfl, HL, hw, hrow, hbel, HV⟩ := hrel
    by_cases hlt : k < a.length
    · by_cases hltb : k < b.length
      · obtain ⟨ba, oa, rfl, hba, hcella⟩ := hga k hlt
        obtain ⟨bb, ob, rfl, hbb, hcellb⟩ := hgb k hltb
        have wx := WA.out.getD k
        have wy := WBb.out.getD k
        generalize hx : a.getD k 0 = x at *
        generalize hy : b.getD k 0 = y at *
        have HX := Lib.hid hx; have HY := Lib.hid hy
        clear hx hy hga hgb
        obtain ⟨s, k', hs, hk', HE, hrun⟩ := sub64_run x y cc hcc wx wy
        have c1 := (hbel.cell (p := ⟨ba, oa + k, none⟩) hba).trans hcella
        have c2 := (hbel.cell (p := ⟨bb, ob + k, none⟩) hbb).trans hcellb
        have c3 := hrow.cell (i := k) (by omega)
        have c4 := hrow.frozen k
        clear hcella hcellb
        go_wp2
        have HL' := HL.out
        subst HL'
        go_roundw
        case rel => exact ⟨out.length + 1, k', out ++ [s], by omega, by go_num, hk', rfl, by show _ = _; simp, hw.snoc hs, row_push hrow s, hbel.setCell (Nat.le_refl _) _, sub_step rfl HV.out HE.out HX.out HY.out⟩
        case measure => simp [intOf]; omega
      · obtain ⟨ba, oa, rfl, hba, hcella⟩ := hga k hlt
        have wx := WA.out.getD k
        have hy : b.getD k 0 = 0 := by rw [List.getD_eq_getElem?_getD, List.getElem?_eq_none (by omega)]; rfl
        generalize hx : a.getD k 0 = x at *
        have HX := Lib.hid hx; have HY := Lib.hid hy
        clear hx hy hga hgb
        obtain ⟨s, k', hs, hk', HE, hrun⟩ := sub64_run x 0 cc hcc wx Wd.zero
        have hrun : ∀ w : World, (callFunc 157 #[.int .u64 (x : Int), .int .u64 0, .int .u64 (cc : Int)]).run Tryz.prog w = .ok (.value (.tuple #[.int .u64 (s : Int), .int .u64 (k' : Int)])) w := hrun
        have c1 := (hbel.cell (p := ⟨ba, oa + k, none⟩) hba).trans hcella
        have c3 := hrow.cell (i := k) (by omega)
        have c4 := hrow.frozen k
        clear hcella
        go_wp2
        have HL' := HL.out
        subst HL'
        go_roundw
        case rel => exact ⟨out.length + 1, k', out ++ [s], by omega, by go_num, hk', rfl, by show _ = _; simp, hw.snoc hs, row_push hrow s, hbel.setCell (Nat.le_refl _) _, sub_step rfl HV.out HE.out HX.out HY.out⟩
        case measure => simp [intOf]; omega
    · obtain rfl : k = a.length := by omega
      have hsl := Sl.of_row hrow HL.out hw (by omega) (Nat.le_refl _)
      clear hga hgb
      go_wp2_with (go_at_call 143; refine (trim_any _ _ _ hsl).mono ?_; rintro e w' ⟨rfl, v', rfl, hv'⟩)
      go_ret
      exact ⟨_, hw, sub_end HL.out hw hle rfl HV.out hcc HVAL.out, hbel, _, rfl, hv'⟩
end Go.Proofs.YtjjomjjgoceklaaGreat
namespace Go.Proofs.YtjjomjjgoceklaaGreat
set_option maxRecDepth 100000
open Go.RowKit

theorem wf_at (X Z : List Nat) (y : Nat) : wf (X ++ y :: Z) X.length = .int .u64 (y : Int) := by
  unfold wf; simp [List.getD_eq_getElem?_getD]
theorem row_mid {w : World} {b t n : Nat} {X Z : List Nat} {y : Nat} (h : w.rowIs b t n (wf (X ++ y :: Z))) (s : Nat) :
    (w.setCell ⟨b, X.length, none⟩ (.int .u64 (s : Int))).rowIs b t n (wf (X ++ s :: Z)) := by
  refine (h.set X.length _).congr (fun j _ => ?_)
  by_cases e : j = X.length
  · subst e; rw [if_pos rfl, wf_at]
  · rw [if_neg e]
    unfold wf
    simp only [List.getD_eq_getElem?_getD, List.getElem?_append]
    by_cases hj : j < X.length
    · simp [hj]
    · obtain ⟨i, rfl⟩ : ∃ i, j = X.length + (i + 1) := ⟨j - X.length - 1, by omega⟩
      simp [Nat.add_sub_cancel_left]
theorem drop_getD (P : List Nat) (k : Nat) (h : k < P.length) : P.drop k = P.getD k 0 :: P.drop (k + 1) := by
  rw [List.drop_eq_getElem_cons h, List.getD_eq_getElem?_getD, List.getElem?_eq_getElem h]; rfl
theorem only_setCell {a w : World} {g : Nat} (h : a.grownBy w (some g)) {p : Addr} (hp : p.block = g) (u : Value) : a.grownBy (w.setCell p u) (some g) :=
  ⟨h.os, h.tape, h.output, by simpa [World.setCell] using h.size, fun i hi hne => (Below.heap_setCell w p u i (by
    rintro rfl
    exact hne (by rw [hp]))).trans (h.block i hi hne)⟩
/-- the words behind a slice's value, apart from block g -/
def Rd (w : World) (g : Nat) (p : Option Addr) (ws : List Nat) : Prop :=
  ∀ i, i < ws.length → ∃ b o : Nat, p = some ⟨b, o, none⟩ ∧ b ≠ g ∧ b < w.heap.size ∧ w.cell? ⟨b, o + i, none⟩ = some (.int .u64 ((ws.getD i 0 : Nat) : Int))

theorem am_step {x m c h l p s k' : Nat} {P ws out : List Nat} {k : Nat} (hk : out.length = k) (H : val out + WB ^ k * c = val (P.take k) + m * val (ws.take k))
    (E1 : WB * h + l = x * m + c) (E2 : s + WB * k' = p + l) (hx : ws.getD k 0 = x) (hp : P.getD k 0 = p) :
    val (out ++ [s]) + WB ^ (k + 1) * (h + k') = val (P.take (k + 1)) + m * val (ws.take (k + 1)) := by
  rw [val_take_succ, val_take_succ, val_snoc, hk, hx, hp]
  have e : WB ^ (k + 1) * (h + k') = WB ^ k * (WB * (h + k')) := by rw [Nat.pow_succ, Nat.mul_assoc]
  have e1 : s + WB * (h + k') = p + x * m + c := by rw [Nat.mul_add]; omega
  have e2 : WB ^ k * s + WB ^ k * (WB * (h + k')) = WB ^ k * p + WB ^ k * (x * m) + WB ^ k * c := by rw [← Nat.mul_add, e1, Nat.mul_add, Nat.mul_add]
  have e3 : m * (val (ws.take k) + WB ^ k * x) = m * val (ws.take k) + WB ^ k * (x * m) := by
    rw [Nat.mul_add, Nat.mul_left_comm, Nat.mul_comm m x]
  omega
theorem am_carry {x m c h l p s k' : Nat} (hx : Wd x) (hm : Wd m) (hc : Wd c) (hp : Wd p) (E1 : WB * h + l = x * m + c) (E2 : s + WB * k' = p + l) : Wd (h + k') := by
  have hx' : x * m ≤ (WB - 1) * (WB - 1) := Nat.mul_le_mul (by unfold Wd at hx; omega) (by unfold Wd at hm; omega)
  unfold Wd WB at *
  omega

def PAm (P ws A C : List Nat) (m N g : Nat) (w : World) (e : Ending) (w' : World) : Prop :=
  ∃ (out : List Nat) (c : Nat), e = .returned (.int .u64 (c : Int)) ∧ out.length = ws.length ∧ Wds out ∧ Wd c ∧ val out + WB ^ ws.length * c = val P + m * val ws ∧
    w'.rowIs g 23 N (wf (A ++ (out ++ C))) ∧ w.grownBy w' (some g) ∧ w'.heap.size = w.heap.size

set_option maxRecDepth 100000 in
theorem addMultiple_any (g cp m cw N : Nat) (p : Option Addr) (A P C ws : List Nat) (w : World) (hrow : w.rowIs g 23 N (wf (A ++ (P ++ C)))) (hN : A.length + ws.length ≤ N) (hP : P.length = ws.length) (wP : Wds P)
    (hws : Wds ws) (hg : Rd w g p ws) (hm : Wd m) (hl : ws.length ≤ 8000) :
    Calls Tryz.prog 152 #[.slice (some ⟨g, A.length, none⟩) ws.length cp, .slice p ws.length cw, .int .u64 (m : Int)] w (PAm P ws A C m N g w) := by
  have WS := Lib.hid hws
  have WP := Lib.hid wP
  have HPL := Lib.hid hP
  have HG := Lib.hid hg
  clear hws wP hP hg
  go_enter Tryz.func152, Tryz.ntmps152
  go_wp2
  go_loopw [7, 15] (fun c i wr => ∃ (k cc : Nat) (out : List Nat), k ≤ ws.length ∧ i = .int .i64 k ∧ Wd cc ∧ c = .int .u64 cc ∧ Hid (out.length = k) ∧ Wds out ∧ wr.rowIs g 23 N (wf (A ++ out ++ (P.drop k ++ C))) ∧ w.grownBy wr (some g) ∧
    Hid (wr.heap.size = w.heap.size) ∧ Hid (val out + WB ^ k * cc = val (P.take k) + m * val (ws.take k))) (fun _ i _ => ws.length - (intOf i).toNat)
  case atStart => exact ⟨0, 0, [], Nat.zero_le _, rfl, Wd.zero, rfl, rfl, Wds.nil, by simpa using hrow, World.grownBy.refl _ _, rfl, by show _ = _; simp [val]⟩
  case round =>
    obtain ⟨k, cc, out, hk, rfl, hcc, rfl, HL, hw, hr, hgr, HS, HV⟩ := hrel
    by_cases hlt : k < ws.length
    · obtain ⟨b, o, rfl, hbg, hbl, hcell⟩ := HG.out k hlt
      have wx := WS.out.getD k
      have wp := WP.out.getD k
      have hd := drop_getD P k (by rw [HPL.out]; exact hlt)
      generalize hx : ws.getD k 0 = x at *
      generalize hy : P.getD k 0 = y at *
      rw [hd, List.cons_append] at hr
      have HX := Lib.hid hx; have HY := Lib.hid hy; have HD := Lib.hid hd
      clear hx hy hd
      have c1 := hgr.cell hcell (by simp; exact hbg)
      have c3 := hr.cell (i := (A ++ out).length) (by simp [HL.out]; omega)
      rw [wf_at] at c3
      have eL : (A ++ out).length = A.length + k := by rw [List.length_append, HL.out]
      have hr2 := fun s => row_mid hr s
      rw [eL] at c3 hr2
      have HR2 := Lib.hid hr2
      clear eL hr2
      have c4 := hr.frozen (A.length + k)
      clear hcell
      go_wp2_with fail
      refine (timesPlus_any x m cc wx hm hcc _).mono ?_
      rintro e w' ⟨rfl, h, l, rfl, hl1, hh, E1⟩
      obtain ⟨s, k', hs, hk', E2, hrun⟩ := add64_run0 y l wp hl1
      obtain ⟨t, ht, HT, hwr⟩ := wrap_add h k' (am_carry wx hm hcc wp E1.out E2.out)
      go_wp2
      go_roundw
      case rel => exact ⟨k + 1, t, out ++ [s], by omega, by go_num, ht, rfl, by show _ = _; simp [HL.out], hw.snoc hs, by simpa using HR2.out s, only_setCell hgr rfl _, by show _ = _; rw [← HS.out]; simp [World.setCell], by show _ = _; rw [HT.out]; exact am_step HL.out HV.out E1.out E2.out HX.out HY.out⟩
      case measure => simp [intOf]; omega
    · obtain rfl : k = ws.length := by omega
      go_wp2
      go_ret
      have hv := HV.out
      rw [List.take_length, ← HPL.out, List.take_length] at hv
      rw [List.drop_of_length_le (by rw [HPL.out]; exact Nat.le_refl _)] at hr
      exact ⟨out, cc, rfl, HL.out, hw, hcc, by rw [← HPL.out]; exact hv, by simpa using hr, hgr, HS.out⟩
theorem tm_step {x m c h l p s k' : Nat} {P ws out : List Nat} {k : Nat} (hk : out.length = k) (H : val out + m * val (ws.take k) = val (P.take k) + WB ^ k * c)
    (E1 : WB * h + l = x * m + c) (E2 : p + WB * k' = s + l) (hx : ws.getD k 0 = x) (hp : P.getD k 0 = p) :
    val (out ++ [s]) + m * val (ws.take (k + 1)) = val (P.take (k + 1)) + WB ^ (k + 1) * (h + k') := by
  rw [val_take_succ, val_take_succ, val_snoc, hk, hx, hp]
  have e : WB ^ (k + 1) * (h + k') = WB ^ k * (WB * (h + k')) := by rw [Nat.pow_succ, Nat.mul_assoc]
  have e1 : s + x * m + c = p + WB * (h + k') := by rw [Nat.mul_add]; omega
  have e2 : WB ^ k * s + WB ^ k * (x * m) + WB ^ k * c = WB ^ k * p + WB ^ k * (WB * (h + k')) := by rw [← Nat.mul_add, ← Nat.mul_add, e1, Nat.mul_add]
  have e3 : m * (val (ws.take k) + WB ^ k * x) = m * val (ws.take k) + WB ^ k * (x * m) := by
    rw [Nat.mul_add, Nat.mul_left_comm, Nat.mul_comm m x]
  omega
theorem tm_carry {x m c h l p s k' : Nat} (hx : Wd x) (hm : Wd m) (hc : Wd c) (hp : Wd p) (E1 : WB * h + l = x * m + c) (E2 : p + WB * k' = s + l) (hs : Wd s) : Wd (h + k') := by
  have hx' : x * m ≤ (WB - 1) * (WB - 1) := Nat.mul_le_mul (by unfold Wd at hx; omega) (by unfold Wd at hm; omega)
  unfold Wd WB at *
  omega

def PTm (P ws A C : List Nat) (m N g : Nat) (w : World) (e : Ending) (w' : World) : Prop :=
  ∃ (out : List Nat) (c : Nat), e = .returned (.int .u64 (c : Int)) ∧ out.length = ws.length ∧ Wds out ∧ Wd c ∧ val out + m * val ws = val P + WB ^ ws.length * c ∧
    w'.rowIs g 23 N (wf (A ++ (out ++ C))) ∧ w.grownBy w' (some g) ∧ w'.heap.size = w.heap.size

set_option maxRecDepth 100000 in
theorem takeMultiple_any (g cp m cw N : Nat) (p : Option Addr) (A P C ws : List Nat) (w : World) (hrow : w.rowIs g 23 N (wf (A ++ (P ++ C)))) (hN : A.length + ws.length ≤ N) (hP : P.length = ws.length) (wP : Wds P)
    (hws : Wds ws) (hg : Rd w g p ws) (hm : Wd m) (hl : ws.length ≤ 8000) :
    Calls Tryz.prog 162 #[.slice (some ⟨g, A.length, none⟩) ws.length cp, .slice p ws.length cw, .int .u64 (m : Int)] w (PTm P ws A C m N g w) := by
  have WS := Lib.hid hws
  have WP := Lib.hid wP
  have HPL := Lib.hid hP
  have HG := Lib.hid hg
  clear hws wP hP hg
  go_enter Tryz.func162, Tryz.ntmps162
  go_wp2
  go_loopw [7, 15] (fun c i wr => ∃ (k cc : Nat) (out : List Nat), k ≤ ws.length ∧ i = .int .i64 k ∧ Wd cc ∧ c = .int .u64 cc ∧ Hid (out.length = k) ∧ Wds out ∧ wr.rowIs g 23 N (wf (A ++ out ++ (P.drop k ++ C))) ∧ w.grownBy wr (some g) ∧
    Hid (wr.heap.size = w.heap.size) ∧ Hid (val out + m * val (ws.take k) = val (P.take k) + WB ^ k * cc)) (fun _ i _ => ws.length - (intOf i).toNat)
  case atStart => exact ⟨0, 0, [], Nat.zero_le _, rfl, Wd.zero, rfl, rfl, Wds.nil, by simpa using hrow, World.grownBy.refl _ _, rfl, by show _ = _; simp [val]⟩
  case round =>
    obtain ⟨k, cc, out, hk, rfl, hcc, rfl, HL, hw, hr, hgr, HS, HV⟩ := hrel
    by_cases hlt : k < ws.length
    · obtain ⟨b, o, rfl, hbg, hbl, hcell⟩ := HG.out k hlt
      have wx := WS.out.getD k
      have wp := WP.out.getD k
      have hd := drop_getD P k (by rw [HPL.out]; exact hlt)
      generalize hx : ws.getD k 0 = x at *
      generalize hy : P.getD k 0 = y at *
      rw [hd, List.cons_append] at hr
      have HX := Lib.hid hx; have HY := Lib.hid hy; have HD := Lib.hid hd
      clear hx hy hd
      have c1 := hgr.cell hcell (by simp; exact hbg)
      have c3 := hr.cell (i := (A ++ out).length) (by simp [HL.out]; omega)
      rw [wf_at] at c3
      have eL : (A ++ out).length = A.length + k := by rw [List.length_append, HL.out]
      have hr2 := fun s => row_mid hr s
      rw [eL] at c3 hr2
      have HR2 := Lib.hid hr2
      clear eL hr2
      have c4 := hr.frozen (A.length + k)
      clear hcell
      go_wp2_with fail
      refine (timesPlus_any x m cc wx hm hcc _).mono ?_
      rintro e w' ⟨rfl, h, l, rfl, hl1, hh, E1⟩
      obtain ⟨s, k', hs, hk', E2, hrun⟩ := sub64_run0 y l wp hl1
      obtain ⟨t, ht, HT, hwr⟩ := wrap_add h k' (tm_carry wx hm hcc wp E1.out E2.out hs)
      go_wp2
      go_roundw
      case rel => exact ⟨k + 1, t, out ++ [s], by omega, by go_num, ht, rfl, by show _ = _; simp [HL.out], hw.snoc hs, by simpa using HR2.out s, only_setCell hgr rfl _, by show _ = _; rw [← HS.out]; simp [World.setCell], by show _ = _; rw [HT.out]; exact tm_step HL.out HV.out E1.out E2.out HX.out HY.out⟩
      case measure => simp [intOf]; omega
    · obtain rfl : k = ws.length := by omega
      go_wp2
      go_ret
      have hv := HV.out
      rw [List.take_length, ← HPL.out, List.take_length] at hv
      rw [List.drop_of_length_le (by rw [HPL.out]; exact Nat.le_refl _)] at hr
      exact ⟨out, cc, rfl, HL.out, hw, hcc, by rw [← HPL.out]; exact hv, by simpa using hr, hgr, HS.out⟩
end Go.Proofs.YtjjomjjgoceklaaGreat
namespace Go.Proofs.YtjjomjjgoceklaaGreat
set_option maxRecDepth 100000
open Go.RowKit

theorem wf_zeros (n : Nat) : wf (List.replicate n 0) = wf [] := by
  funext j; unfold wf; simp only [List.getD_eq_getElem?_getD, List.getElem?_replicate, List.getElem?_nil]; split <;> rfl
theorem val_zeros (n : Nat) : val (List.replicate n 0) = 0 := by
  induction n with
  | zero => rfl
  | succ n ih => simp [List.replicate_succ, val, ih]
theorem Wds.zeros (n : Nat) : Wds (List.replicate n 0) := fun x hx => by rw [(List.mem_replicate.1 hx).2]; exact Wd.zero
theorem Sl.opened' {w : World} {v : Value} {ws : List Nat} (h : Sl w v ws) (B : Nat) (hB : w.heap.size ≤ B) : ∃ (p : Option Addr) (cap : Nat), v = .slice p ws.length cap ∧ Rd w B p ws := by
  obtain ⟨p, cap, rfl, _, hg⟩ := h.opened
  exact ⟨p, cap, rfl, fun i hi => by obtain ⟨b, o, h1, h2, h3⟩ := hg i hi; exact ⟨b, o, h1, by omega, h2, h3⟩⟩
theorem Rd.keep {w w' : World} {g B : Nat} {p : Option Addr} {ws : List Nat} (h : Rd w g p ws) (hb : Below B w w') (hB : w.heap.size ≤ B) : Rd w' g p ws := fun i hi => by
  obtain ⟨b, o, h1, h2, h3, h4⟩ := h i hi
  exact ⟨b, o, h1, h2, Nat.lt_of_lt_of_le h3 hb.size, (hb.cell (p := ⟨b, o + i, none⟩) (Nat.lt_of_lt_of_le h3 hB)).trans h4⟩
theorem mul_step {x c k lb : Nat} {a b out P' : List Nat} (hk : out.length = k + lb) (hb : b.length = lb) (hP' : P'.length = lb) (H : val out = val (a.take k) * val b) (E : val P' + WB ^ lb * c = val (out.drop k) + x * val b)
    (hx : a.getD k 0 = x) : val (out.take k ++ P' ++ [c]) = val (a.take (k + 1)) * val b := by
  rw [val_take_succ, hx, val_snoc, val_append]
  have e0 : (out.take k ++ P').length = k + lb := by simp [hP']; omega
  have e1 : (out.take k).length = k := by simp; omega
  rw [e0, e1]
  have e2 : val out = val (out.take k) + WB ^ k * val (out.drop k) := by
    have := val_append (out.take k) (out.drop k)
    rw [List.take_append_drop, e1] at this; exact this
  have e3 : WB ^ (k + lb) * c = WB ^ k * (WB ^ lb * c) := by rw [Nat.pow_add, Nat.mul_assoc]
  have e4 : WB ^ k * val P' + WB ^ k * (WB ^ lb * c) = WB ^ k * val (out.drop k) + WB ^ k * (x * val b) := by rw [← Nat.mul_add, E, Nat.mul_add]
  have e5 : (val (a.take k) + WB ^ k * x) * val b = val (a.take k) * val b + WB ^ k * (x * val b) := by rw [Nat.add_mul, Nat.mul_assoc]
  omega

set_option maxRecDepth 100000 in
theorem multiplyWords_any (va vb : Value) (a b : List Nat) (w : World) (ha : Sl w va a) (hb : Sl w vb b) (hla : a.length ≤ 2000) (hlb : b.length ≤ 2000) :
    Calls Tryz.prog 135 #[va, vb] w fun e w' => ∃ ws, Wds ws ∧ val ws = val a * val b ∧ PSn (norm ws) w e w' := by
  have wa := ha.1
  have wb := hb.1
  obtain ⟨pa, ca, rfl, hga⟩ := ha.opened' w.heap.size (Nat.le_refl _)
  obtain ⟨pb, cb, rfl, hgb⟩ := hb.opened' w.heap.size (Nat.le_refl _)
  have hmk : ∀ w : World, (Instr.makeSlice 138 (.int .i64 ((a.length : Int) + (b.length : Int))) (.int .i64 ((a.length : Int) + (b.length : Int)))).run Tryz.prog w = .ok (.slice (some ⟨w.heap.size, 0, none⟩) (a.length + b.length) (a.length + b.length)) (w.alloc (.cells (madeCells #[.int .u64 0] (a.length + b.length)) 23)) := mk_words (a.length + b.length) (by omega)
  clear ha hb
  have WA := Lib.hid wa
  have WBb := Lib.hid wb
  have HGA := Lib.hid hga
  have HGB := Lib.hid hgb
  clear wa wb hga hgb
  go_enter Tryz.func135, Tryz.ntmps135
  go_wp2
  clear hmk
  go_loopw [16] (fun i wr => ∃ (k : Nat) (out : List Nat), k ≤ a.length ∧ i = .int .i64 k ∧ Hid (out.length = k + b.length) ∧ Wds out ∧ wr.rowIs w.heap.size 23 (a.length + b.length) (wf out) ∧ Below w.heap.size w wr ∧ Hid (val out = val (a.take k) * val b))
     (fun i _ => a.length - (intOf i).toNat)
  case atStart => exact ⟨0, List.replicate b.length 0, Nat.zero_le _, rfl, by show _ = _; simp, Wds.zeros _, by rw [wf_zeros]; exact row_new _ _, (Below.refl _ _).alloc (Nat.le_refl _) _, by show _ = _; simp [val, val_zeros]⟩
  case round =>
    obtain ⟨k, out, hk, rfl, HL, hw, hr, hbel, HV⟩ := hrel
    by_cases hlt : k < a.length
    · obtain ⟨ba, oa, rfl, hbg, hbl, hcell⟩ := HGA.out k hlt
      have wx := WA.out.getD k
      generalize hx : a.getD k 0 = x at *
      have HX := Lib.hid hx
      clear hx
      have c1 := (hbel.cell (p := ⟨ba, oa + k, none⟩) hbl).trans hcell
      clear hcell
      have eT : (out.take k).length = k := by rw [List.length_take, HL.out]; omega
      have eD : (out.drop k).length = b.length := by rw [List.length_drop, HL.out]; omega
      have hr' : wr.rowIs w.heap.size 23 (a.length + b.length) (wf (out.take k ++ (out.drop k ++ []))) := by rw [List.append_nil, List.take_append_drop]; exact hr
      have ham := addMultiple_any w.heap.size (a.length + b.length - k) x cb (a.length + b.length) pb (out.take k) (out.drop k) [] b wr hr' (by rw [eT]; omega) eD (fun y hy => hw y (List.mem_of_mem_drop hy)) WBb.out (HGB.out.keep hbel (Nat.le_refl _)) wx (by omega)
      rw [eT] at ham
      have HAM := Lib.hid ham
      have ET := Lib.hid eT; have ED := Lib.hid eD
      clear ham eT eD hr hr'
      go_wp2_with fail
      refine HAM.out.mono ?_
      rintro e w' ⟨out', c, rfl, hlen, hw', hc, hval, hr2, hgr, hsz⟩
      rw [List.append_nil] at hr2
      have eL : (out.take k ++ out').length = k + b.length := by rw [List.length_append, ET.out, hlen]
      have c3 := hr2.cell (i := k + b.length) (by omega)
      have c4 := hr2.frozen (k + b.length)
      have hb2 := hbel.grown hgr hbel.size (fun j e => by cases e; exact Nat.le_refl _)
      have hr3 := row_push hr2 c
      rw [eL] at hr3
      have hb3 := hb2.setCell (p := ⟨w.heap.size, k + b.length, none⟩) (Nat.le_refl _) (.int .u64 (c : Int))
      have EL := Lib.hid eL; have HLEN := Lib.hid hlen; have HVAL := Lib.hid hval; have HSZ := Lib.hid hsz
      clear eL hlen hval hsz
      go_wp2
      go_roundw
      case rel => exact ⟨k + 1, out.take k ++ out' ++ [c], by omega, by go_num, by show _ = _; rw [List.length_append, EL.out]; simp; omega, Wds.snoc (fun y hy => (List.mem_append.1 hy).elim (fun h => hw y (List.mem_of_mem_take h)) (hw' y)) hc, hr3, hb3, mul_step HL.out rfl HLEN.out HV.out HVAL.out HX.out⟩
      case measure => simp [intOf]; omega
    · obtain rfl : k = a.length := by omega
      have hsl := Sl.of_row hr HL.out hw (by omega) (Nat.le_refl _)
      go_wp2_with (go_at_call 143; refine (trim_any _ _ _ hsl).mono ?_; rintro e w' ⟨rfl, v', rfl, hv'⟩)
      go_ret
      exact ⟨_, hw, by rw [HV.out, List.take_length], hbel, _, rfl, hv'⟩
end Go.Proofs.YtjjomjjgoceklaaGreat
namespace Go.Proofs.YtjjomjjgoceklaaGreat
set_option maxRecDepth 100000
open Go.RowKit

theorem quiet_add {P : Program} {f : FuncId} {args : Array Value} {w : World} {a n : Nat} {v : Value}
    (h : Calls P f args (w.drewN (a + n)) fun e w' => e = .returned v ∧ w' = w.drewN (a + n)) :
    Calls P f args (w.drewN (a + n)) fun e w'' => e = .returned v ∧ ∃ m, w'' = w.drewN (a + m) :=
  h.mono fun _ _ ⟨he, hm⟩ => ⟨he, n, hm⟩
theorem below_drewN {B : Nat} {a w : World} (h : Below B a w) (n : Nat) : Below B a (w.drewN n) := ⟨h.os, h.tape, h.output, h.size, h.block⟩

theorem signOf_t (w : World) : Calls Tryz.prog 90 #[.bool true] w fun e w' => e = .returned (.int .i64 1) ∧ w' = w := by
  go_enter Tryz.func90, Tryz.ntmps90
  go_wp2
  go_ret
  exact ⟨rfl, rfl⟩
theorem signOf_f (w : World) : Calls Tryz.prog 90 #[.bool false] w fun e w' => e = .returned (.int .i64 (-1)) ∧ w' = w := by
  go_enter Tryz.func90, Tryz.ntmps90
  go_wp2
  go_ret
  exact ⟨rfl, rfl⟩

def cmpN (m n : Nat) : Int := if m < n then -1 else if m = n then 0 else 1
theorem cmpN_lt {m n : Nat} (h : m < n) : cmpN m n = -1 := by unfold cmpN; rw [if_pos h]
theorem cmpN_gt {m n : Nat} (h : n < m) : cmpN m n = 1 := by unfold cmpN; rw [if_neg (by omega), if_neg (by omega)]
theorem cmpN_eq {m n : Nat} (h : m = n) : cmpN m n = 0 := by unfold cmpN; rw [if_neg (by omega), if_pos h]

theorem val_ge (l : List Nat) (h : Nrm l) (hne : l ≠ []) : WB ^ (l.length - 1) ≤ val l := by
  obtain ⟨r, x, rfl⟩ : ∃ r x, l = r ++ [x] := ⟨l.dropLast, l.getLast hne, (List.dropLast_concat_getLast hne).symm⟩
  have hx : x ≠ 0 := by unfold Nrm at h; simpa using h
  rw [val_snoc]
  simp only [List.length_append, List.length_singleton, Nat.add_sub_cancel]
  have : WB ^ r.length * 1 ≤ WB ^ r.length * x := Nat.mul_le_mul_left _ (by omega)
  omega
theorem val_len_lt {a b : List Nat} (ha : Wds a) (hb : Nrm b) (h : a.length < b.length) : val a < val b := by
  have h1 := val_lt a ha
  have h2 := val_ge b hb (by intro e; rw [e] at h; simp at h)
  have h3 : WB ^ a.length ≤ WB ^ (b.length - 1) := Nat.pow_le_pow_right WB_pos (by omega)
  omega
theorem val_split (l : List Nat) (i : Nat) (h : i < l.length) : val l = val (l.take i) + WB ^ i * (l.getD i 0 + WB * val (l.drop (i + 1))) := by
  have := val_append (l.take i) (l.drop i)
  rw [List.take_append_drop, List.length_take, Nat.min_eq_left (Nat.le_of_lt h), drop_getD l i h] at this
  exact this
theorem val_cmp_at {a b : List Nat} (ha : Wds a) (i : Nat) (hia : i < a.length) (hib : i < b.length) (hd : a.drop (i + 1) = b.drop (i + 1)) (hlt : a.getD i 0 < b.getD i 0) : val a < val b := by
  rw [val_split a i hia, val_split b i hib, hd]
  have h1 := val_lt (a.take i) (fun x hx => ha x (List.mem_of_mem_take hx))
  rw [List.length_take, Nat.min_eq_left (Nat.le_of_lt hia)] at h1
  have h2 : WB ^ i * (a.getD i 0 + WB * val (b.drop (i + 1)) + 1) ≤ WB ^ i * (b.getD i 0 + WB * val (b.drop (i + 1))) := Nat.mul_le_mul_left _ (by omega)
  rw [Nat.mul_add (WB ^ i) _ 1] at h2
  omega

def PCmp (a b : List Nat) (w : World) (e : Ending) (w' : World) : Prop := Below w.heap.size w w' ∧ e = .returned (.int .i64 (cmpN (val a) (val b)))
theorem PCmp.ret {a b : List Nat} {w w' : World} {n : Int} (hb : Below w.heap.size w w') (h : cmpN (val a) (val b) = n) : PCmp a b w (.returned (.int .i64 n)) w' := ⟨hb, by rw [h]⟩

set_option maxRecDepth 100000 in
theorem compareWords_any (va vb : Value) (a b : List Nat) (w : World) (ha : Sl w va a) (hb : Sl w vb b) (na : Nrm a) (nb : Nrm b) : Calls Tryz.prog 138 #[va, vb] w (PCmp a b w) := by
  have wa := ha.1
  have wb := hb.1
  have la := ha.2.1
  have lb := hb.2.1
  obtain ⟨pa, ca, rfl, hga⟩ := ha.opened' w.heap.size (Nat.le_refl _)
  obtain ⟨pb, cb, rfl, hgb⟩ := hb.opened' w.heap.size (Nat.le_refl _)
  have NA := Lib.hid na; have NB := Lib.hid nb
  have WA := Lib.hid wa; have WBb := Lib.hid wb
  have HGA := Lib.hid hga; have HGB := Lib.hid hgb
  clear ha hb na nb wa wb hga hgb
  rcases Nat.lt_trichotomy a.length b.length with h | h | h
  · have h1 : ((a.length : Int) != (b.length : Int)) = true := by rw [bne_iff_ne]; omega
    have h2 : decide ((b.length : Int) < (a.length : Int)) = false := by simp; omega
    have h3 : decide (b.length < a.length) = false := by simp; omega
    have h4 : (a.length != b.length) = true := by rw [bne_iff_ne]; omega
    go_enter Tryz.func138, Tryz.ntmps138
    go_wp2_with (go_at_call 90; refine (signOf_f _).mono ?_; rintro e w' ⟨rfl, rfl⟩)
    go_ret
    exact PCmp.ret (Below.refl _ _) (cmpN_lt (val_len_lt WA.out NB.out h))
  · have h1 : ((a.length : Int) != (b.length : Int)) = false := by rw [h]; simp
    have h4 : (a.length != b.length) = false := by rw [h]; simp
    have HE := Lib.hid h
    clear h
    go_enter Tryz.func138, Tryz.ntmps138
    go_wp2
    go_loopw [5] (fun i wr => ∃ k : Nat, k ≤ a.length ∧ i = .int .i64 ((k : Int) - 1) ∧ Below w.heap.size w wr ∧ Hid (a.drop k = b.drop k)) (fun i _ => (intOf i + 1).toNat)
    case atStart => exact ⟨a.length, Nat.le_refl _, rfl, Below.refl _ _, by show _ = _; rw [List.drop_length, HE.out, List.drop_length]⟩
    case round =>
      obtain ⟨k, hk, rfl, hbel, HD⟩ := hrel
      cases k with
      | zero =>
        go_wp2
        go_ret
        have hd := HD.out
        simp only [List.drop_zero] at hd
        exact PCmp.ret hbel (cmpN_eq (by rw [hd]))
      | succ j =>
        have hjb : j < b.length := by have := HE.out; omega
        obtain ⟨ba, oa, rfl, _, hbl, hcell⟩ := HGA.out j (by omega)
        obtain ⟨bb, ob, rfl, _, hbl2, hcell2⟩ := HGB.out j hjb
        have e1 : ((j + 1 : Nat) : Int) - 1 = (j : Int) := by omega
        rw [e1]
        have c1 := (hbel.cell (p := ⟨ba, oa + j, none⟩) hbl).trans hcell
        have c2 := (hbel.cell (p := ⟨bb, ob + j, none⟩) hbl2).trans hcell2
        clear hcell hcell2 e1
        have b1 : (j : Int) < (a.length : Int) := by omega
        have b2 : (j : Int) < (b.length : Int) := by omega
        have CA := Lib.hid (fun hlt => val_cmp_at (a := a) (b := b) WA.out j (by omega) hjb HD.out hlt)
        have CB := Lib.hid (fun hlt => val_cmp_at (a := b) (b := a) WBb.out j hjb (by omega) HD.out.symm hlt)
        have CE := Lib.hid (drop_getD a j (by omega))
        have CF := Lib.hid (drop_getD b j hjb)
        generalize hx : a.getD j 0 = x at *
        generalize hy : b.getD j 0 = y at *
        clear hx hy
        rcases Nat.lt_trichotomy x y with hxy | hxy | hxy
        · have g1 : ((x : Int) != (y : Int)) = true := by rw [bne_iff_ne]; omega
          have g2 : decide (y < x) = false := by simp; omega
          go_wp2
          go_quiet (fail)
          go_wp2
          go_quiet ((go_at_call 90; first | exact quiet_add (signOf_f _) | exact Calls.quiet_of_same (signOf_f _)))
          go_wp2
          go_ret
          exact PCmp.ret (below_drewN (below_drewN hbel _) _) (cmpN_lt (CA.out hxy))
        · subst hxy
          clear CA CB
          go_wp2
          go_quiet (fail)
          go_wp2
          go_roundw
          case rel => exact ⟨j, by omega, rfl, below_drewN hbel _, by show _ = _; rw [CE.out, CF.out, HD.out]⟩
          case measure => simp [intOf]
        · have g1 : ((x : Int) != (y : Int)) = true := by rw [bne_iff_ne]; omega
          have g2 : decide (y < x) = true := by simp; omega
          go_wp2
          go_quiet (fail)
          go_wp2
          go_quiet ((go_at_call 90; first | exact quiet_add (signOf_t _) | exact Calls.quiet_of_same (signOf_t _)))
          go_wp2
          go_ret
          exact PCmp.ret (below_drewN (below_drewN hbel _) _) (cmpN_gt (CB.out hxy))
  · have h1 : ((a.length : Int) != (b.length : Int)) = true := by rw [bne_iff_ne]; omega
    have h2 : decide ((b.length : Int) < (a.length : Int)) = true := by simp; omega
    have h3 : decide (b.length < a.length) = true := by simp; omega
    have h4 : (a.length != b.length) = true := by rw [bne_iff_ne]; omega
    go_enter Tryz.func138, Tryz.ntmps138
    go_wp2_with (go_at_call 90; refine (signOf_t _).mono ?_; rintro e w' ⟨rfl, rfl⟩)
    go_ret
    exact PCmp.ret (Below.refl _ _) (cmpN_gt (val_len_lt WBb.out NA.out h))
end Go.Proofs.YtjjomjjgoceklaaGreat
