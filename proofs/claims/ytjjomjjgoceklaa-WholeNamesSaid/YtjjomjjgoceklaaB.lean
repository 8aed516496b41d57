import Derived.Test.YtjjomjjgoceklaaM
namespace Go.Proofs.Ytjjomjjgoceklaa
open Go.RowKit

theorem Try.info24 : (Try.prog.info? 24).map (fun i => (i.zero, i.size, i.bytes)) = some (some (.int .u64 0), 1, 8) := by kernel_rfl

/-- cell i of a row that holds the words out, and 0 behind them -/
def wf (out : List Nat) : Nat → Value := fun i => .int .u64 ((out.getD i 0 : Nat) : Int)

theorem val_take_succ (l : List Nat) (k : Nat) : val (l.take (k + 1)) = val (l.take k) + WB ^ k * l.getD k 0 := by
  by_cases h : k < l.length
  · rw [take_succ_getD l k h, val_append]; simp [val, Nat.min_eq_left (Nat.le_of_lt h)]
  · rw [List.take_of_length_le (by omega), List.take_of_length_le (by omega), List.getD_eq_getElem?_getD, List.getElem?_eq_none (by omega)]; simp
theorem val_snoc (l : List Nat) (x : Nat) : val (l ++ [x]) = val l + WB ^ l.length * x := by rw [val_append]; simp [val]
theorem Wds.snoc {l : List Nat} {x : Nat} (h : Wds l) (hx : Wd x) : Wds (l ++ [x]) := by
  intro y hy
  rcases List.mem_append.1 hy with hy | hy
  · exact h y hy
  · simp only [List.mem_singleton] at hy; rw [hy]; exact hx
theorem Wds.nil : Wds [] := fun _ h => nomatch h
theorem Wds.getD {l : List Nat} (h : Wds l) (i : Nat) : Wd (l.getD i 0) := by
  by_cases hi : i < l.length
  · rw [List.getD_eq_getElem?_getD, List.getElem?_eq_getElem hi]; exact h _ (List.getElem_mem hi)
  · rw [List.getD_eq_getElem?_getD, List.getElem?_eq_none (by omega)]; exact Wd.zero
theorem row_push {w : World} {b t n : Nat} {out : List Nat} (h : w.rowIs b t n (wf out)) (s : Nat) : (w.setCell ⟨b, out.length, none⟩ (.int .u64 (s : Int))).rowIs b t n (wf (out ++ [s])) := by
  refine (h.set out.length _).congr (fun j _ => ?_)
  unfold wf
  by_cases e : j = out.length
  · subst e; simp [List.getD_eq_getElem?_getD]
  · rw [if_neg e]
    simp only [List.getD_eq_getElem?_getD]
    by_cases hj : j < out.length
    · rw [List.getElem?_append_left hj]
    · rw [List.getElem?_eq_none (by omega), List.getElem?_eq_none (by simp; omega)]
theorem row_new (w : World) (n : Nat) : (w.alloc (.cells (madeCells #[.int .u64 0] n) 24)).rowIs w.heap.size 24 n (wf []) := (World.rowIs_made w _ n 24).congr (fun j _ => by simp [wf])
theorem Sl.of_row {w : World} {b n cap : Nat} {out : List Nat} (h : w.rowIs b 24 n (wf out)) (hl : out.length = n) (hw : Wds out) (h1 : n ≤ 4096) (hc : n ≤ cap) : Sl w (.slice (some ⟨b, 0, none⟩) n cap) out := by
  subst hl
  exact ⟨hw, h1, .inr ⟨b, 0, cap, rfl, hc, h.lt, fun i hi => by rw [Nat.zero_add]; exact h.cell hi⟩⟩
/-- a slice's parts -/
theorem Sl.opened {w : World} {v : Value} {ws : List Nat} (h : Sl w v ws) : ∃ (p : Option Addr) (cap : Nat), v = .slice p ws.length cap ∧ ws.length ≤ cap ∧
    ∀ i, i < ws.length → ∃ b o : Nat, p = some ⟨b, o, none⟩ ∧ b < w.heap.size ∧ w.cell? ⟨b, o + i, none⟩ = some (.int .u64 ((ws.getD i 0 : Nat) : Int)) := by
  obtain ⟨_, _, ⟨rfl, rfl⟩ | ⟨b, o, cap, rfl, hc, hlt, hcell⟩⟩ := h
  · exact ⟨none, 0, rfl, Nat.le_refl _, fun i hi => absurd hi (Nat.not_lt_zero _)⟩
  · exact ⟨_, cap, rfl, hc, fun i hi => ⟨b, o, rfl, hlt, hcell i hi⟩⟩

/-- make([]uint64, n+1) -/
theorem mk_words1 (n : Nat) (hn : n ≤ 4000) : ∀ w : World, (Instr.makeSlice 102 (.int .i64 ((n : Int) + 1)) (.int .i64 ((n : Int) + 1))).run Try.prog w = .ok (.slice (some ⟨w.heap.size, 0, none⟩) (n + 1) (n + 1)) (w.alloc (.cells (madeCells #[.int .u64 0] (n + 1)) 24)) :=
  run_make_row' (P := Try.prog) 102 24 (.int .u64 0) 8 Try.underlying102 Try.info24 rfl .i64 .i64 (n + 1) (by omega) (by omega)
theorem mk_words (n : Nat) (hn : n ≤ 9000) : ∀ w : World, (Instr.makeSlice 102 (.int .i64 (n : Int)) (.int .i64 (n : Int))).run Try.prog w = .ok (.slice (some ⟨w.heap.size, 0, none⟩) n n) (w.alloc (.cells (madeCells #[.int .u64 0] n) 24)) :=
  run_make_row' (P := Try.prog) 102 24 (.int .u64 0) 8 Try.underlying102 Try.info24 rfl .i64 .i64 n (by omega) (by omega)
/-- new words in new memory -/
def PSn (ws : List Nat) (w : World) (e : Ending) (w' : World) : Prop := Below w.heap.size w w' ∧ ∃ v', e = .returned v' ∧ Sl w' v' ws

theorem add_step {x y c s k' : Nat} {a b out : List Nat} {k : Nat} (hk : out.length = k) (H : val out + WB ^ k * c = val (a.take k) + val (b.take k)) (E : s + WB * k' = x + y + c)
    (hx : a.getD k 0 = x) (hy : b.getD k 0 = y) : val (out ++ [s]) + WB ^ (k + 1) * k' = val (a.take (k + 1)) + val (b.take (k + 1)) := by
  rw [val_take_succ, val_take_succ, val_snoc, hk, hx, hy]
  have e : WB ^ (k + 1) * k' = WB ^ k * (WB * k') := by rw [Nat.pow_succ, Nat.mul_assoc]
  have e2 : WB ^ k * s + WB ^ k * (WB * k') = WB ^ k * x + WB ^ k * y + WB ^ k * c := by rw [← Nat.mul_add, E, Nat.mul_add, Nat.mul_add]
  omega

set_option maxRecDepth 100000 in
theorem addWords_any (va vb : Value) (a b : List Nat) (w : World) (ha : Sl w va a) (hb : Sl w vb b) (hla : a.length ≤ 4000) (_hlb : b.length ≤ 4000) (hle : b.length ≤ a.length) :
    Calls Try.prog 80 #[va, vb] w fun e w' => ∃ ws, Wds ws ∧ val ws = val a + val b ∧ PSn (norm ws) w e w' := by
  have wa := ha.1
  have wb := hb.1
  obtain ⟨pa, ca, rfl, hca, hga⟩ := ha.opened
  obtain ⟨pb, cb, rfl, hcb, hgb⟩ := hb.opened
  have hmk := mk_words1 a.length hla
  clear ha hb
  have WA := Lib.hid wa
  have WBb := Lib.hid wb
  clear wa wb
  go_enter Try.func80, Try.ntmps80
  go_wp2
  clear hmk
  go_loopw [6, 23] (fun c i wr => ∃ (k cc : Nat) (out : List Nat), k ≤ a.length ∧ i = .int .i64 k ∧ cc ≤ 1 ∧ c = .int .u64 cc ∧ Hid (out.length = k) ∧ Wds out ∧ wr.rowIs w.heap.size 24 (a.length + 1) (wf out) ∧ Below w.heap.size w wr ∧
    Hid (val out + WB ^ k * cc = val (a.take k) + val (b.take k))) (fun _ i _ => a.length - (intOf i).toNat)
  case atStart => exact ⟨0, 0, [], Nat.zero_le _, rfl, Nat.zero_le _, rfl, rfl, Wds.nil, row_new _ _, (Below.refl _ _).alloc (Nat.le_refl _) _, by show _ = _; simp [val]⟩
  case round =>
    obtain ⟨k, cc, out, hk, rfl, hcc, rfl, HL, hw, hrow, hbel, HV⟩ := hrel
    by_cases hlt : k < a.length
    · by_cases hltb : k < b.length
      · obtain ⟨ba, oa, rfl, hba, hcella⟩ := hga k hlt
        obtain ⟨bb, ob, rfl, hbb, hcellb⟩ := hgb k hltb
        have wx := WA.out.getD k
        have wy := WBb.out.getD k
        generalize hx : a.getD k 0 = x at *
        generalize hy : b.getD k 0 = y at *
        have HX := Lib.hid hx; have HY := Lib.hid hy
        clear hx hy hga hgb
        obtain ⟨s, k', hs, hk', HE, hrun⟩ := add64_run x y cc hcc wx wy
        have c1 := (hbel.cell (p := ⟨ba, oa + k, none⟩) hba).trans hcella
        have c2 := (hbel.cell (p := ⟨bb, ob + k, none⟩) hbb).trans hcellb
        have c3 := hrow.cell (i := k) (by omega)
        have c4 := hrow.frozen k
        clear hcella hcellb
        go_wp2
        have HL' := HL.out
        subst HL'
        go_roundw
        case rel => exact ⟨out.length + 1, k', out ++ [s], by omega, by go_num, hk', rfl, by show _ = _; simp, hw.snoc hs, row_push hrow s, hbel.setCell (Nat.le_refl _) _, add_step rfl HV.out HE.out HX.out HY.out⟩
        case measure => simp [intOf]; omega
      · obtain ⟨ba, oa, rfl, hba, hcella⟩ := hga k hlt
        have wx := WA.out.getD k
        have hy : b.getD k 0 = 0 := by rw [List.getD_eq_getElem?_getD, List.getElem?_eq_none (by omega)]; rfl
        generalize hx : a.getD k 0 = x at *
        have HX := Lib.hid hx; have HY := Lib.hid hy
        clear hx hy hga hgb
        obtain ⟨s, k', hs, hk', HE, hrun⟩ := add64_run x 0 cc hcc wx Wd.zero
        have hrun : ∀ w : World, (callFunc 78 #[.int .u64 (x : Int), .int .u64 0, .int .u64 (cc : Int)]).run Try.prog w = .ok (.value (.tuple #[.int .u64 (s : Int), .int .u64 (k' : Int)])) w := hrun
        have c1 := (hbel.cell (p := ⟨ba, oa + k, none⟩) hba).trans hcella
        have c3 := hrow.cell (i := k) (by omega)
        have c4 := hrow.frozen k
        clear hcella
        go_wp2
        have HL' := HL.out
        subst HL'
        go_roundw
        case rel => exact ⟨out.length + 1, k', out ++ [s], by omega, by go_num, hk', rfl, by show _ = _; simp, hw.snoc hs, row_push hrow s, hbel.setCell (Nat.le_refl _) _, add_step rfl HV.out HE.out HX.out HY.out⟩
        case measure => simp [intOf]; omega
    · obtain rfl : k = a.length := by omega
      have c3 := hrow.cell (i := a.length) (by omega)
      have c4 := hrow.frozen a.length
      have hr2 := row_push hrow cc
      rw [HL.out] at hr2
      have hb2 := hbel.setCell (p := ⟨w.heap.size, a.length, none⟩) (Nat.le_refl _) (.int .u64 (cc : Int))
      have wc : Wd cc := by unfold Wd WB; omega
      have hsl := Sl.of_row hr2 (by simp [HL.out]) (hw.snoc wc) (by omega) (Nat.le_refl _)
      clear hga hgb
      go_wp2_with (go_at_call 97; refine (trim_any _ _ _ hsl).mono ?_; rintro e w' ⟨rfl, v', rfl, hv'⟩)
      go_ret
      refine ⟨_, hw.snoc wc, ?_, hb2, _, rfl, hv'⟩
      have hv := HV.out
      rw [List.take_length, List.take_of_length_le hle] at hv
      rw [val_snoc, HL.out]; exact hv
set_option maxRecDepth 100000 in
theorem addWords_swap (va vb : Value) (a b : List Nat) (w : World) (ha : Sl w va a) (hb : Sl w vb b) (hla : a.length ≤ 4000) (_hlb : b.length ≤ 4000) (hlt0 : b.length < a.length) :
    Calls Try.prog 80 #[vb, va] w fun e w' => ∃ ws, Wds ws ∧ val ws = val a + val b ∧ PSn (norm ws) w e w' := by
  have hle : b.length ≤ a.length := by omega
  have wa := ha.1
  have wb := hb.1
  obtain ⟨pa, ca, rfl, hca, hga⟩ := ha.opened
  obtain ⟨pb, cb, rfl, hcb, hgb⟩ := hb.opened
  have hmk := mk_words1 a.length hla
  clear ha hb
  have WA := Lib.hid wa
  have WBb := Lib.hid wb
  clear wa wb
  go_enter Try.func80, Try.ntmps80
  go_wp2
  clear hmk
  go_loopw [6, 23] (fun c i wr => ∃ (k cc : Nat) (out : List Nat), k ≤ a.length ∧ i = .int .i64 k ∧ cc ≤ 1 ∧ c = .int .u64 cc ∧ Hid (out.length = k) ∧ Wds out ∧ wr.rowIs w.heap.size 24 (a.length + 1) (wf out) ∧ Below w.heap.size w wr ∧
    Hid (val out + WB ^ k * cc = val (a.take k) + val (b.take k))) (fun _ i _ => a.length - (intOf i).toNat)
  case atStart => exact ⟨0, 0, [], Nat.zero_le _, rfl, Nat.zero_le _, rfl, rfl, Wds.nil, row_new _ _, (Below.refl _ _).alloc (Nat.le_refl _) _, by show _ = _; simp [val]⟩
  case round =>
    obtain ⟨k, cc, out, hk, rfl, hcc, rfl, HL, hw, hrow, hbel, HV⟩ := hrel
    by_cases hlt : k < a.length
    · by_cases hltb : k < b.length
      · obtain ⟨ba, oa, rfl, hba, hcella⟩ := hga k hlt
        obtain ⟨bb, ob, rfl, hbb, hcellb⟩ := hgb k hltb
        have wx := WA.out.getD k
        have wy := WBb.out.getD k
        generalize hx : a.getD k 0 = x at *
        generalize hy : b.getD k 0 = y at *
        have HX := Lib.hid hx; have HY := Lib.hid hy
        clear hx hy hga hgb
        obtain ⟨s, k', hs, hk', HE, hrun⟩ := add64_run x y cc hcc wx wy
        have c1 := (hbel.cell (p := ⟨ba, oa + k, none⟩) hba).trans hcella
        have c2 := (hbel.cell (p := ⟨bb, ob + k, none⟩) hbb).trans hcellb
        have c3 := hrow.cell (i := k) (by omega)
        have c4 := hrow.frozen k
        clear hcella hcellb
        go_wp2
        have HL' := HL.out
        subst HL'
        go_roundw
        case rel => exact ⟨out.length + 1, k', out ++ [s], by omega, by go_num, hk', rfl, by show _ = _; simp, hw.snoc hs, row_push hrow s, hbel.setCell (Nat.le_refl _) _, add_step rfl HV.out HE.out HX.out HY.out⟩
        case measure => simp [intOf]; omega
      · obtain ⟨ba, oa, rfl, hba, hcella⟩ := hga k hlt
        have wx := WA.out.getD k
        have hy : b.getD k 0 = 0 := by rw [List.getD_eq_getElem?_getD, List.getElem?_eq_none (by omega)]; rfl
        generalize hx : a.getD k 0 = x at *
        have HX := Lib.hid hx; have HY := Lib.hid hy
        clear hx hy hga hgb
        obtain ⟨s, k', hs, hk', HE, hrun⟩ := add64_run x 0 cc hcc wx Wd.zero
        have hrun : ∀ w : World, (callFunc 78 #[.int .u64 (x : Int), .int .u64 0, .int .u64 (cc : Int)]).run Try.prog w = .ok (.value (.tuple #[.int .u64 (s : Int), .int .u64 (k' : Int)])) w := hrun
        have c1 := (hbel.cell (p := ⟨ba, oa + k, none⟩) hba).trans hcella
        have c3 := hrow.cell (i := k) (by omega)
        have c4 := hrow.frozen k
        clear hcella
        go_wp2
        have HL' := HL.out
        subst HL'
        go_roundw
        case rel => exact ⟨out.length + 1, k', out ++ [s], by omega, by go_num, hk', rfl, by show _ = _; simp, hw.snoc hs, row_push hrow s, hbel.setCell (Nat.le_refl _) _, add_step rfl HV.out HE.out HX.out HY.out⟩
        case measure => simp [intOf]; omega
    · obtain rfl : k = a.length := by omega
      have c3 := hrow.cell (i := a.length) (by omega)
      have c4 := hrow.frozen a.length
      have hr2 := row_push hrow cc
      rw [HL.out] at hr2
      have hb2 := hbel.setCell (p := ⟨w.heap.size, a.length, none⟩) (Nat.le_refl _) (.int .u64 (cc : Int))
      have wc : Wd cc := by unfold Wd WB; omega
      have hsl := Sl.of_row hr2 (by simp [HL.out]) (hw.snoc wc) (by omega) (Nat.le_refl _)
      clear hga hgb
      go_wp2_with (go_at_call 97; refine (trim_any _ _ _ hsl).mono ?_; rintro e w' ⟨rfl, v', rfl, hv'⟩)
      go_ret
      refine ⟨_, hw.snoc wc, ?_, hb2, _, rfl, hv'⟩
      have hv := HV.out
      rw [List.take_length, List.take_of_length_le hle] at hv
      rw [val_snoc, HL.out]; exact hv

/-- addWords, any lengths -/
theorem addWords_both (va vb : Value) (a b : List Nat) (w : World) (ha : Sl w va a) (hb : Sl w vb b) (hla : a.length ≤ 4000) (hlb : b.length ≤ 4000) :
    Calls Try.prog 80 #[va, vb] w fun e w' => ∃ ws, Wds ws ∧ val ws = val a + val b ∧ PSn (norm ws) w e w' := by
  by_cases h : b.length ≤ a.length
  · exact addWords_any va vb a b w ha hb hla hlb h
  · refine (addWords_swap vb va b a w hb ha hlb hla (by omega)).mono fun e w' ⟨ws, h1, h2, h3⟩ => ⟨ws, h1, by rw [h2, Nat.add_comm], h3⟩

theorem sub_step {x y c s k' : Nat} {a b out : List Nat} {k : Nat} (hk : out.length = k) (H : val out + val (b.take k) = val (a.take k) + WB ^ k * c) (E : x + WB * k' = s + y + c)
    (hx : a.getD k 0 = x) (hy : b.getD k 0 = y) : val (out ++ [s]) + val (b.take (k + 1)) = val (a.take (k + 1)) + WB ^ (k + 1) * k' := by
  rw [val_take_succ, val_take_succ, val_snoc, hk, hx, hy]
  have e : WB ^ (k + 1) * k' = WB ^ k * (WB * k') := by rw [Nat.pow_succ, Nat.mul_assoc]
  have e2 : WB ^ k * x + WB ^ k * (WB * k') = WB ^ k * s + WB ^ k * y + WB ^ k * c := by rw [← Nat.mul_add, E, Nat.mul_add, Nat.mul_add]
  omega
theorem sub_end {a b out : List Nat} {n cc : Nat} (ho : out.length = n) (hw : Wds out) (hle : b.length ≤ n) (hn : a.length = n) (HV : val out + val (b.take n) = val (a.take n) + WB ^ n * cc) (hcc : cc ≤ 1) (hv : val b ≤ val a) :
    val out = val a - val b := by
  have h1 := val_lt out hw
  rw [ho] at h1
  rw [List.take_of_length_le hle, ← hn, List.take_length] at HV
  rw [hn] at HV
  have : cc = 0 := by
    rcases Nat.lt_or_ge cc 1 with h | h
    · omega
    · have : cc = 1 := by omega
      subst this; omega
  subst this
  omega
set_option maxRecDepth 100000 in
theorem subtractWords_any (va vb : Value) (a b : List Nat) (w : World) (ha : Sl w va a) (hb : Sl w vb b) (hla : a.length ≤ 4000) (_hlb : b.length ≤ 4000) (hle : b.length ≤ a.length) (hval : val b ≤ val a) :
    Calls Try.prog 83 #[va, vb] w fun e w' => ∃ ws, Wds ws ∧ val ws = val a - val b ∧ PSn (norm ws) w e w' := by
  have wa := ha.1
  have wb := hb.1
  obtain ⟨pa, ca, rfl, hca, hga⟩ := ha.opened
  obtain ⟨pb, cb, rfl, hcb, hgb⟩ := hb.opened
  have hmk := mk_words a.length (by omega)
  have HVAL := Lib.hid hval
  clear ha hb hval
  have WA := Lib.hid wa
  have WBb := Lib.hid wb
  clear wa wb
  go_enter Try.func83, Try.ntmps83
  go_wp2
  clear hmk
  go_loopw [6, 15] (fun c i wr => ∃ (k cc : Nat) (out : List Nat), k ≤ a.length ∧ i = .int .i64 k ∧ cc ≤ 1 ∧ c = .int .u64 cc ∧ Hid (out.length = k) ∧ Wds out ∧ wr.rowIs w.heap.size 24 a.length (wf out) ∧ Below w.heap.size w wr ∧
    Hid (val out + val (b.take k) = val (a.take k) + WB ^ k * cc)) (fun _ i _ => a.length - (intOf i).toNat)
  case atStart => exact ⟨0, 0, [], Nat.zero_le _, rfl, Nat.zero_le _, rfl, rfl, Wds.nil, row_new _ _, (Below.refl _ _).alloc (Nat.le_refl _) _, by show _ = _; simp [val]⟩
  case round =>
    obtain ⟨k, cc, out, hk, rfl, hcc, rfl, HL, hw, hrow, hbel, HV⟩ := hrel
    by_cases hlt : k < a.length
    · by_cases hltb : k < b.length
      · obtain ⟨ba, oa, rfl, hba, hcella⟩ := hga k hlt
        obtain ⟨bb, ob, rfl, hbb, hcellb⟩ := hgb k hltb
        have wx := WA.out.getD k
        have wy := WBb.out.getD k
        generalize hx : a.getD k 0 = x at *
        generalize hy : b.getD k 0 = y at *
        have HX := Lib.hid hx; have HY := Lib.hid hy
        clear hx hy hga hgb
        obtain ⟨s, k', hs, hk', HE, hrun⟩ := sub64_run x y cc hcc wx wy
        have c1 := (hbel.cell (p := ⟨ba, oa + k, none⟩) hba).trans hcella
        have c2 := (hbel.cell (p := ⟨bb, ob + k, none⟩) hbb).trans hcellb
        have c3 := hrow.cell (i := k) (by omega)
        have c4 := hrow.frozen k
        clear hcella hcellb
        go_wp2
        have HL' := HL.out
        subst HL'
        go_roundw
        case rel => exact ⟨out.length + 1, k', out ++ [s], by omega, by go_num, hk', rfl, by show _ = _; simp, hw.snoc hs, row_push hrow s, hbel.setCell (Nat.le_refl _) _, sub_step rfl HV.out HE.out HX.out HY.out⟩
        case measure => simp [intOf]; omega
      · obtain ⟨ba, oa, rfl, hba, hcella⟩ := hga k hlt
        have wx := WA.out.getD k
        have hy : b.getD k 0 = 0 := by rw [List.getD_eq_getElem?_getD, List.getElem?_eq_none (by omega)]; rfl
        generalize hx : a.getD k 0 = x at *
        have HX := Lib.hid hx; have HY := Lib.hid hy
        clear hx hy hga hgb
        obtain ⟨s, k', hs, hk', HE, hrun⟩ := sub64_run x 0 cc hcc wx Wd.zero
        have hrun : ∀ w : World, (callFunc 98 #[.int .u64 (x : Int), .int .u64 0, .int .u64 (cc : Int)]).run Try.prog w = .ok (.value (.tuple #[.int .u64 (s : Int), .int .u64 (k' : Int)])) w := hrun
        have c1 := (hbel.cell (p := ⟨ba, oa + k, none⟩) hba).trans hcella
        have c3 := hrow.cell (i := k) (by omega)
        have c4 := hrow.frozen k
        clear hcella
        go_wp2
        have HL' := HL.out
        subst HL'
        go_roundw
        case rel => exact ⟨out.length + 1, k', out ++ [s], by omega, by go_num, hk', rfl, by show _ = _; simp, hw.snoc hs, row_push hrow s, hbel.setCell (Nat.le_refl _) _, sub_step rfl HV.out HE.out HX.out HY.out⟩
        case measure => simp [intOf]; omega
    · obtain rfl : k = a.length := by omega
      have hsl := Sl.of_row hrow HL.out hw (by omega) (Nat.le_refl _)
      clear hga hgb
      go_wp2_with (go_at_call 97; refine (trim_any _ _ _ hsl).mono ?_; rintro e w' ⟨rfl, v', rfl, hv'⟩)
      go_ret
      exact ⟨_, hw, sub_end HL.out hw hle rfl HV.out hcc HVAL.out, hbel, _, rfl, hv'⟩
end Go.Proofs.Ytjjomjjgoceklaa
