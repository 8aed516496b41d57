import Derived.Test.YtjjomjjgoceklaaZd
namespace Go.Proofs.Ytjjomjjgoceklaa
open Go.RowKit Go.Shelf
attribute [local go_sem] Oper.semAt_some

theorem Try.info5 : (Try.prog.info? 5).map (fun i => (i.zero, i.size, i.bytes)) = some (some (.int .u8 0), 1, 1) := by kernel_rfl
/-- the cells of digits -/
def dgv (pre : List (Fin 10)) : List Value := pre.map fun d => Value.int .u8 (48 + ((Fin.val d : Nat) : Int))
def sgv (s : Bool) : List Value := if s then [.int .u8 45] else []
theorem dgv_snoc (pre : List (Fin 10)) (d : Fin 10) : dgv (pre ++ [d]) = dgv pre ++ [.int .u8 (48 + ((Fin.val d : Nat) : Int))] := by simp [dgv]
def PTx (z : Int) (w : World) (e : Ending) (w' : World) : Prop := Below w.heap.size w w' ∧ e = .returned (.string (txt z))
/-- a row of bytes: its cells -/
theorem own_bytes {w : World} {base k : Nat} {v : Value} {l : List UInt8} (h : w.ownsRow base 5 1 v k (l.map fun b => .int .u8 (b.toNat : Int))) (hl : l ≠ []) : ∃ g cap : Nat, v = .slice (some ⟨g, 0, none⟩) l.length cap ∧
    ∀ j (hj : j < l.length), w.cell? (Addr.add ⟨g, 0, none⟩ j) = some (.int .u8 (l[j].toNat : Int)) := by
  have hn : l.length = k := by have := h.1; simpa using this
  subst hn
  obtain ⟨_, ⟨_, h0⟩ | ⟨g, cap, cur, rfl, hb, hg, hc, hm, hs, ht⟩⟩ := h
  · exact absurd (List.length_eq_zero_iff.1 h0) hl
  · refine ⟨g, cap, rfl, fun j hj => ?_⟩
    have h1 : cur.toList[j]? = some (.int .u8 (l[j].toNat : Int)) := by
      have h2 : (cur.toList.take (l.length * 1))[j]? = (l.map fun b => Value.int .u8 (b.toNat : Int))[j]? := by rw [ht]
      rw [List.getElem?_take_of_lt (by omega)] at h2
      rw [h2]
      simp [hj]
    have e : Addr.add ⟨g, 0, none⟩ j = ⟨g, j, none⟩ := by unfold Addr.add; split <;> simp_all
    rw [e]
    unfold World.cell?
    dsimp only
    rw [hg]
    simpa using h1
theorem row_bytes (s : Bool) (N : Nat) (z : Int) (hz : z.natAbs = N) (h1 : s = true → z < 0) (h2 : s = false → 0 ≤ z) : sgv s ++ dgv (decL N) = (txtL z).map fun b => Value.int .u8 (b.toNat : Int) := by
  unfold txtL
  rw [List.map_append]
  congr 1
  · cases s
    · rw [if_neg (by have := h2 rfl; omega)]; rfl
    · rw [if_pos (h1 rfl)]; rfl
  · rw [hz]
    unfold dgv digB
    rw [List.map_map]
    refine List.map_congr_left fun d _ => ?_
    have := d.isLt
    simp only [Function.comp_apply, UInt8.toNat_ofNat']
    congr 1
    omega
theorem txtL_ne (z : Int) : txtL z ≠ [] := by
  intro h
  have := congrArg List.length h
  unfold txtL digB at this
  simp only [List.length_append, List.length_map, decL_length, List.length_nil] at this
  have := nd_pos z.natAbs
  omega
/-- a row of bytes grows: the blocks of words lie as they lay -/
theorem KW.appended {W w1 : World} {n₀ B : Nat} {v v' : Value} {k : Nat} {xs : List Value} {tmp : Obj}
    (hv : Boxed W B 94 v) (hrow : W.ownsRow n₀ 5 1 v k xs) (hgrow : (W.alloc tmp).grownBy w1 v.ownBlock) (hv1 : Boxed w1 B 94 v) : KW W (w1.setCell ⟨B, 0, none⟩ v') := by
  refine ((KW.alloc W tmp).trans (KW.grown hgrow fun j cur ej hj => ?_)).trans (KW.grown (grownBy_setCell' w1 B v') fun j cur ej hj => ?_)
  · rcases (hrow.alloc tmp).2 with ⟨rfl, _⟩ | ⟨g, cap, cur', rfl, _, hgb, _⟩
    · simp [Value.ownBlock] at ej
    · obtain rfl : g = j := by simpa [Value.ownBlock] using ej
      rw [hgb] at hj; cases hj
  · cases ej
    rw [show w1.heap[B]? = _ from hv1] at hj
    cases hj

set_option maxRecDepth 100000 in
set_option maxHeartbeats 2000000 in
theorem text_pos (x : Int) (p : Option Addr) (N : Nat) (z : Int) (w : World) (hG : GrC N) (hl : nd N ≤ 100000) (hd : Dg w (.agg #[.int .u64 x, .pointer p]) N) (hz : z.natAbs = N) (h0 : 0 ≤ z) :
    Calls Try.prog 39 #[.agg #[.bool false, .int .u64 x, .pointer p]] w (PTx z w) := by
  obtain ⟨i0, hi, hz0, hz1, hz2⟩ := info_parts Try.info5
  have HD := Lib.hid hd
  have HZ := Lib.hid hz
  have HG := Lib.hid hG
  have H0 := Lib.hid h0
  clear hd hz hG h0
  refine (callsIn_wide (n := 4)).1 ?_
  refine callsIn_of_wp_marks Try.func39 rfl trivial ?_ rfl
  simp only [Try.ntmps39, List.size_toArray, List.length_cons, List.length_nil, Nat.reduceAdd, Nat.reduceSub, Array.replicate_succ, Array.replicate_zero, List.push_toArray, List.append_toArray, List.nil_append, List.cons_append]
  gi_wp2_with fail
  refine ⟨trivial, ?_⟩
  refine (callsIn_wide.2 (decimals_any _ _ _)).mono ?_
  rintro e w' ⟨rfl, rfl⟩
  gi_wp2
  generalize hW0 : ((w.alloc (Obj.cells #[Value.bool false, Value.int IntKind.u64 x, Value.pointer p] 29)).alloc (Obj.cells #[Value.slice none 0 0] 94)).alloc (Obj.cells #[Value.int IntKind.u64 x, Value.pointer p] 27) = W0
  have hB0 : Below w.heap.size w W0 := by rw [← hW0]; exact bl3 _ _ _ _
  have bT : Boxed W0 (w.heap.size + 1) 94 (.slice none 0 0) := by
    rw [← hW0]
    have h := (Boxed.new (w.alloc (Obj.cells #[Value.bool false, Value.int IntKind.u64 x, Value.pointer p] 29)) 94 (.slice none 0 0)).alloc (Obj.cells #[Value.int IntKind.u64 x, Value.pointer p] 27)
    rw [World.size_alloc] at h
    exact h
  have row0 : W0.ownsRow w.heap.size 5 1 (.slice none 0 0) (([] : List (Fin 10)).length + 0) (sgv false ++ dgv []) := World.ownsRow_nil _ _ _ _
  have hDlt : w.heap.size + 1 + 1 < W0.heap.size := by rw [← hW0]; simp
  have cb0 : W0.cell? ⟨w.heap.size + 1 + 1, 0, none⟩ = some (.int .u64 x) := by rw [← hW0]; simp [go_sem]
  have cb1 : W0.cell? ⟨w.heap.size + 1 + 1, 1, none⟩ = some (.pointer p) := by rw [← hW0]; simp [go_sem]
  have HD0 := Lib.hid (HD.out.keep hB0 (Nat.le_refl _))
  clear hW0
  have hszT : w.heap.size + 1 < W0.heap.size := bT.lt
  refine wpIn_rangeFunc_ownG rfl (by decide) (gf := 94) (lb := #[.pointer (some ⟨w.heap.size + 1 + 1, 0, none⟩)]) rfl trivial (enters_of Try.func94 (by kernel_rfl) rfl)
    (dec_stops 3 (by decide) (w.heap.size + 1 + 1) N x p HG.out W0 hDlt cb0 cb1 HD0.out) (fun h k => KW.trans h k) (fun W l o o' _ hl ho _ => KW.putObj o' hl ho) (Below.refl _ _) (fun _ => rfl)
    (fun pre W => (∃ v, Boxed W (w.heap.size + 1) 94 v ∧ W.ownsRow w.heap.size 5 1 v (pre.length + 0) (sgv false ++ dgv pre) ∧ True) ∧ Below w.heap.size w W)
    (fun _ _ _ => False)
    (OwnFrom.and (Own.from (holdsRow_own w.heap.size (w.heap.size + 1) 94 5 1 (fun pre => pre.length + 0) (fun pre => sgv false ++ dgv pre) (fun _ _ => True)) _) (ownFrom_below (Nat.le_refl _) (by omega)))
    (fun _ _ _ _ _ hs _ _ => hs)
    ⟨⟨_, bT, row0, trivial⟩, hB0⟩
    (fun d => { tmps := #[Value.agg #[Value.bool false, Value.int IntKind.u64 x, Value.pointer p],
          Value.pointer (some { block := w.heap.size, off := 0 }), Value.string { data := #[] },
          Value.pointer (some { block := w.heap.size + 1, off := 0 }), .int .u8 ((Fin.val d : Nat) : Int),
          Value.pointer (some { block := w.heap.size, off := 0 }), Value.bool false, undef, undef, undef,
          Value.pointer (some { block := w.heap.size, off := 1 }),
          Value.agg #[Value.int IntKind.u64 x, Value.pointer p],
          Value.func (Fn.func 94) #[] #[Value.pointer (some { block := w.heap.size + 1 + 1, off := 0 })], .int .u8 ((Fin.val d : Nat) : Int), undef,
          undef, undef, undef, undef, undef, undef], defers := [] }) ?assign ?body ?done ?stop
  case assign =>
    intro l d W K hK
    gi_wp2
    exact hK
  case body =>
    rintro l pre d W ⟨⟨v, hv, hrow, _⟩, hB⟩ hlt
    have hc := hv.cell
    have hd10 : ((Fin.val d : Nat) : Int) < 10 := by have := d.isLt; omega
    have hl2 := hl
    gi_wp2_with (gi_at_builtin; refine wpListIn_append_own _ rfl _ _ 94 rfl w.heap.size 5 i0 (.int .u8 0) 1 1 Try.underlying94 hi hz0 hz1 hz2 rfl (by decide) _ _ _ rfl (hrow.alloc _) ⟨W.heap.size, 0, none⟩ 1 1 [.int .u8 (48 + ((Fin.val d : Nat) : Int))] rfl rfl (cell_one_new _ _ _) (by simp [Value.oneCell']) (by unfold maxLen; omega) (by omega) (by have := hB.size; simp; omega) ?_; intro v' w1 hown' hgrow _; obtain ⟨g', cap', rfl⟩ := ownsRow_succ hown'; obtain ⟨hv1, hv2, hr2, hk2, hb2⟩ := hv.appended (by decide) hrow hB.size (Nat.le_succ _) hown' hgrow; have hkw := KW.appended (v' := .slice (some ⟨g', 0, none⟩) (pre.length + 0 + 1) cap') hv hrow hgrow hv1; have hc1 := hv1.cell; have hf1 := hv1.frozen)
    exact ⟨hk2.from _, hkw, ⟨_, hv2, by rw [dgv_snoc, ← List.append_assoc, List.length_append, List.length_singleton, Nat.add_right_comm]; exact hr2, trivial⟩, hB.trans hb2⟩
  case done =>
    rintro D ys W hD rfl ⟨⟨v, hv, hrow, _⟩, hB⟩ hK
    have hc := hv.cell
    rw [row_bytes false N z HZ.out (by intro h; cases h) (by intro _; exact H0.out)] at hrow
    obtain ⟨g, cap, rfl, hcells⟩ := own_bytes hrow (txtL_ne z)
    have hconv := run_convert_bytes_back (P := Try.prog) W 94 9 5 ⟨g, 0, none⟩ cap (txtL z) Try.underlying94 Try.underlying5 Try.underlying9 hcells
    clear hcells
    gi_wp2
    refine ⟨by simp, .inl ⟨_, _, rfl, run_takeDeferred hK, ?_⟩⟩
    exact ⟨_, results_tmp rfl _ _ _, hB.trans (belowK_b (w := w) (Nat.le_refl _) W D _ _ (by omega) hK rfl rfl), rfl⟩
  case stop =>
    rintro D c pre W _ _ h _
    exact h.elim
set_option maxRecDepth 100000 in
set_option maxHeartbeats 2000000 in
theorem text_neg (x : Int) (p : Option Addr) (N : Nat) (z : Int) (w : World) (hG : GrC N) (hl : nd N ≤ 100000) (hd : Dg w (.agg #[.int .u64 x, .pointer p]) N) (hz : z.natAbs = N) (h0 : z < 0) :
    Calls Try.prog 39 #[.agg #[.bool true, .int .u64 x, .pointer p]] w (PTx z w) := by
  obtain ⟨i0, hi, hz0, hz1, hz2⟩ := info_parts Try.info5
  have HD := Lib.hid hd
  have HZ := Lib.hid hz
  have HG := Lib.hid hG
  have H0 := Lib.hid h0
  clear hd hz hG h0
  have hv := Boxed.new (w.alloc (Obj.cells #[Value.bool true, Value.int IntKind.u64 x, Value.pointer p] 29)) 94 (.slice none 0 0)
  rw [World.size_alloc] at hv
  have hrow := World.ownsRow_nil ((w.alloc (Obj.cells #[Value.bool true, Value.int IntKind.u64 x, Value.pointer p] 29)).alloc (Obj.cells #[Value.slice none 0 0] 94)) (w.heap.size + 1) 5 1
  refine (callsIn_wide (n := 4)).1 ?_
  refine callsIn_of_wp_marks Try.func39 rfl trivial ?_ rfl
  simp only [Try.ntmps39, List.size_toArray, List.length_cons, List.length_nil, Nat.reduceAdd, Nat.reduceSub, Array.replicate_succ, Array.replicate_zero, List.push_toArray, List.append_toArray, List.nil_append, List.cons_append]
  gi_wp2_with (gi_at_builtin; refine wpListIn_append_own _ rfl _ _ 94 rfl (w.heap.size + 1) 5 i0 (.int .u8 0) 1 1 Try.underlying94 hi hz0 hz1 hz2 rfl (by decide) _ _ _ rfl (hrow.alloc _) ⟨w.heap.size + 1 + 1, 0, none⟩ 1 1 [.int .u8 45] rfl rfl (fun j u h => by match j, h with | 0, h => simp at h; subst h; simp [Addr.add, go_sem]) (by simp [Value.oneCell']) (by unfold maxLen; omega) (by omega) (by simp) ?_; intro v' w1 hown' hgrow _; obtain ⟨g', cap', rfl⟩ := ownsRow_succ hown'; obtain ⟨hv1, hv2, hr2, hk2, hb2⟩ := hv.appended (by decide) hrow (by simp) (Nat.le_refl _) hown' hgrow; have hc1 := hv1.cell; have hf1 := hv1.frozen; have q1 : w1.cell? ⟨w.heap.size, 1, none⟩ = some (.int .u64 x) := hgrow.cell (a := ⟨w.heap.size, 1, none⟩) (by simp [go_sem]) (fun e => by cases (show some w.heap.size = (none : Option Nat) from e)); have q2 : w1.cell? ⟨w.heap.size, 2, none⟩ = some (.pointer p) := hgrow.cell (a := ⟨w.heap.size, 2, none⟩) (by simp [go_sem]) (fun e => by cases (show some w.heap.size = (none : Option Nat) from e)))
  have hBS := (bl2 w (Obj.cells #[Value.bool true, Value.int IntKind.u64 x, Value.pointer p] 29) (Obj.cells #[Value.slice none 0 0] 94)).trans (hb2.mono (Nat.le_succ _))
  rw [show 0 + 1 = 1 from rfl] at hBS hv2 hr2
  clear hv hrow hgrow hown' hv1 hk2 hb2 hc1 hf1 q1 q2
  generalize w1.setCell ⟨w.heap.size + 1, 0, none⟩ (.slice (some ⟨g', 0, none⟩) 1 cap') = WS at *
  refine ⟨trivial, ?_⟩
  refine (callsIn_wide.2 (decimals_any _ _ _)).mono ?_
  rintro e w' ⟨rfl, rfl⟩
  have hcb0 : (WS.alloc (Obj.cells #[Value.int IntKind.u64 x, Value.pointer p] 27)).cell? ⟨WS.heap.size, 0, none⟩ = some (.int .u64 x) := by simp [go_sem]
  have hcb1 : (WS.alloc (Obj.cells #[Value.int IntKind.u64 x, Value.pointer p] 27)).cell? ⟨WS.heap.size, 1, none⟩ = some (.pointer p) := by simp [go_sem]
  gi_wp2
  generalize hW0 : WS.alloc (Obj.cells #[Value.int IntKind.u64 x, Value.pointer p] 27) = W0 at *
  have hB0 : Below w.heap.size w W0 := by rw [← hW0]; exact hBS.alloc hBS.size _
  have bT : Boxed W0 (w.heap.size + 1) 94 (.slice (some ⟨g', 0, none⟩) 1 cap') := by rw [← hW0]; exact hv2.alloc _
  have row0 : W0.ownsRow w.heap.size 5 1 (.slice (some ⟨g', 0, none⟩) 1 cap') (([] : List (Fin 10)).length + 1) (sgv true ++ dgv []) := by
    have h := hr2.alloc (Obj.cells #[Value.int IntKind.u64 x, Value.pointer p] 27)
    rw [hW0] at h
    exact ⟨h.1, h.2.imp (fun a => a) (fun ⟨a, b, c, h1, h2, h3⟩ => ⟨a, b, c, h1, Nat.le_trans (Nat.le_succ _) h2, h3⟩)⟩
  have hDlt : WS.heap.size < W0.heap.size := by rw [← hW0]; simp
  have cb0 := hcb0
  have cb1 := hcb1
  have HD0 := Lib.hid (HD.out.keep hB0 (Nat.le_refl _))
  have hWSsz := hBS.size
  clear hW0 hcb0 hcb1 hv2 hr2 hBS
  have hszT : w.heap.size + 1 < W0.heap.size := bT.lt
  refine wpIn_rangeFunc_ownG rfl (by decide) (gf := 94) (lb := #[.pointer (some ⟨WS.heap.size, 0, none⟩)]) rfl trivial (enters_of Try.func94 (by kernel_rfl) rfl)
    (dec_stops 3 (by decide) (WS.heap.size) N x p HG.out W0 hDlt cb0 cb1 HD0.out) (fun h k => KW.trans h k) (fun W l o o' _ hl ho _ => KW.putObj o' hl ho) (Below.refl _ _) (fun _ => rfl)
    (fun pre W => (∃ v, Boxed W (w.heap.size + 1) 94 v ∧ W.ownsRow w.heap.size 5 1 v (pre.length + 1) (sgv true ++ dgv pre) ∧ True) ∧ Below w.heap.size w W)
    (fun _ _ _ => False)
    (OwnFrom.and (Own.from (holdsRow_own w.heap.size (w.heap.size + 1) 94 5 1 (fun pre => pre.length + 1) (fun pre => sgv true ++ dgv pre) (fun _ _ => True)) _) (ownFrom_below (Nat.le_refl _) (by omega)))
    (fun _ _ _ _ _ hs _ _ => hs)
    ⟨⟨_, bT, row0, trivial⟩, hB0⟩
    (fun d => { tmps := #[Value.agg #[Value.bool true, Value.int IntKind.u64 x, Value.pointer p],
          Value.pointer (some { block := w.heap.size, off := 0 }), Value.string { data := #[] },
          Value.pointer (some { block := w.heap.size + 1, off := 0 }), .int .u8 ((Fin.val d : Nat) : Int),
          Value.pointer (some { block := w.heap.size, off := 0 }), Value.bool true, Value.slice none 0 0,
          Value.slice (some { block := w.heap.size + 1 + 1, off := 0 }) 1 1, Value.slice (some { block := g', off := 0 }) 1 cap',
          Value.pointer (some { block := w.heap.size, off := 1 }),
          Value.agg #[Value.int IntKind.u64 x, Value.pointer p],
          Value.func (Fn.func 94) #[] #[Value.pointer (some { block := WS.heap.size, off := 0 })], .int .u8 ((Fin.val d : Nat) : Int), undef,
          undef, undef, undef, undef, undef, undef], defers := [] }) ?assign ?body ?done ?stop
  case assign =>
    intro l d W K hK
    gi_wp2
    exact hK
  case body =>
    rintro l pre d W ⟨⟨v, hv, hrow, _⟩, hB⟩ hlt
    have hc := hv.cell
    have hd10 : ((Fin.val d : Nat) : Int) < 10 := by have := d.isLt; omega
    have hl2 := hl
    gi_wp2_with (gi_at_builtin; refine wpListIn_append_own _ rfl _ _ 94 rfl w.heap.size 5 i0 (.int .u8 0) 1 1 Try.underlying94 hi hz0 hz1 hz2 rfl (by decide) _ _ _ rfl (hrow.alloc _) ⟨W.heap.size, 0, none⟩ 1 1 [.int .u8 (48 + ((Fin.val d : Nat) : Int))] rfl rfl (cell_one_new _ _ _) (by simp [Value.oneCell']) (by unfold maxLen; omega) (by omega) (by have := hB.size; simp; omega) ?_; intro v' w1 hown' hgrow _; obtain ⟨g', cap', rfl⟩ := ownsRow_succ hown'; obtain ⟨hv1, hv2, hr2, hk2, hb2⟩ := hv.appended (by decide) hrow hB.size (Nat.le_succ _) hown' hgrow; have hkw := KW.appended (v' := .slice (some ⟨g', 0, none⟩) (pre.length + 1 + 1) cap') hv hrow hgrow hv1; have hc1 := hv1.cell; have hf1 := hv1.frozen)
    exact ⟨hk2.from _, hkw, ⟨_, hv2, by rw [dgv_snoc, ← List.append_assoc, List.length_append, List.length_singleton, Nat.add_right_comm]; exact hr2, trivial⟩, hB.trans hb2⟩
  case done =>
    rintro D ys W hD rfl ⟨⟨v, hv, hrow, _⟩, hB⟩ hK
    have hc := hv.cell
    rw [row_bytes true N z HZ.out (by intro _; exact H0.out) (by intro h; cases h)] at hrow
    obtain ⟨g, cap, rfl, hcells⟩ := own_bytes hrow (txtL_ne z)
    have hconv := run_convert_bytes_back (P := Try.prog) W 94 9 5 ⟨g, 0, none⟩ cap (txtL z) Try.underlying94 Try.underlying5 Try.underlying9 hcells
    clear hcells
    gi_wp2
    refine ⟨by simp, .inl ⟨_, _, rfl, run_takeDeferred hK, ?_⟩⟩
    exact ⟨_, results_tmp rfl _ _ _, hB.trans (belowK_b (w := w) (Nat.le_refl _) W D _ _ (by omega) hK rfl rfl), rfl⟩
  case stop =>
    rintro D c pre W _ _ h _
    exact h.elim
theorem text_any (v : Value) (z : Int) (w : World) (h : Zr w v z) (hG : GrC z.natAbs) (hl : nd z.natAbs ≤ 100000) : Calls Try.prog 39 #[v] w (PTx z w) := by
  obtain ⟨s, x, p, rfl, hd, h1, h2⟩ := h.dg
  cases s
  · exact text_pos x p _ z w hG hl hd rfl (h2 rfl)
  · exact text_neg x p _ z w hG hl hd rfl (h1 rfl)
end Go.Proofs.Ytjjomjjgoceklaa
