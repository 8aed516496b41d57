import Derived.Test.YtjjomjjgoceklaaGreatKbf
namespace Go.Proofs.YtjjomjjgoceklaaGreat
set_option maxRecDepth 100000
open Go.RowKit Go.Shelf
attribute [local go_sem] Oper.semAt_some

theorem Tryz.info5 : (Tryz.prog.info? 5).map (fun i => (i.zero, i.size, i.bytes)) = some (some (.int .u8 0), 1, 1) := by kernel_rfl
/-- the cells of digits -/
def dgv (pre : List (Fin 10)) : List Value := pre.map fun d => Value.int .u8 (48 + ((Fin.val d : Nat) : Int))
def sgv (s : Bool) : List Value := if s then [.int .u8 45] else []
theorem dgv_snoc (pre : List (Fin 10)) (d : Fin 10) : dgv (pre ++ [d]) = dgv pre ++ [.int .u8 (48 + ((Fin.val d : Nat) : Int))] := by simp [dgv]
def PTx (z : Int) (w : World) (e : Ending) (w' : World) : Prop := Below w.heap.size w w' ∧ e = .returned (.string (txt z))
/-- a row of bytes: its cells -/
theorem own_bytes {w : World} {base k : Nat} {v : Value} {l : List UInt8} (h : w.ownsRow base 5 1 v k (l.map fun b => .int .u8 (b.toNat : Int))) (hl : l ≠ []) : ∃ g cap : Nat, v = .slice (some ⟨g, 0, none⟩) l.length cap ∧
    ∀ j (hj : j < l.length), w.cell? (Addr.add ⟨g, 0, none⟩ j) = some (.int .u8 (l[j].toNat : Int)) := by
  have hn : l.length = k := by have := h.1; simpa using this
  subst hn
  obtain ⟨_, ⟨_, h0⟩ | ⟨g, cap, cur, rfl, hb, hg, hc, hm, hs, ht⟩⟩ := h
  · exact absurd (List.length_eq_zero_iff.1 h0) hl
  · refine ⟨g, cap, rfl, fun j hj => ?_⟩
    have h1 : cur.toList[j]? = some (.int .u8 (l[j].toNat : Int)) := by
      have h2 : (cur.toList.take (l.length * 1))[j]? = (l.map fun b => Value.int .u8 (b.toNat : Int))[j]? := by rw [ht]
      rw [List.getElem?_take_of_lt (by omega)] at h2
      rw [h2]
      simp [hj]
    have e : Addr.add ⟨g, 0, none⟩ j = ⟨g, j, none⟩ := by unfold Addr.add; split <;> simp_all
    rw [e]
    unfold World.cell?
    dsimp only
    rw [hg]
    simpa using h1
theorem row_bytes (s : Bool) (N : Nat) (z : Int) (hz : z.natAbs = N) (h1 : s = true → z < 0) (h2 : s = false → 0 ≤ z) : sgv s ++ dgv (decL N) = (txtL z).map fun b => Value.int .u8 (b.toNat : Int) := by
  unfold txtL
  rw [List.map_append]
  congr 1
  · cases s
    · rw [if_neg (by have := h2 rfl; omega)]; rfl
    · rw [if_pos (h1 rfl)]; rfl
  · rw [hz]
    unfold dgv digB
    rw [List.map_map]
    refine List.map_congr_left fun d _ => ?_
    have := d.isLt
    simp only [Function.comp_apply, UInt8.toNat_ofNat']
    congr 1
    omega
theorem txtL_ne (z : Int) : txtL z ≠ [] := by
  intro h
  have := congrArg List.length h
  unfold txtL digB at this
  simp only [List.length_append, List.length_map, decL_length, List.length_nil] at this
  have := nd_pos z.natAbs
  omega
/-- a row of bytes grows: the blocks of words lie as they lay -/
theorem KW.appended {W w1 : World} {n₀ B : Nat} {v v' : Value} {k : Nat} {xs : List Value} {tmp : Obj}
    (hv : Boxed W B 134 v) (hrow : W.ownsRow n₀ 5 1 v k xs) (hgrow : (W.alloc tmp).grownBy w1 v.ownBlock) (hv1 : Boxed w1 B 134 v) : KW W (w1.setCell ⟨B, 0, none⟩ v') := by
  refine ((KW.alloc W tmp).trans (KW.grown hgrow fun j cur ej hj => ?_)).trans (KW.grown (grownBy_setCell' w1 B v') fun j cur ej hj => ?_)
  · rcases (hrow.alloc tmp).2 with ⟨rfl, _⟩ | ⟨g, cap, cur', rfl, _, hgb, _⟩
    · simp [Value.ownBlock] at ej
    · obtain rfl : g = j := by simpa [Value.ownBlock] using ej
      rw [hgb] at hj; cases hj
  · cases ej
    rw [show w1.heap[B]? = _ from hv1] at hj
    cases hj

set_option maxRecDepth 100000 in
set_option maxHeartbeats 2000000 in
theorem text_pos (x : Int) (p : Option Addr) (N : Nat) (z : Int) (w : World) (hG : GrC N) (hl : nd N ≤ 100000) (hd : Dg w (.agg #[.int .u64 x, .pointer p]) N) (hz : z.natAbs = N) (h0 : 0 ≤ z) :
    Calls Tryz.prog 79 #[.agg #[.bool false, .int .u64 x, .pointer p]] w (PTx z w) := by
  obtain ⟨i0, hi, hz0, hz1, hz2⟩ := info_parts Tryz.info5
  have HD := Lib.hid hd
  have HZ := Lib.hid hz
  have HG := Lib.hid hG
  have H0 := Lib.hid h0
  clear hd hz hG h0
  refine (callsIn_wide (n := 4)).1 ?_
  refine callsIn_of_wp_marks Tryz.func79 rfl trivial ?_ rfl
  simp only [Tryz.ntmps79, List.size_toArray, List.length_cons, List.length_nil, Nat.reduceAdd, Nat.reduceSub, Array.replicate_succ, Array.replicate_zero, List.push_toArray, List.append_toArray, List.nil_append, List.cons_append]
  gi_wp2_with fail
  refine ⟨trivial, ?_⟩
  refine (callsIn_wide.2 (decimals_any _ _ _)).mono ?_
  rintro e w' ⟨rfl, rfl⟩
  gi_wp2
  generalize hW0 : ((w.alloc (Obj.cells #[Value.bool false, Value.int IntKind.u64 x, Value.pointer p] 28)).alloc (Obj.cells #[Value.slice none 0 0] 134)).alloc (Obj.cells #[Value.int IntKind.u64 x, Value.pointer p] 26) = W0
  have hB0 : Below w.heap.size w W0 := by rw [← hW0]; exact bl3 _ _ _ _
  have bT : Boxed W0 (w.heap.size + 1) 134 (.slice none 0 0) := by
    rw [← hW0]
    have h := (Boxed.new (w.alloc (Obj.cells #[Value.bool false, Value.int IntKind.u64 x, Value.pointer p] 28)) 134 (.slice none 0 0)).alloc (Obj.cells #[Value.int IntKind.u64 x, Value.pointer p] 26)
    rw [World.size_alloc] at h
    exact h
  have row0 : W0.ownsRow w.heap.size 5 1 (.slice none 0 0) (([] : List (Fin 10)).length + 0) (sgv false ++ dgv []) := World.ownsRow_nil _ _ _ _
  have hDlt : w.heap.size + 1 + 1 < W0.heap.size := by rw [← hW0]; simp
  have cb0 : W0.cell? ⟨w.heap.size + 1 + 1, 0, none⟩ = some (.int .u64 x) := by rw [← hW0]; simp [go_sem]
  have cb1 : W0.cell? ⟨w.heap.size + 1 + 1, 1, none⟩ = some (.pointer p) := by rw [← hW0]; simp [go_sem]
  have HD0 := Lib.hid (HD.out.keep hB0 (Nat.le_refl _))
  clear hW0
  have hszT : w.heap.size + 1 < W0.heap.size := bT.lt
  refine wpIn_rangeFunc_ownG rfl (by decide) (gf := 139) (lb := #[.pointer (some ⟨w.heap.size + 1 + 1, 0, none⟩)]) rfl trivial (enters_of Tryz.func139 (by kernel_rfl) rfl)
    (dec_stops 3 (by decide) (w.heap.size + 1 + 1) N x p HG.out W0 hDlt cb0 cb1 HD0.out) (fun h k => KW.trans h k) (fun W l o o' _ hl ho _ => KW.putObj o' hl ho) (Below.refl _ _) (fun _ => rfl)
    (fun pre W => (∃ v, Boxed W (w.heap.size + 1) 134 v ∧ W.ownsRow w.heap.size 5 1 v (pre.length + 0) (sgv false ++ dgv pre) ∧ True) ∧ Below w.heap.size w W)
    (fun _ _ _ => False)
    (OwnFrom.and (Own.from (holdsRow_own w.heap.size (w.heap.size + 1) 134 5 1 (fun pre => pre.length + 0) (fun pre => sgv false ++ dgv pre) (fun _ _ => True)) _) (ownFrom_below (Nat.le_refl _) (by omega)))
    (fun _ _ _ _ _ hs _ _ => hs)
    ⟨⟨_, bT, row0, trivial⟩, hB0⟩
    (fun d => { tmps := #[Value.agg #[Value.bool false, Value.int IntKind.u64 x, Value.pointer p],
          Value.pointer (some { block := w.heap.size, off := 0 }), Value.string { data := #[] },
          Value.pointer (some { block := w.heap.size + 1, off := 0 }), .int .u8 ((Fin.val d : Nat) : Int),
          Value.pointer (some { block := w.heap.size, off := 0 }), Value.bool false, undef, undef, undef,
          Value.pointer (some { block := w.heap.size, off := 1 }),
          Value.agg #[Value.int IntKind.u64 x, Value.pointer p],
          Value.func (Fn.func 139) #[] #[Value.pointer (some { block := w.heap.size + 1 + 1, off := 0 })], .int .u8 ((Fin.val d : Nat) : Int), undef,
          undef, undef, undef, undef, undef, undef], defers := [] }) ?assign ?body ?done ?stop
  case assign =>
    intro l d W K hK
    gi_wp2
    exact hK
  case body =>
    rintro l pre d W ⟨⟨v, hv, hrow, _⟩, hB⟩ hlt
    have hc := hv.cell
    have hd10 : ((Fin.val d : Nat) : Int) < 10 := by have := d.isLt; omega
    have hl2 := hl
    gi_wp2_with (gi_at_builtin; refine wpListIn_append_own _ rfl _ _ 134 rfl w.heap.size 5 i0 (.int .u8 0) 1 1 Tryz.underlying134 hi hz0 hz1 hz2 rfl (by decide) _ _ _ rfl (hrow.alloc _) ⟨W.heap.size, 0, none⟩ 1 1 [.int .u8 (48 + ((Fin.val d : Nat) : Int))] rfl rfl (cell_one_new _ _ _) (by simp [Value.oneCell']) (by unfold maxLen; omega) (by omega) (by have := hB.size; simp; omega) ?_; intro v' w1 hown' hgrow _; obtain ⟨g', cap', rfl⟩ := ownsRow_succ hown'; obtain ⟨hv1, hv2, hr2, hk2, hb2⟩ := hv.appended (by decide) hrow hB.size (Nat.le_succ _) hown' hgrow; have hkw := KW.appended (v' := .slice (some ⟨g', 0, none⟩) (pre.length + 0 + 1) cap') hv hrow hgrow hv1; have hc1 := hv1.cell; have hf1 := hv1.frozen)
    exact ⟨hk2.from _, hkw, ⟨_, hv2, by rw [dgv_snoc, ← List.append_assoc, List.length_append, List.length_singleton, Nat.add_right_comm]; exact hr2, trivial⟩, hB.trans hb2⟩
  case done =>
    rintro D ys W hD rfl ⟨⟨v, hv, hrow, _⟩, hB⟩ hK
    have hc := hv.cell
    rw [row_bytes false N z HZ.out (by intro h; cases h) (by intro _; exact H0.out)] at hrow
    obtain ⟨g, cap, rfl, hcells⟩ := own_bytes hrow (txtL_ne z)
    have hconv := run_convert_bytes_back (P := Tryz.prog) W 134 9 5 ⟨g, 0, none⟩ cap (txtL z) Tryz.underlying134 Tryz.underlying5 Tryz.underlying9 hcells
    clear hcells
    gi_wp2
    refine ⟨by simp, .inl ⟨_, _, rfl, run_takeDeferred hK, ?_⟩⟩
    exact ⟨_, results_tmp rfl _ _ _, hB.trans (belowK_b (w := w) (Nat.le_refl _) W D _ _ (by omega) hK rfl rfl), rfl⟩
  case stop =>
    rintro D c pre W _ _ h _
    exact h.elim
set_option maxRecDepth 100000 in
set_option maxHeartbeats 2000000 in
theorem text_neg (x : Int) (p : Option Addr) (N : Nat) (z : Int) (w : World) (hG : GrC N) (hl : nd N ≤ 100000) (hd : Dg w (.agg #[.int .u64 x, .pointer p]) N) (hz : z.natAbs = N) (h0 : z < 0) :
    Calls Tryz.prog 79 #[.agg #[.bool true, .int .u64 x, .pointer p]] w (PTx z w) := by
  obtain ⟨i0, hi, hz0, hz1, hz2⟩ := info_parts Tryz.info5
  have HD := Lib.hid hd
  have HZ := Lib.hid hz
  have HG := Lib.hid hG
  have H0 := Lib.hid h0
  clear hd hz hG h0
  have hv := Boxed.new (w.alloc (Obj.cells #[Value.bool true, Value.int IntKind.u64 x, Value.pointer p] 28)) 134 (.slice none 0 0)
  rw [World.size_alloc] at hv
  have hrow := World.ownsRow_nil ((w.alloc (Obj.cells #[Value.bool true, Value.int IntKind.u64 x, Value.pointer p] 28)).alloc (Obj.cells #[Value.slice none 0 0] 134)) (w.heap.size + 1) 5 1
  refine (callsIn_wide (n := 4)).1 ?_
  refine callsIn_of_wp_marks Tryz.func79 rfl trivial ?_ rfl
  simp only [Tryz.ntmps79, List.size_toArray, List.length_cons, List.length_nil, Nat.reduceAdd, Nat.reduceSub, Array.replicate_succ, Array.replicate_zero, List.push_toArray, List.append_toArray, List.nil_append, List.cons_append]
  gi_wp2_with (gi_at_builtin; refine wpListIn_append_own _ rfl _ _ 134 rfl (w.heap.size + 1) 5 i0 (.int .u8 0) 1 1 Tryz.underlying134 hi hz0 hz1 hz2 rfl (by decide) _ _ _ rfl (hrow.alloc _) ⟨w.heap.size + 1 + 1, 0, none⟩ 1 1 [.int .u8 45] rfl rfl (fun j u h => by match j, h with | 0, h => simp at h; subst h; simp [Addr.add, go_sem]) (by simp [Value.oneCell']) (by unfold maxLen; omega) (by omega) (by simp) ?_; intro v' w1 hown' hgrow _; obtain ⟨g', cap', rfl⟩ := ownsRow_succ hown'; obtain ⟨hv1, hv2, hr2, hk2, hb2⟩ := hv.appended (by decide) hrow (by simp) (Nat.le_refl _) hown' hgrow; have hc1 := hv1.cell; have hf1 := hv1.frozen; have q1 : w1.cell? ⟨w.heap.size, 1, none⟩ = some (.int .u64 x) := hgrow.cell (a := ⟨w.heap.size, 1, none⟩) (by simp [go_sem]) (fun e => by cases (show some w.heap.size = (none : Option Nat) from e)); have q2 : w1.cell? ⟨w.heap.size, 2, none⟩ = some (.pointer p) := hgrow.cell (a := ⟨w.heap.size, 2, none⟩) (by simp [go_sem]) (fun e => by cases (show some w.heap.size = (none : Option Nat) from e)))
  have hBS := (bl2 w (Obj.cells #[Value.bool true, Value.int IntKind.u64 x, Value.pointer p] 28) (Obj.cells #[Value.slice none 0 0] 134)).trans (hb2.mono (Nat.le_succ _))
  rw [show 0 + 1 = 1 from rfl] at hBS hv2 hr2
  clear hv hrow hgrow hown' hv1 hk2 hb2 hc1 hf1 q1 q2
  generalize w1.setCell ⟨w.heap.size + 1, 0, none⟩ (.slice (some ⟨g', 0, none⟩) 1 cap') = WS at *
  refine ⟨trivial, ?_⟩
  refine (callsIn_wide.2 (decimals_any _ _ _)).mono ?_
  rintro e w' ⟨rfl, rfl⟩
  have hcb0 : (WS.alloc (Obj.cells #[Value.int IntKind.u64 x, Value.pointer p] 26)).cell? ⟨WS.heap.size, 0, none⟩ = some (.int .u64 x) := by simp [go_sem]
  have hcb1 : (WS.alloc (Obj.cells #[Value.int IntKind.u64 x, Value.pointer p] 26)).cell? ⟨WS.heap.size, 1, none⟩ = some (.pointer p) := by simp [go_sem]
  gi_wp2
  generalize hW0 : WS.alloc (Obj.cells #[Value.int IntKind.u64 x, Value.pointer p] 26) = W0 at *
  have hB0 : Below w.heap.size w W0 := by rw [← hW0]; exact hBS.alloc hBS.size _
  have bT : Boxed W0 (w.heap.size + 1) 134 (.slice (some ⟨g', 0, none⟩) 1 cap') := by rw [← hW0]; exact hv2.alloc _
  have row0 : W0.ownsRow w.heap.size 5 1 (.slice (some ⟨g', 0, none⟩) 1 cap') (([] : List (Fin 10)).length + 1) (sgv true ++ dgv []) := by
    have h := hr2.alloc (Obj.cells #[Value.int IntKind.u64 x, Value.pointer p] 26)
    rw [hW0] at h
    exact ⟨h.1, h.2.imp (fun a => a) (fun ⟨a, b, c, h1, h2, h3⟩ => ⟨a, b, c, h1, Nat.le_trans (Nat.le_succ _) h2, h3⟩)⟩
  have hDlt : WS.heap.size < W0.heap.size := by rw [← hW0]; simp
  have cb0 := hcb0
  have cb1 := hcb1
  have HD0 := Lib.hid (HD.out.keep hB0 (Nat.le_refl _))
  have hWSsz := hBS.size
  clear hW0 hcb0 hcb1 hv2 hr2 hBS
  have hszT : w.heap.size + 1 < W0.heap.size := bT.lt
  refine wpIn_rangeFunc_ownG rfl (by decide) (gf := 139) (lb := #[.pointer (some ⟨WS.heap.size, 0, none⟩)]) rfl trivial (enters_of Tryz.func139 (by kernel_rfl) rfl)
    (dec_stops 3 (by decide) (WS.heap.size) N x p HG.out W0 hDlt cb0 cb1 HD0.out) (fun h k => KW.trans h k) (fun W l o o' _ hl ho _ => KW.putObj o' hl ho) (Below.refl _ _) (fun _ => rfl)
    (fun pre W => (∃ v, Boxed W (w.heap.size + 1) 134 v ∧ W.ownsRow w.heap.size 5 1 v (pre.length + 1) (sgv true ++ dgv pre) ∧ True) ∧ Below w.heap.size w W)
    (fun _ _ _ => False)
    (OwnFrom.and (Own.from (holdsRow_own w.heap.size (w.heap.size + 1) 134 5 1 (fun pre => pre.length + 1) (fun pre => sgv true ++ dgv pre) (fun _ _ => True)) _) (ownFrom_below (Nat.le_refl _) (by omega)))
    (fun _ _ _ _ _ hs _ _ => hs)
    ⟨⟨_, bT, row0, trivial⟩, hB0⟩
    (fun d => { tmps := #[Value.agg #[Value.bool true, Value.int IntKind.u64 x, Value.pointer p],
          Value.pointer (some { block := w.heap.size, off := 0 }), Value.string { data := #[] },
          Value.pointer (some { block := w.heap.size + 1, off := 0 }), .int .u8 ((Fin.val d : Nat) : Int),
          Value.pointer (some { block := w.heap.size, off := 0 }), Value.bool true, Value.slice none 0 0,
          Value.slice (some { block := w.heap.size + 1 + 1, off := 0 }) 1 1, Value.slice (some { block := g', off := 0 }) 1 cap',
          Value.pointer (some { block := w.heap.size, off := 1 }),
          Value.agg #[Value.int IntKind.u64 x, Value.pointer p],
          Value.func (Fn.func 139) #[] #[Value.pointer (some { block := WS.heap.size, off := 0 })], .int .u8 ((Fin.val d : Nat) : Int), undef,
          undef, undef, undef, undef, undef, undef], defers := [] }) ?assign ?body ?done ?stop
  case assign =>
    intro l d W K hK
    gi_wp2
    exact hK
  case body =>
    rintro l pre d W ⟨⟨v, hv, hrow, _⟩, hB⟩ hlt
    have hc := hv.cell
    have hd10 : ((Fin.val d : Nat) : Int) < 10 := by have := d.isLt; omega
    have hl2 := hl
    gi_wp2_with (gi_at_builtin; refine wpListIn_append_own _ rfl _ _ 134 rfl w.heap.size 5 i0 (.int .u8 0) 1 1 Tryz.underlying134 hi hz0 hz1 hz2 rfl (by decide) _ _ _ rfl (hrow.alloc _) ⟨W.heap.size, 0, none⟩ 1 1 [.int .u8 (48 + ((Fin.val d : Nat) : Int))] rfl rfl (cell_one_new _ _ _) (by simp [Value.oneCell']) (by unfold maxLen; omega) (by omega) (by have := hB.size; simp; omega) ?_; intro v' w1 hown' hgrow _; obtain ⟨g', cap', rfl⟩ := ownsRow_succ hown'; obtain ⟨hv1, hv2, hr2, hk2, hb2⟩ := hv.appended (by decide) hrow hB.size (Nat.le_succ _) hown' hgrow; have hkw := KW.appended (v' := .slice (some ⟨g', 0, none⟩) (pre.length + 1 + 1) cap') hv hrow hgrow hv1; have hc1 := hv1.cell; have hf1 := hv1.frozen)
    exact ⟨hk2.from _, hkw, ⟨_, hv2, by rw [dgv_snoc, ← List.append_assoc, List.length_append, List.length_singleton, Nat.add_right_comm]; exact hr2, trivial⟩, hB.trans hb2⟩
  case done =>
    rintro D ys W hD rfl ⟨⟨v, hv, hrow, _⟩, hB⟩ hK
    have hc := hv.cell
    rw [row_bytes true N z HZ.out (by intro _; exact H0.out) (by intro h; cases h)] at hrow
    obtain ⟨g, cap, rfl, hcells⟩ := own_bytes hrow (txtL_ne z)
    have hconv := run_convert_bytes_back (P := Tryz.prog) W 134 9 5 ⟨g, 0, none⟩ cap (txtL z) Tryz.underlying134 Tryz.underlying5 Tryz.underlying9 hcells
    clear hcells
    gi_wp2
    refine ⟨by simp, .inl ⟨_, _, rfl, run_takeDeferred hK, ?_⟩⟩
    exact ⟨_, results_tmp rfl _ _ _, hB.trans (belowK_b (w := w) (Nat.le_refl _) W D _ _ (by omega) hK rfl rfl), rfl⟩
  case stop =>
    rintro D c pre W _ _ h _
    exact h.elim
theorem text_any (v : Value) (z : Int) (w : World) (h : Zr w v z) (hG : GrC z.natAbs) (hl : nd z.natAbs ≤ 100000) : Calls Tryz.prog 79 #[v] w (PTx z w) := by
  obtain ⟨s, x, p, rfl, hd, h1, h2⟩ := h.dg
  cases s
  · exact text_pos x p _ z w hG hl hd rfl (h2 rfl)
  · exact text_neg x p _ z w hG hl hd rfl (h1 rfl)
end Go.Proofs.YtjjomjjgoceklaaGreat
namespace Go.Proofs.YtjjomjjgoceklaaGreat
set_option maxRecDepth 100000
open Go.RowKit Go.Shelf

/-- the text of a ratio -/
def txtR (n : Int) (d : Nat) : ByteArray := if d = 1 then txt n else ⟨(txtL n ++ 47 :: txtL (d : Int)).toArray⟩
def PTr (n : Int) (d : Nat) (w : World) (e : Ending) (w' : World) : Prop := Below w.heap.size w w' ∧ e = .returned (.string (txtR n d))
theorem txt_size (z : Int) : (txt z).size ≤ nd z.natAbs + 1 := by
  show (txtL z).toArray.size ≤ _
  unfold txtL digB
  simp only [List.size_toArray, List.length_append, List.length_map, decL_length]
  split <;> simp <;> omega
theorem cat_txt (n m : Int) : txt n ++ (({ data := #[47] } : ByteArray) ++ txt m) = ⟨(txtL n ++ 47 :: txtL m).toArray⟩ := by
  apply ByteArray.ext
  simp [txt, ByteArray.data_append]
theorem rtext_one (v : Value) (n : Int) (w : World) (h : Rr w v n 1) (hG : GrC n.natAbs) (hl : nd n.natAbs ≤ 100000) : Calls Tryz.prog 80 #[v] w (PTr n 1 w) := by
  obtain ⟨s, x, p, y, q, rfl⟩ := h.agg
  have H := Lib.hid h
  have HG := Lib.hid hG
  clear h hG
  go_enter Tryz.func80, Tryz.ntmps80
  go_wp2_with fail
  refine (text_any _ n _ (H.out.num.keep (bl1 _ _) (Nat.le_refl _)) HG.out hl).mono ?_
  rintro e w1 ⟨hb1, rfl⟩
  have k1 := Below.thru (bl1 w _) (by simp) hb1
  have HR := Lib.hid (H.out.keep k1 (Nat.le_refl _))
  have z1 : w.heap.size + 1 ≤ w1.heap.size := Nat.le_trans (by simp) hb1.size
  have c0 : w1.cell? ⟨w.heap.size, 0, none⟩ = some (.bool s) := (hb1.cell (p := ⟨w.heap.size, 0, none⟩) (by simp)).trans (by simp [go_sem])
  have c1 : w1.cell? ⟨w.heap.size, 1, none⟩ = some (.int .u64 x) := (hb1.cell (p := ⟨w.heap.size, 1, none⟩) (by simp)).trans (by simp [go_sem])
  have c2 : w1.cell? ⟨w.heap.size, 2, none⟩ = some (.pointer p) := (hb1.cell (p := ⟨w.heap.size, 2, none⟩) (by simp)).trans (by simp [go_sem])
  have c3 : w1.cell? ⟨w.heap.size, 3, none⟩ = some (.int .u64 y) := (hb1.cell (p := ⟨w.heap.size, 3, none⟩) (by simp)).trans (by simp [go_sem])
  have c4 : w1.cell? ⟨w.heap.size, 4, none⟩ = some (.pointer q) := (hb1.cell (p := ⟨w.heap.size, 4, none⟩) (by simp)).trans (by simp [go_sem])
  clear hb1
  go_wp2_with fail
  refine (den_any _ n 1 _ HR.out).mono ?_
  rintro e w2 ⟨hb2, v2, rfl, h2⟩
  obtain ⟨s4, x4, p4, rfl, hd4, _, _⟩ := h2.dg
  have HD4 := Lib.hid hd4
  have k2 := Below.thru k1 k1.size hb2
  clear hd4 h2 c0 c1 c2 c3 c4 hb2
  go_wp2_with fail
  refine (isOne_yes _ (HD4.out.keep (bl1 _ _) (Nat.le_refl _)) (by rfl)).mono ?_
  rintro e w3 ⟨rfl, cc, tt, rfl⟩
  go_wp2
  go_ret
  exact ⟨((k2.alloc k2.size _).alloc (by have := k2.size; simp; omega) _).alloc (by have := k2.size; simp; omega) _, rfl⟩
theorem rtext_big (v : Value) (n : Int) (d : Nat) (w : World) (h : Rr w v n d) (hd1 : d ≠ 1) (hG : GrC n.natAbs) (hl : nd n.natAbs ≤ 100000) (hGd : GrC d) (hld : nd d ≤ 100000) : Calls Tryz.prog 80 #[v] w (PTr n d w) := by
  obtain ⟨s, x, p, y, q, rfl⟩ := h.agg
  have H := Lib.hid h
  have HG := Lib.hid hG
  have HGD := Lib.hid hGd
  have HD1 := Lib.hid hd1
  clear h hG hGd hd1
  go_enter Tryz.func80, Tryz.ntmps80
  go_wp2_with fail
  refine (text_any _ n _ (H.out.num.keep (bl1 _ _) (Nat.le_refl _)) HG.out hl).mono ?_
  rintro e w1 ⟨hb1, rfl⟩
  have k1 := Below.thru (bl1 w _) (by simp) hb1
  have HR := Lib.hid (H.out.keep k1 (Nat.le_refl _))
  have z1 : w.heap.size + 1 ≤ w1.heap.size := Nat.le_trans (by simp) hb1.size
  have c0 : w1.cell? ⟨w.heap.size, 0, none⟩ = some (.bool s) := (hb1.cell (p := ⟨w.heap.size, 0, none⟩) (by simp)).trans (by simp [go_sem])
  have c1 : w1.cell? ⟨w.heap.size, 1, none⟩ = some (.int .u64 x) := (hb1.cell (p := ⟨w.heap.size, 1, none⟩) (by simp)).trans (by simp [go_sem])
  have c2 : w1.cell? ⟨w.heap.size, 2, none⟩ = some (.pointer p) := (hb1.cell (p := ⟨w.heap.size, 2, none⟩) (by simp)).trans (by simp [go_sem])
  have c3 : w1.cell? ⟨w.heap.size, 3, none⟩ = some (.int .u64 y) := (hb1.cell (p := ⟨w.heap.size, 3, none⟩) (by simp)).trans (by simp [go_sem])
  have c4 : w1.cell? ⟨w.heap.size, 4, none⟩ = some (.pointer q) := (hb1.cell (p := ⟨w.heap.size, 4, none⟩) (by simp)).trans (by simp [go_sem])
  clear hb1
  go_wp2_with fail
  refine (den_any _ n d _ HR.out).mono ?_
  rintro e w2 ⟨hb2, v2, rfl, h2⟩
  have H2 := Lib.hid h2
  obtain ⟨s4, x4, p4, rfl, hd4, _, _⟩ := h2.dg
  have HD4 := Lib.hid hd4
  have k2 := Below.thru k1 k1.size hb2
  clear hd4 h2 c0 c1 c2 c3 c4 hb2
  go_wp2_with fail
  refine (isOne_no _ (HD4.out.keep (bl1 _ _) (Nat.le_refl _)) (by simpa using HD1.out)).mono ?_
  rintro e w3 ⟨rfl, cc, tt, rfl⟩
  go_wp2_with fail
  refine (text_any _ (d : Int) _ (H2.out.keep (bl3 _ _ _ _) (Nat.le_refl _)) (by simpa using HGD.out) (by simpa using hld)).mono ?_
  rintro e w4 ⟨hb4, rfl⟩
  have hs1 := txt_size n
  have hs2 := txt_size (d : Int)
  simp only [Int.natAbs_natCast] at hs2
  have hs3 : (txt n).size ≤ 100001 := by omega
  have hs4 : (txt (d : Int)).size ≤ 100001 := by omega
  clear hs1 hs2
  go_wp2
  go_ret
  refine ⟨(((k2.alloc k2.size _).alloc (by have := k2.size; simp; omega) _).alloc (by have := k2.size; simp; omega) _).trans (hb4.mono (by have := k2.size; simp; omega)), ?_⟩
  rw [cat_txt]
  unfold txtR
  rw [if_neg HD1.out]
  rfl
theorem rtext_any (v : Value) (n : Int) (d : Nat) (w : World) (h : Rr w v n d) (hG : GrC n.natAbs) (hl : nd n.natAbs ≤ 100000) (hGd : GrC d) (hld : nd d ≤ 100000) : Calls Tryz.prog 80 #[v] w (PTr n d w) := by
  by_cases hd1 : d = 1
  · subst hd1; exact rtext_one v n w h hG hl
  · exact rtext_big v n d w h hd1 hG hl hGd hld
end Go.Proofs.YtjjomjjgoceklaaGreat
namespace Go.Proofs.YtjjomjjgoceklaaGreat
set_option maxRecDepth 100000
open Go.RowKit Go.Shelf

theorem natP_one (s : ByteArray) (h : s.size = 1) (h1 : 49 ≤ byteAt s 0) (h2 : byteAt s 0 ≤ 57) : NatP s :=
  ⟨fun j hj => by obtain rfl : j = 0 := by omega
                  omega, .inr ⟨by omega, by omega⟩⟩
theorem parse_dd (s : ByteArray) (x y : Nat) (w : World) (hs : s.size = 3) (hi : Lib.indexByte s.data.toList 47 = ((1 : Nat) : Int)) (hx : byteAt s 0 = 48 + x) (hy : byteAt s 2 = 48 + y) (hx1 : 1 ≤ x) (hx9 : x ≤ 9) (hy1 : 1 ≤ y) (hy9 : y ≤ 9) :
    Calls Tryz.prog 13 #[.string s] w (PRe (Int.tdiv x (Nat.gcd x y : Nat)) (y / Nat.gcd x y) 0 w) := by
  have e1 : byteAt (s.extract 0 1) 0 = 48 + x := by rw [byteAt_extract s 0 1 0 (by omega) (by omega)]; exact hx
  have e2 : byteAt (s.extract (1 + 1) s.size) 0 = 48 + y := by rw [byteAt_extract s (1 + 1) s.size 0 (by omega) (by omega)]; exact hy
  refine parse_pos s 1 x y w (by omega) hi (by omega) (by omega) (by omega) (natP_one _ (by rw [extract_size _ _ _ (by omega)]) (by omega) (by omega))
    (natP_one _ (by rw [extract_size _ _ _ (by omega)]; omega) (by omega) (by omega)) ?_ ?_ (by omega) (ratC_small _ _ (by unfold Wd WB; omega) (by unfold Wd WB; omega) (by omega))
  · simp only [dec]; omega
  · rw [show s.size - (1 + 1) = 1 by omega]
    simp only [dec]; omega
/-- any ratio of small numbers: its sum is right -/
theorem addOK_small (an bn : Int) (p q : Nat) (n : Int) (hn : n = an * (q / Nat.gcd p q : Nat) + bn * (p / Nat.gcd p q : Nat)) (lp : p < 1000) (lq : q < 1000) (la : an.natAbs < 1000) (lb : bn.natAbs < 1000) (lan : (an * (q / Nat.gcd p q : Nat)).natAbs < 1000000) (lbn : (bn * (p / Nat.gcd p q : Nat)).natAbs < 1000000) (c : Int × Nat)
    (hc : c = (Int.tdiv n (Nat.gcd n.natAbs (Nat.gcd p q) : Nat), (p / Nat.gcd p q) * (q / Nat.gcd n.natAbs (Nat.gcd p q)))) : AddOK (an, p) (bn, q) c := by
  intro va vb w ha hb
  rw [hc]
  have sz : ∀ m : Nat, m < 1000000 → Sz m := fun m hm => ⟨1, by omega, by unfold WB; omega⟩
  exact radd_any WB va vb an bn p q w ha hb Num.small (by unfold WB; omega) (by unfold WB; omega) n hn (by unfold WB; omega) (sz _ (by omega)) (sz _ (by omega)) (sz _ (by omega)) (sz _ (by omega)) (sz _ lan) (sz _ lbn)
theorem add_a : AddOK (0, 1) (1, 2) (1, 2) := addOK_small 0 1 1 2 1 (by decide) (by decide) (by decide) (by decide) (by decide) (by decide) (by decide) _ (by decide)
theorem add_b : AddOK (1, 2) (1, 3) (5, 6) := addOK_small 1 1 2 3 5 (by decide) (by decide) (by decide) (by decide) (by decide) (by decide) (by decide) _ (by decide)
theorem add_c : AddOK (5, 6) (1, 6) (1, 1) := addOK_small 5 1 6 6 6 (by decide) (by decide) (by decide) (by decide) (by decide) (by decide) (by decide) _ (by decide)
theorem p64 (w : World) : Calls Tryz.prog 13 #[.string ⟨#[54, 47, 52]⟩] w (PRe 3 2 0 w) := parse_dd ⟨#[54, 47, 52]⟩ 6 4 w rfl rfl rfl rfl (by decide) (by decide) (by decide) (by decide)
theorem p12 (w : World) : Calls Tryz.prog 83 #[.string ⟨#[49, 47, 50]⟩] w (PR 1 2 w) := r_any _ 1 2 0 w fun W => parse_dd ⟨#[49, 47, 50]⟩ 1 2 W rfl rfl rfl rfl (by decide) (by decide) (by decide) (by decide)
theorem p13 (w : World) : Calls Tryz.prog 83 #[.string ⟨#[49, 47, 51]⟩] w (PR 1 3 w) := r_any _ 1 3 0 w fun W => parse_dd ⟨#[49, 47, 51]⟩ 1 3 W rfl rfl rfl rfl (by decide) (by decide) (by decide) (by decide)
theorem p16 (w : World) : Calls Tryz.prog 83 #[.string ⟨#[49, 47, 54]⟩] w (PR 1 6 w) := r_any _ 1 6 0 w fun W => parse_dd ⟨#[49, 47, 54]⟩ 1 6 W rfl rfl rfl rfl (by decide) (by decide) (by decide) (by decide)
/-! texts -/
theorem decL_small {n : Nat} (h : n < 10) : decL n = [⟨n, h⟩] := by
  unfold decL
  rw [nd_small h]
  simp [padL, digAt, Nat.mod_eq_of_lt h]
theorem nd_le {n : Nat} (h : n < 10) : nd n ≤ 100000 := by rw [nd_small h]; decide
theorem grC_ten {n : Nat} (h : n < 10) : GrC n := grC_small n (by unfold T19; omega)
theorem tx4 : txt (-4) = ⟨#[45, 52]⟩ := by unfold txt txtL; rw [show (-4 : Int).natAbs = 4 from rfl, decL_small (by decide)]; rfl
theorem tx1 : txt 1 = ⟨#[49]⟩ := by unfold txt txtL; rw [show (1 : Int).natAbs = 1 from rfl, decL_small (by decide)]; rfl
theorem tx6 : txt 6 = ⟨#[54]⟩ := by unfold txt txtL; rw [show (6 : Int).natAbs = 6 from rfl, decL_small (by decide)]; rfl
theorem tx32 : txtR 3 2 = ⟨#[51, 47, 50]⟩ := by
  unfold txtR
  rw [if_neg (by decide)]
  unfold txtL
  rw [show (3 : Int).natAbs = 3 from rfl, show (((2 : Nat) : Int)).natAbs = 2 from rfl, decL_small (by decide), decL_small (by decide)]
  rfl
theorem tx11 : txtR 1 1 = ⟨#[49]⟩ := by unfold txtR; rw [if_pos rfl]; exact tx1
def PSt (b : ByteArray) (w : World) (e : Ending) (w' : World) : Prop := Below w.heap.size w w' ∧ e = .returned (.string b)
theorem text4 (v : Value) (w : World) (h : Zr w v (-4)) : Calls Tryz.prog 79 #[v] w (PSt ⟨#[45, 52]⟩ w) := (text_any v (-4) w h (grC_ten (by decide)) (nd_le (by decide))).mono fun _ _ ⟨a, b⟩ => ⟨a, by rw [b, tx4]⟩
theorem text1 (v : Value) (w : World) (h : Zr w v 1) : Calls Tryz.prog 79 #[v] w (PSt ⟨#[49]⟩ w) := (text_any v 1 w h (grC_ten (by decide)) (nd_le (by decide))).mono fun _ _ ⟨a, b⟩ => ⟨a, by rw [b, tx1]⟩
theorem text6 (v : Value) (w : World) (h : Zr w v 6) : Calls Tryz.prog 79 #[v] w (PSt ⟨#[54]⟩ w) := (text_any v 6 w h (grC_ten (by decide)) (nd_le (by decide))).mono fun _ _ ⟨a, b⟩ => ⟨a, by rw [b, tx6]⟩
theorem rtext32 (v : Value) (w : World) (h : Rr w v 3 2) : Calls Tryz.prog 80 #[v] w (PSt ⟨#[51, 47, 50]⟩ w) := (rtext_any v 3 2 w h (grC_ten (by decide)) (nd_le (by decide)) (grC_ten (by decide)) (nd_le (by decide))).mono fun _ _ ⟨a, b⟩ => ⟨a, by rw [b, tx32]⟩
theorem rtext1 (v : Value) (w : World) (h : Rr w v 1 1) : Calls Tryz.prog 80 #[v] w (PSt ⟨#[49]⟩ w) := (rtext_any v 1 1 w h (grC_ten (by decide)) (nd_le (by decide)) (grC_ten (by decide)) (nd_le (by decide))).mono fun _ _ ⟨a, b⟩ => ⟨a, by rw [b, tx11]⟩
theorem wd_lit (n : Nat) (h : n < 1000000) : Wd n := by unfold Wd WB; omega
theorem sz_lit (n : Nat) (h : n < 1000000) : Sz n := ⟨1, by omega, by unfold WB; omega⟩
theorem quo72 (va vd : Value) (w : World) (ha : Zr w va (-7)) (hb : Zr w vd 2) : Calls Tryz.prog 82 #[va, vd] w (PQ (-4) 1 0 w) :=
  quotient_any va vd (-7) 2 w ha hb (by decide) (over_small 7 2 (wd_lit _ (by decide)) (wd_lit _ (by decide)) (by decide)) (sz_lit _ (by decide)) (sz_lit _ (by decide))
theorem gcd1218 (va vb : Value) (w : World) (ha : Zr w va (-12)) (hb : Zr w vb 18) : Calls Tryz.prog 76 #[va, vb] w (PZ 6 w) :=
  gcd_any va vb (-12) 18 w ha hb (common_small 12 18 (wd_lit _ (by decide)) (wd_lit _ (by decide)))
end Go.Proofs.YtjjomjjgoceklaaGreat
