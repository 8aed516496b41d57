import Derived.Test.YtjjomjjgoceklaaGreatKca
import Derived.Test.YtjjomjjgoceklaaGreatVq
import Derived.Test.YtjjomjjgoceklaaGreatVo
namespace Go.Proofs.YtjjomjjgoceklaaGreat
set_option maxRecDepth 100000
open Go.RowKit
section
variable {P : Program} {ops : Array Oper} {Q : Exit → Act → World → Prop}
theorem wp_region_kds {id : Nat} {a0 : Act} {w : World} (D : Nat → Bool) (tab : Nat → Kd) (I : World → Prop) (hm : P.follows .mixedOrders = true) (hback : backB .any ops = true) (hu : uniqB ops = true)
    (hD : (ops.toList.filterMap (·.dst)).all D = true) (hI : ∀ w w', I w → Below w.heap.size w w' → I w') (h0 : I { w with drawn := w.drawn + 1 })
    (hstep : AllFrom (fun i o => ∀ f w, I w → (∀ d, (predD ops i).contains d = true → kd (tab d) (f d) w) → ∃ d, o.dst = some d ∧
      ((Region.wanted o (yielded ops (fr a0 D f).tmps) = true ∧ OpR P o (fr a0 D f) w fun v w' => Below w.heap.size w w' ∧ kd (tab d) v w') ∨
        (Region.wanted o (yielded ops (fr a0 D f).tmps) = false ∧ kd (tab d) undef w))) 0 ops.toList)
    (hend : ∀ f w, I w → (∀ d, (ops.toList.filterMap (·.dst)).contains d = true → kd (tab d) (f d) w) → Q .normal (fr a0 D f) w) : (Code.region id ops true).wp P Q a0 w :=
  kd_core D tab I hu hD hI h0 (fun Φ a b c => wp_region_inv hm hback Φ a b c) hstep hend
end

/-! the reference's Sum, Min and Max -/
theorem RZ.zero (w : World) : RZ w (.agg #[.int .i64 0, .slice none 0 0]) 0 := ⟨[], .slice none 0 0, rfl, ⟨by simp, .inl ⟨rfl, rfl⟩⟩, (fun _ h => by cases h), (by simp [Nrm]), rfl⟩
theorem RA.zero (w : World) : RA w (.agg #[.int .i64 0, .slice none 0 0, .int .i64 0, .slice none 0 0]) 0 := ⟨0, ⟨0, none, 0, 0, 0, none, 0, 0, rfl, RZ.zero w, RZ.zero w⟩, .inr ⟨rfl, rfl⟩⟩
theorem HA.r4 {T : Nat} {a : Rat} {w : World} (h : HA T a w) : R4 T w := by
  obtain ⟨t1, f1, l1, c1, u1, hh1, m1, cc1, h1, _⟩ := h
  exact ⟨t1, f1, l1, c1, u1, hh1, m1, cc1, h1⟩
theorem HA.stored {T : Nat} {w : World} {a : Rat} {t1 : Int} {f1 : Option Addr} {l1 c1 : Nat} {u1 : Int} {hh1 : Option Addr} {m1 cc1 : Nat} (hT : R4 T w) (h : RA w (.agg #[.int .i64 t1, .slice f1 l1 c1, .int .i64 u1, .slice hh1 m1 cc1]) a) : HA T a (st4r w T (.int .i64 t1) (.slice f1 l1 c1) (.int .i64 u1) (.slice hh1 m1 cc1)) := by
  obtain ⟨d, h1, h2⟩ := h
  exact HA.ofHR (HR.stored hT h1) h2
/-- block b holds n ratios of the reference -/
def SlA (w : World) (b n : Nat) (l : Nat → Rat) : Prop := b < w.heap.size ∧ ∀ i, i < n → ∃ (t1 : Int) (f1 : Option Addr) (l1 c1 : Nat) (u1 : Int) (hh1 : Option Addr) (m1 cc1 : Nat),
  w.cell? ⟨b, i * 4, none⟩ = some (.int .i64 t1) ∧ w.cell? ⟨b, i * 4 + 1, none⟩ = some (.slice f1 l1 c1) ∧ w.cell? ⟨b, i * 4 + 2, none⟩ = some (.int .i64 u1) ∧ w.cell? ⟨b, i * 4 + 3, none⟩ = some (.slice hh1 m1 cc1) ∧ RA w (.agg #[.int .i64 t1, .slice f1 l1 c1, .int .i64 u1, .slice hh1 m1 cc1]) (l i)
theorem SlA.keep {w w' : World} {b n : Nat} {l : Nat → Rat} (h : SlA w b n l) (hb : Below w.heap.size w w') : SlA w' b n l :=
  ⟨Nat.lt_of_lt_of_le h.1 hb.size, fun i hi => by
    obtain ⟨t1, f1, l1, c1, u1, hh1, m1, cc1, d1, d2, d3, d4, hr⟩ := h.2 i hi
    exact ⟨t1, f1, l1, c1, u1, hh1, m1, cc1, (hb.cell (p := ⟨b, i * 4, none⟩) h.1).trans d1, (hb.cell (p := ⟨b, i * 4 + 1, none⟩) h.1).trans d2, (hb.cell (p := ⟨b, i * 4 + 2, none⟩) h.1).trans d3, (hb.cell (p := ⟨b, i * 4 + 3, none⟩) h.1).trans d4, hr.keep hb (Nat.le_refl _)⟩⟩
/-- a row, or none -/
def SA (w : World) (v : Value) (n : Nat) (l : Nat → Rat) : Prop := (v = .slice none 0 0 ∧ n = 0) ∨ ∃ b cap, v = .slice (some ⟨b, 0, none⟩) n cap ∧ SlA w b n l
theorem SA.keep {w w' : World} {v : Value} {n : Nat} {l : Nat → Rat} (h : SA w v n l) (hb : Below w.heap.size w w') : SA w' v n l := by
  rcases h with h | ⟨b, cap, e, h⟩
  · exact .inl h
  · exact .inr ⟨b, cap, e, h.keep hb⟩
section
variable {ρ : Operand → Value} {o : Oper} {w : World} {t x : Operand}
theorem rn_index79 {b n cp k : Nat} (ho : o.op = .indexAddr 79 t x) (h1 : ρ t = .slice (some ⟨b, 0, none⟩) n cp) (h2 : ρ x = .int .i64 k) (hk : k < n) : (execOp ρ o).run Tryz.prog w = .ok (.value (.pointer (some ⟨b, k * 4, none⟩))) w := by
  unfold execOp; rw [ho]; simp [go_sem, h1, h2, hk]
theorem rn_load44o {b i : Nat} {t1 : Int} {f1 : Option Addr} {l1 c1 : Nat} {u1 : Int} {hh1 : Option Addr} {m1 cc1 : Nat} (ho : o.op = .load 44 t) (he : ρ t = .pointer (some ⟨b, i, none⟩)) (g1 : w.cell? ⟨b, i, none⟩ = some (.int .i64 t1)) (g2 : w.cell? ⟨b, i + 1, none⟩ = some (.slice f1 l1 c1)) (g3 : w.cell? ⟨b, i + 2, none⟩ = some (.int .i64 u1)) (g4 : w.cell? ⟨b, i + 3, none⟩ = some (.slice hh1 m1 cc1)) :
    (execOp ρ o).run Tryz.prog w = .ok (.value (.agg #[.int .i64 t1, .slice f1 l1 c1, .int .i64 u1, .slice hh1 m1 cc1])) w := by
  unfold execOp; rw [ho]; simp [go_sem, he, g1, g2, g3, g4]
end
structure G55 (w0 : World) (b n : Nat) (l : Nat → Rat) (a : Rat) (w : World) : Prop where
  kb : Below w0.heap.size w0 w
  t : R4 w0.heap.size w
  s : HA (w0.heap.size + 1) a w
  r : SlA w0 b n l
theorem G55.keep {w0 w w' : World} {b n : Nat} {l : Nat → Rat} {a : Rat} (h : G55 w0 b n l a w) (hb : Below w.heap.size w w') : G55 w0 b n l a w' := ⟨Below.thru h.kb h.kb.size hb, h.t.keep hb, h.s.keep hb, h.r⟩
theorem G55.row {w0 w : World} {b n : Nat} {l : Nat → Rat} {a : Rat} (h : G55 w0 b n l a w) : SlA w b n l := h.r.keep h.kb
theorem G55.put {w0 w : World} {b n : Nat} {l : Nat → Rat} {a c : Rat} (h : G55 w0 b n l a w) {t1 : Int} {f1 : Option Addr} {l1 c1 : Nat} {u1 : Int} {hh1 : Option Addr} {m1 cc1 : Nat} (hv : RA w (.agg #[.int .i64 t1, .slice f1 l1 c1, .int .i64 u1, .slice hh1 m1 cc1]) c) : G55 w0 b n l c (st4r w (w0.heap.size + 1) (.int .i64 t1) (.slice f1 l1 c1) (.int .i64 u1) (.slice hh1 m1 cc1)) :=
  ⟨below4r h.kb (by omega) _ _ _ _, h.t.other (grown4r _ _ _ _ _ _) (by omega), HA.stored h.s.r4 hv, h.r⟩


def D55 (t : Nat) : Bool := match t with | 11 => true | 12 => true | 13 => true | 14 => true | 15 => true | 16 => true | _ => false
def tab55 (b n cap k : Nat) (l : Nat → Rat) (t : Nat) : Kd := [kra (sumq l k), .v (.slice (some ⟨b, 0, none⟩) n cap), .v (.int .i64 k), .v (.pointer (some ⟨b, k * 4, none⟩)), kra (l k), kra (sumq l (k + 1))].getD (t - 11) .any
set_option maxHeartbeats 1600000 in
theorem sumr_any (b n cap : Nat) (l : Nat → Rat) (w : World) (hl : SlA w b n l) (bd : ∀ i, i < n → Bd9 1 (l i)) (hn : n ≤ 30) : Calls Tryz.prog 55 #[.slice (some ⟨b, 0, none⟩) n cap] w (PRA (sumq l n) w) := by
  have S0 : G55 w b n l (sumq l 0) ((w.alloc (.cells #[.int .i64 0, .slice none 0 0, .int .i64 0, .slice none 0 0] 44)).alloc (.cells #[.int .i64 0, .slice none 0 0, .int .i64 0, .slice none 0 0] 44)) := by
    refine ⟨bl2 _ _ _, (r4_new w rfl).keep (bl1 _ _), ?_, hl⟩
    have := HA.new (RA.zero (w.alloc (.cells #[.int .i64 0, .slice none 0 0, .int .i64 0, .slice none 0 0] 44)))
    rw [World.size_alloc] at this
    exact this
  have S0 := Lib.hid S0
  have BD := Lib.hid bd
  clear hl bd
  go_enter Tryz.func55, Tryz.ntmps55
  go_wp2
  go_loopw [4] (fun i wr => ∃ k : Nat, k ≤ n ∧ i = .int .i64 k ∧ Hid (G55 w b n l (sumq l k) wr)) (fun i _ => n - (intOf i).toNat)
  case atStart => exact ⟨0, Nat.zero_le _, rfl, S0⟩
  case round =>
    obtain ⟨k, hk, rfl, S⟩ := hrel
    by_cases hlt : k < n
    · have LT := Lib.hid hlt
      go_upto_region 5 with fail
      refine wp_region_two D55 (tab55 b n cap k l) (G55 w b n l (sumq l k)) 6 (fun _ _ w' => G55 w b n l (sumq l (k + 1)) w') (by kernel_rfl) (by kernel_rfl) (by kernel_rfl) (by kernel_rfl) (by decide) (by kernel_rfl) (fun _ _ h hb => h.keep hb) (S.out.keep (Below.refl _ _).drew) ?_ ?_ ?_
      · refine .cons (fun f w' hI hs => ?_) ?_
        · obtain ⟨t1, f1, l1, c1, u1, hh1, m1, cc1, e1, e2, e3⟩ := hI.s
          exact ⟨wanted_none rfl, _, rfl, .val (rn_load44 rfl (fr_old rfl rfl) e1) ⟨Below.refl _ _, e2⟩⟩
        refine .cons (fun f w' hI hs => ⟨wanted_none rfl, _, rfl, .val (rn_move rfl) ⟨Below.refl _ _, fr_old rfl rfl⟩⟩) ?_
        refine .cons (fun f w' hI hs => ⟨wanted_none rfl, _, rfl, .val (rn_move rfl) ⟨Below.refl _ _, fr_old rfl rfl⟩⟩) ?_
        refine .cons (fun f w' hI hs => ⟨wanted_none rfl, _, rfl, .val (rn_index79 rfl ((fr_own rfl rfl).trans (hs 12 (by kernel_rfl))) ((fr_own rfl rfl).trans (hs 13 (by kernel_rfl))) LT.out) ⟨Below.refl _ _, rfl⟩⟩) ?_
        refine .cons (fun f w' hI hs => ?_) ?_
        · obtain ⟨t1, f1, l1, c1, u1, hh1, m1, cc1, d1, d2, d3, d4, hr⟩ := hI.row.2 k LT.out
          exact ⟨wanted_none rfl, _, rfl, .val (rn_load44o rfl ((fr_own rfl rfl).trans (hs 14 (by kernel_rfl))) d1 d2 d3 d4) ⟨Below.refl _ _, hr⟩⟩
        exact .cons (fun f w' hI hs => ⟨wanted_none rfl, _, rfl, .call2 rfl cf43' rfl rfl rfl rfl (PRA.kd (raddr_any _ _ (sumq l k) (l k) (sumq l (k + 1)) _ _ _ (hs 11 (by kernel_rfl)) (hs 15 (by kernel_rfl)) (sumq_bd BD.out k hk) (BD.out k LT.out) (by omega) rfl))⟩) .nil
      · refine .cons (fun f w' h => ⟨wanted_none rfl, ?_⟩) .nil
        obtain ⟨hI, hs⟩ := (if_pos rfl) ▸ h
        have hv : RA w' (f 16) (sumq l (k + 1)) := (hs 16 (by kernel_rfl))
        obtain ⟨t1, f1, l1, c1, u1, hh1, m1, cc1, e1⟩ := hv.agg
        rw [e1] at hv
        exact .skip (rn_store44 rfl (fr_old rfl rfl) ((fr_own rfl rfl).trans e1) hI.s.r4) (hI.put hv)
      · intro f w' h
        have QE := Lib.hid h
        clear h S
        go_step
        go_step
        simp only [fr, over, D55, Nat.reduceAdd]
        go_wp2
        go_roundw
        case rel => exact ⟨k + 1, by omega, by go_num, QE⟩
        case measure => simp [intOf]; omega
    · obtain rfl : k = n := by omega
      obtain ⟨t1, f1, l1, c1, u1, hh1, m1, cc1, j1, j2, _⟩ := S.out.s
      have z1 := cell_blk (i := 0) j1
      have z2 := cell_blk (i := 1) j1
      have z3 := cell_blk (i := 2) j1
      have z4 := cell_blk (i := 3) j1
      obtain ⟨_, _, _, _, _, _, _, _, y1, y2, y3, y4, y5, y6, y7, y8⟩ := S.out.t.cells
      obtain ⟨i1, i2, i3, i4⟩ := four_cells y1 y2 y3 y4 (.int .i64 t1) (.slice f1 l1 c1) (.int .i64 u1) (.slice hh1 m1 cc1)
      unfold st4r at i1 i2 i3 i4
      have HF := Lib.hid (j2.store S.out.t.noI (grown4r wr w.heap.size (.int .i64 t1) (.slice f1 l1 c1) (.int .i64 u1) (.slice hh1 m1 cc1)))
      have KB := Lib.hid (below4r S.out.kb (Nat.le_refl _) (.int .i64 t1) (.slice f1 l1 c1) (.int .i64 u1) (.slice hh1 m1 cc1))
      clear j1 j2 S
      go_wp2
      exact bodyPost_ret (v := .agg #[.int .i64 t1, .slice f1 l1 c1, .int .i64 u1, .slice hh1 m1 cc1]) (by simp [results, Tryz.results55, go_sem, i1, i2, i3, i4]) rfl ⟨KB.out, _, rfl, HF.out⟩
end Go.Proofs.YtjjomjjgoceklaaGreat
namespace Go.Proofs.YtjjomjjgoceklaaGreat
set_option maxRecDepth 100000
open Go.RowKit

/-! the reference's Min and Max; Sum, Min, Max of no row -/
theorem cmpQ_lt1 (a b : Rat) : (cmpQ a b == -1) = decide (cmpQ a b < 0) := by
  unfold cmpQ; split
  · decide
  · split <;> decide
theorem cmpQ_gt1 (a b : Rat) : (cmpQ a b == 1) = decide (cmpQ a b > 0) := by
  unfold cmpQ; split
  · decide
  · split <;> decide
def tab57a (k : Nat) (tt : Nat) : Kd := [(.v (.int .i64 k)), (.v (.bool true)), (.v (.bool true)), (.v undef), (.v undef), (.v undef), (.v undef), (.v undef), (.v undef), (.v undef), (.v (.bool true))].getD (tt - 11) .any
def tab57b (b n cap k : Nat) (l : Nat → Rat) (bb : Bool) (tt : Nat) : Kd := [(.v (.int .i64 k)), (.v (.bool false)), (.v (.bool false)), (.v (.slice (some ⟨b, 0, none⟩) n cap)), (.v (.int .i64 k)), (.v (.pointer (some ⟨b, k * 4, none⟩))), (kra (l k)), (kra (bst (-1) l k)), (ki (cmpQ (l k) (bst (-1) l k))), (.v (.bool bb)), (.v (.bool bb))].getD (tt - 11) .any
def D57 (t : Nat) : Bool := (Nat.ble 11 t && Nat.ble t 21)
set_option maxHeartbeats 1600000 in
theorem minr_any (b n cap : Nat) (l : Nat → Rat) (w : World) (hl : SlA w b n l) (bd : ∀ i, i < n → Bd9 1 (l i)) (hn : n ≤ 30) : Calls Tryz.prog 57 #[.slice (some ⟨b, 0, none⟩) n cap] w (PRA (bst (-1) l n) w) := by
  have S0 : G55 w b n l (bst (-1) l 0) ((w.alloc (.cells #[.int .i64 0, .slice none 0 0, .int .i64 0, .slice none 0 0] 44)).alloc (.cells #[.int .i64 0, .slice none 0 0, .int .i64 0, .slice none 0 0] 44)) := by
    refine ⟨bl2 _ _ _, (r4_new w rfl).keep (bl1 _ _), ?_, hl⟩
    have := HA.new (RA.zero (w.alloc (.cells #[.int .i64 0, .slice none 0 0, .int .i64 0, .slice none 0 0] 44)))
    rw [World.size_alloc] at this
    exact this
  have S0 := Lib.hid S0
  have BD := Lib.hid bd
  clear hl bd
  go_enter Tryz.func57, Tryz.ntmps57
  go_wp2
  go_loopw [4] (fun i wr => ∃ k : Nat, k ≤ n ∧ i = .int .i64 k ∧ Hid (G55 w b n l (bst (-1) l k) wr)) (fun i _ => n - (intOf i).toNat)
  case atStart => exact ⟨0, Nat.zero_le _, rfl, S0⟩
  case round =>
    obtain ⟨k, hk, rfl, S⟩ := hrel
    by_cases hlt : k < n
    · have LT := Lib.hid hlt
      obtain ⟨bb, h1, h2, h3⟩ : ∃ bb : Bool, (k = 0 → bb = true) ∧ (k ≠ 0 → decide (cmpQ (l k) (bst (-1) l k) < 0) = bb) ∧ bst (-1) l (k + 1) = if bb = true then l k else bst (-1) l k := by
        by_cases hk0 : k = 0
        · exact ⟨true, fun _ => rfl, fun h => absurd hk0 h, by subst hk0; rfl⟩
        · refine ⟨_, fun h => absurd h hk0, fun _ => rfl, ?_⟩
          rw [← cmpQ_lt1, bst, if_neg hk0]
      have H1 := Lib.hid h1; have H2 := Lib.hid h2; have H3 := Lib.hid h3
      clear h1 h2 h3
      go_upto_region 5 with fail
      go_cut [21] (fun v wc => v = .bool bb ∧ G55 w b n l (bst (-1) l k) wc)
      case first =>
        rename_i J K' hJ hK
        by_cases hk0 : k = 0
        · have HKZ : ((k : Int) == 0) = true := by simp [hk0]
          obtain rfl : bb = true := H1.out hk0
          refine wp_region_kds D57 (tab57a k) (G55 w b n l (bst (-1) l k)) (by kernel_rfl) (by kernel_rfl) (by kernel_rfl) (by kernel_rfl) (fun _ _ h hb => h.keep hb) (S.out.keep (Below.refl _ _).drew) ?_ ?_
          ·
            refine .cons (fun f w' hI hs => ⟨_, rfl, .inl ⟨wanted_none rfl, .val (rn_move rfl) ⟨Below.refl _ _, fr_old rfl rfl⟩⟩⟩) ?_
            refine .cons (fun f w' hI hs => ⟨_, rfl, .inl ⟨wanted_none rfl, .val (rn_eqlI rfl ((fr_own rfl rfl).trans (hs 11 (by kernel_rfl))) rfl HKZ) ⟨Below.refl _ _, rfl⟩⟩⟩) ?_
            refine .cons (fun f w' hI hs => ⟨_, rfl, .inl ⟨wanted_none rfl, .val (rn_move rfl) ⟨Below.refl _ _, ((fr_own rfl rfl).trans (hs 12 (by kernel_rfl)))⟩⟩⟩) ?_
            refine .cons (fun f w' hI hs => ⟨_, rfl, .inr ⟨wanted_not rfl (by kernel_rfl) rfl rfl (hs 13 (by kernel_rfl)) rfl, rfl⟩⟩) ?_
            refine .cons (fun f w' hI hs => ⟨_, rfl, .inr ⟨wanted_not rfl (by kernel_rfl) rfl rfl (hs 13 (by kernel_rfl)) rfl, rfl⟩⟩) ?_
            refine .cons (fun f w' hI hs => ⟨_, rfl, .inr ⟨wanted_not rfl (by kernel_rfl) rfl rfl (hs 13 (by kernel_rfl)) rfl, rfl⟩⟩) ?_
            refine .cons (fun f w' hI hs => ⟨_, rfl, .inr ⟨wanted_not rfl (by kernel_rfl) rfl rfl (hs 13 (by kernel_rfl)) rfl, rfl⟩⟩) ?_
            refine .cons (fun f w' hI hs => ⟨_, rfl, .inr ⟨wanted_not rfl (by kernel_rfl) rfl rfl (hs 13 (by kernel_rfl)) rfl, rfl⟩⟩) ?_
            refine .cons (fun f w' hI hs => ⟨_, rfl, .inr ⟨wanted_not rfl (by kernel_rfl) rfl rfl (hs 13 (by kernel_rfl)) rfl, rfl⟩⟩) ?_
            refine .cons (fun f w' hI hs => ⟨_, rfl, .inr ⟨wanted_not rfl (by kernel_rfl) rfl rfl (hs 13 (by kernel_rfl)) rfl, rfl⟩⟩) ?_
            refine .cons (fun f w' hI hs => ⟨_, rfl, .inl ⟨wanted_none rfl, .val (rn_pick_t rfl ((fr_own rfl rfl).trans (hs 13 (by kernel_rfl)))) ⟨Below.refl _ _, rfl⟩⟩⟩) ?_
            exact .nil
          · intro f w' hI hk
            have h21 : f 21 = .bool true := hk 21 (by kernel_rfl)
            refine hK _ _ (Met.intro (hJ _ _ ?_))
            (repeat apply Exists.intro)
            refine ⟨?_, rfl⟩
            exact ⟨h21, hI⟩
        · have HKZ : ((k : Int) == 0) = false := by simp [hk0]
          have HBB := Lib.hid (H2.out hk0)
          refine wp_region_kds D57 (tab57b b n cap k l bb) (G55 w b n l (bst (-1) l k)) (by kernel_rfl) (by kernel_rfl) (by kernel_rfl) (by kernel_rfl) (fun _ _ h hb => h.keep hb) (S.out.keep (Below.refl _ _).drew) ?_ ?_
          ·
            refine .cons (fun f w' hI hs => ⟨_, rfl, .inl ⟨wanted_none rfl, .val (rn_move rfl) ⟨Below.refl _ _, fr_old rfl rfl⟩⟩⟩) ?_
            refine .cons (fun f w' hI hs => ⟨_, rfl, .inl ⟨wanted_none rfl, .val (rn_eqlI rfl ((fr_own rfl rfl).trans (hs 11 (by kernel_rfl))) rfl HKZ) ⟨Below.refl _ _, rfl⟩⟩⟩) ?_
            refine .cons (fun f w' hI hs => ⟨_, rfl, .inl ⟨wanted_none rfl, .val (rn_move rfl) ⟨Below.refl _ _, ((fr_own rfl rfl).trans (hs 12 (by kernel_rfl)))⟩⟩⟩) ?_
            refine .cons (fun f w' hI hs => ⟨_, rfl, .inl ⟨wanted_some rfl (by kernel_rfl) rfl rfl (hs 13 (by kernel_rfl)), .val (rn_move rfl) ⟨Below.refl _ _, fr_old rfl rfl⟩⟩⟩) ?_
            refine .cons (fun f w' hI hs => ⟨_, rfl, .inl ⟨wanted_some rfl (by kernel_rfl) rfl rfl (hs 13 (by kernel_rfl)), .val (rn_move rfl) ⟨Below.refl _ _, fr_old rfl rfl⟩⟩⟩) ?_
            refine .cons (fun f w' hI hs => ⟨_, rfl, .inl ⟨wanted_some rfl (by kernel_rfl) rfl rfl (hs 13 (by kernel_rfl)), .val (rn_index79 rfl ((fr_own rfl rfl).trans (hs 14 (by kernel_rfl))) ((fr_own rfl rfl).trans (hs 15 (by kernel_rfl))) LT.out) ⟨Below.refl _ _, rfl⟩⟩⟩) ?_
            refine .cons (fun f w' hI hs => ?_) ?_
            · obtain ⟨t1, f1, l1, c1, u1, hh1, m1, cc1, d1, d2, d3, d4, hr⟩ := hI.row.2 k LT.out
              exact ⟨_, rfl, .inl ⟨wanted_some rfl (by kernel_rfl) rfl rfl (hs 13 (by kernel_rfl)), .val (rn_load44o rfl ((fr_own rfl rfl).trans (hs 16 (by kernel_rfl))) d1 d2 d3 d4) ⟨Below.refl _ _, hr⟩⟩⟩
            refine .cons (fun f w' hI hs => ?_) ?_
            · obtain ⟨t1, f1, l1, c1, u1, hh1, m1, cc1, e1, e2, e3⟩ := hI.s
              exact ⟨_, rfl, .inl ⟨wanted_some rfl (by kernel_rfl) rfl rfl (hs 13 (by kernel_rfl)), .val (rn_load44 rfl (fr_old rfl rfl) e1) ⟨Below.refl _ _, e2⟩⟩⟩
            refine .cons (fun f w' hI hs => ⟨_, rfl, .inl ⟨wanted_some rfl (by kernel_rfl) rfl rfl (hs 13 (by kernel_rfl)), .call2 rfl cf53' rfl rfl rfl rfl (PCq.kd (rcmpr_any _ _ (l k) (bst (-1) l k) _ _ _ (hs 17 (by kernel_rfl)) (hs 18 (by kernel_rfl)) (BD.out k LT.out) (bst_bd BD.out k hk) (by decide)))⟩⟩) ?_
            refine .cons (fun f w' hI hs => ⟨_, rfl, .inl ⟨wanted_some rfl (by kernel_rfl) rfl rfl (hs 13 (by kernel_rfl)), .val (rn_lssI rfl ((fr_own rfl rfl).trans (hs 19 (by kernel_rfl))) rfl HBB.out) ⟨Below.refl _ _, rfl⟩⟩⟩) ?_
            refine .cons (fun f w' hI hs => ⟨_, rfl, .inl ⟨wanted_none rfl, .val (rn_pick_f rfl ((fr_own rfl rfl).trans (hs 13 (by kernel_rfl)))) ⟨Below.refl _ _, ((fr_own rfl rfl).trans (hs 20 (by kernel_rfl)))⟩⟩⟩) ?_
            exact .nil
          · intro f w' hI hk
            have h21 : f 21 = .bool bb := hk 21 (by kernel_rfl)
            refine hK _ _ (Met.intro (hJ _ _ ?_))
            (repeat apply Exists.intro)
            refine ⟨?_, rfl⟩
            exact ⟨h21, hI⟩
      case rest =>
        obtain ⟨rfl, S1⟩ := hcut
        clear S H1 H2
        have S1 := Lib.hid S1
        cases bb with
        | true =>
          obtain ⟨t1, f1, l1, c1, u1, hh1, m1, cc1, d1, d2, d3, d4, hr⟩ := S1.out.row.2 k LT.out
          have QE := Lib.hid (show G55 w b n l (bst (-1) l (k + 1)) _ by rw [H3.out]; exact S1.out.put hr)
          obtain ⟨_, _, _, _, _, _, _, _, y1, y2, y3, y4, y5, y6, y7, y8⟩ := S1.out.s.r4.cells
          clear hr S1 H3
          go_wp2
          go_roundw
          case rel => exact ⟨k + 1, by omega, by go_num, QE⟩
          case measure => simp [intOf]; omega
        | false =>
          have QE := Lib.hid (show G55 w b n l (bst (-1) l (k + 1)) _ by rw [H3.out]; exact S1.out)
          clear S1 H3
          go_wp2
          go_roundw
          case rel => exact ⟨k + 1, by omega, by go_num, QE⟩
          case measure => simp [intOf]; omega
    · obtain rfl : k = n := by omega
      obtain ⟨t1, f1, l1, c1, u1, hh1, m1, cc1, j1, j2, _⟩ := S.out.s
      have z1 := cell_blk (i := 0) j1
      have z2 := cell_blk (i := 1) j1
      have z3 := cell_blk (i := 2) j1
      have z4 := cell_blk (i := 3) j1
      obtain ⟨_, _, _, _, _, _, _, _, y1, y2, y3, y4, y5, y6, y7, y8⟩ := S.out.t.cells
      obtain ⟨i1, i2, i3, i4⟩ := four_cells y1 y2 y3 y4 (.int .i64 t1) (.slice f1 l1 c1) (.int .i64 u1) (.slice hh1 m1 cc1)
      unfold st4r at i1 i2 i3 i4
      have HF := Lib.hid (j2.store S.out.t.noI (grown4r wr w.heap.size (.int .i64 t1) (.slice f1 l1 c1) (.int .i64 u1) (.slice hh1 m1 cc1)))
      have KB := Lib.hid (below4r S.out.kb (Nat.le_refl _) (.int .i64 t1) (.slice f1 l1 c1) (.int .i64 u1) (.slice hh1 m1 cc1))
      clear j1 j2 S
      go_wp2
      exact bodyPost_ret (v := .agg #[.int .i64 t1, .slice f1 l1 c1, .int .i64 u1, .slice hh1 m1 cc1]) (by simp [results, Tryz.results57, go_sem, i1, i2, i3, i4]) rfl ⟨KB.out, _, rfl, HF.out⟩
def tab59a (k : Nat) (tt : Nat) : Kd := [(.v (.int .i64 k)), (.v (.bool true)), (.v (.bool true)), (.v undef), (.v undef), (.v undef), (.v undef), (.v undef), (.v undef), (.v undef), (.v (.bool true))].getD (tt - 11) .any
def tab59b (b n cap k : Nat) (l : Nat → Rat) (bb : Bool) (tt : Nat) : Kd := [(.v (.int .i64 k)), (.v (.bool false)), (.v (.bool false)), (.v (.slice (some ⟨b, 0, none⟩) n cap)), (.v (.int .i64 k)), (.v (.pointer (some ⟨b, k * 4, none⟩))), (kra (l k)), (kra (bst 1 l k)), (ki (cmpQ (l k) (bst 1 l k))), (.v (.bool bb)), (.v (.bool bb))].getD (tt - 11) .any
def D59 (t : Nat) : Bool := (Nat.ble 11 t && Nat.ble t 21)
set_option maxHeartbeats 1600000 in
theorem maxr_any (b n cap : Nat) (l : Nat → Rat) (w : World) (hl : SlA w b n l) (bd : ∀ i, i < n → Bd9 1 (l i)) (hn : n ≤ 30) : Calls Tryz.prog 59 #[.slice (some ⟨b, 0, none⟩) n cap] w (PRA (bst 1 l n) w) := by
  have S0 : G55 w b n l (bst 1 l 0) ((w.alloc (.cells #[.int .i64 0, .slice none 0 0, .int .i64 0, .slice none 0 0] 44)).alloc (.cells #[.int .i64 0, .slice none 0 0, .int .i64 0, .slice none 0 0] 44)) := by
    refine ⟨bl2 _ _ _, (r4_new w rfl).keep (bl1 _ _), ?_, hl⟩
    have := HA.new (RA.zero (w.alloc (.cells #[.int .i64 0, .slice none 0 0, .int .i64 0, .slice none 0 0] 44)))
    rw [World.size_alloc] at this
    exact this
  have S0 := Lib.hid S0
  have BD := Lib.hid bd
  clear hl bd
  go_enter Tryz.func59, Tryz.ntmps59
  go_wp2
  go_loopw [4] (fun i wr => ∃ k : Nat, k ≤ n ∧ i = .int .i64 k ∧ Hid (G55 w b n l (bst 1 l k) wr)) (fun i _ => n - (intOf i).toNat)
  case atStart => exact ⟨0, Nat.zero_le _, rfl, S0⟩
  case round =>
    obtain ⟨k, hk, rfl, S⟩ := hrel
    by_cases hlt : k < n
    · have LT := Lib.hid hlt
      obtain ⟨bb, h1, h2, h3⟩ : ∃ bb : Bool, (k = 0 → bb = true) ∧ (k ≠ 0 → decide (cmpQ (l k) (bst 1 l k) > 0) = bb) ∧ bst 1 l (k + 1) = if bb = true then l k else bst 1 l k := by
        by_cases hk0 : k = 0
        · exact ⟨true, fun _ => rfl, fun h => absurd hk0 h, by subst hk0; rfl⟩
        · refine ⟨_, fun h => absurd h hk0, fun _ => rfl, ?_⟩
          rw [← cmpQ_gt1, bst, if_neg hk0]
      have H1 := Lib.hid h1; have H2 := Lib.hid h2; have H3 := Lib.hid h3
      clear h1 h2 h3
      go_upto_region 5 with fail
      go_cut [21] (fun v wc => v = .bool bb ∧ G55 w b n l (bst 1 l k) wc)
      case first =>
        rename_i J K' hJ hK
        by_cases hk0 : k = 0
        · have HKZ : ((k : Int) == 0) = true := by simp [hk0]
          obtain rfl : bb = true := H1.out hk0
          refine wp_region_kds D59 (tab59a k) (G55 w b n l (bst 1 l k)) (by kernel_rfl) (by kernel_rfl) (by kernel_rfl) (by kernel_rfl) (fun _ _ h hb => h.keep hb) (S.out.keep (Below.refl _ _).drew) ?_ ?_
          ·
            refine .cons (fun f w' hI hs => ⟨_, rfl, .inl ⟨wanted_none rfl, .val (rn_move rfl) ⟨Below.refl _ _, fr_old rfl rfl⟩⟩⟩) ?_
            refine .cons (fun f w' hI hs => ⟨_, rfl, .inl ⟨wanted_none rfl, .val (rn_eqlI rfl ((fr_own rfl rfl).trans (hs 11 (by kernel_rfl))) rfl HKZ) ⟨Below.refl _ _, rfl⟩⟩⟩) ?_
            refine .cons (fun f w' hI hs => ⟨_, rfl, .inl ⟨wanted_none rfl, .val (rn_move rfl) ⟨Below.refl _ _, ((fr_own rfl rfl).trans (hs 12 (by kernel_rfl)))⟩⟩⟩) ?_
            refine .cons (fun f w' hI hs => ⟨_, rfl, .inr ⟨wanted_not rfl (by kernel_rfl) rfl rfl (hs 13 (by kernel_rfl)) rfl, rfl⟩⟩) ?_
            refine .cons (fun f w' hI hs => ⟨_, rfl, .inr ⟨wanted_not rfl (by kernel_rfl) rfl rfl (hs 13 (by kernel_rfl)) rfl, rfl⟩⟩) ?_
            refine .cons (fun f w' hI hs => ⟨_, rfl, .inr ⟨wanted_not rfl (by kernel_rfl) rfl rfl (hs 13 (by kernel_rfl)) rfl, rfl⟩⟩) ?_
            refine .cons (fun f w' hI hs => ⟨_, rfl, .inr ⟨wanted_not rfl (by kernel_rfl) rfl rfl (hs 13 (by kernel_rfl)) rfl, rfl⟩⟩) ?_
            refine .cons (fun f w' hI hs => ⟨_, rfl, .inr ⟨wanted_not rfl (by kernel_rfl) rfl rfl (hs 13 (by kernel_rfl)) rfl, rfl⟩⟩) ?_
            refine .cons (fun f w' hI hs => ⟨_, rfl, .inr ⟨wanted_not rfl (by kernel_rfl) rfl rfl (hs 13 (by kernel_rfl)) rfl, rfl⟩⟩) ?_
            refine .cons (fun f w' hI hs => ⟨_, rfl, .inr ⟨wanted_not rfl (by kernel_rfl) rfl rfl (hs 13 (by kernel_rfl)) rfl, rfl⟩⟩) ?_
            refine .cons (fun f w' hI hs => ⟨_, rfl, .inl ⟨wanted_none rfl, .val (rn_pick_t rfl ((fr_own rfl rfl).trans (hs 13 (by kernel_rfl)))) ⟨Below.refl _ _, rfl⟩⟩⟩) ?_
            exact .nil
          · intro f w' hI hk
            have h21 : f 21 = .bool true := hk 21 (by kernel_rfl)
            refine hK _ _ (Met.intro (hJ _ _ ?_))
            (repeat apply Exists.intro)
            refine ⟨?_, rfl⟩
            exact ⟨h21, hI⟩
        · have HKZ : ((k : Int) == 0) = false := by simp [hk0]
          have HBB := Lib.hid (H2.out hk0)
          refine wp_region_kds D59 (tab59b b n cap k l bb) (G55 w b n l (bst 1 l k)) (by kernel_rfl) (by kernel_rfl) (by kernel_rfl) (by kernel_rfl) (fun _ _ h hb => h.keep hb) (S.out.keep (Below.refl _ _).drew) ?_ ?_
          ·
            refine .cons (fun f w' hI hs => ⟨_, rfl, .inl ⟨wanted_none rfl, .val (rn_move rfl) ⟨Below.refl _ _, fr_old rfl rfl⟩⟩⟩) ?_
            refine .cons (fun f w' hI hs => ⟨_, rfl, .inl ⟨wanted_none rfl, .val (rn_eqlI rfl ((fr_own rfl rfl).trans (hs 11 (by kernel_rfl))) rfl HKZ) ⟨Below.refl _ _, rfl⟩⟩⟩) ?_
            refine .cons (fun f w' hI hs => ⟨_, rfl, .inl ⟨wanted_none rfl, .val (rn_move rfl) ⟨Below.refl _ _, ((fr_own rfl rfl).trans (hs 12 (by kernel_rfl)))⟩⟩⟩) ?_
            refine .cons (fun f w' hI hs => ⟨_, rfl, .inl ⟨wanted_some rfl (by kernel_rfl) rfl rfl (hs 13 (by kernel_rfl)), .val (rn_move rfl) ⟨Below.refl _ _, fr_old rfl rfl⟩⟩⟩) ?_
            refine .cons (fun f w' hI hs => ⟨_, rfl, .inl ⟨wanted_some rfl (by kernel_rfl) rfl rfl (hs 13 (by kernel_rfl)), .val (rn_move rfl) ⟨Below.refl _ _, fr_old rfl rfl⟩⟩⟩) ?_
            refine .cons (fun f w' hI hs => ⟨_, rfl, .inl ⟨wanted_some rfl (by kernel_rfl) rfl rfl (hs 13 (by kernel_rfl)), .val (rn_index79 rfl ((fr_own rfl rfl).trans (hs 14 (by kernel_rfl))) ((fr_own rfl rfl).trans (hs 15 (by kernel_rfl))) LT.out) ⟨Below.refl _ _, rfl⟩⟩⟩) ?_
            refine .cons (fun f w' hI hs => ?_) ?_
            · obtain ⟨t1, f1, l1, c1, u1, hh1, m1, cc1, d1, d2, d3, d4, hr⟩ := hI.row.2 k LT.out
              exact ⟨_, rfl, .inl ⟨wanted_some rfl (by kernel_rfl) rfl rfl (hs 13 (by kernel_rfl)), .val (rn_load44o rfl ((fr_own rfl rfl).trans (hs 16 (by kernel_rfl))) d1 d2 d3 d4) ⟨Below.refl _ _, hr⟩⟩⟩
            refine .cons (fun f w' hI hs => ?_) ?_
            · obtain ⟨t1, f1, l1, c1, u1, hh1, m1, cc1, e1, e2, e3⟩ := hI.s
              exact ⟨_, rfl, .inl ⟨wanted_some rfl (by kernel_rfl) rfl rfl (hs 13 (by kernel_rfl)), .val (rn_load44 rfl (fr_old rfl rfl) e1) ⟨Below.refl _ _, e2⟩⟩⟩
            refine .cons (fun f w' hI hs => ⟨_, rfl, .inl ⟨wanted_some rfl (by kernel_rfl) rfl rfl (hs 13 (by kernel_rfl)), .call2 rfl cf53' rfl rfl rfl rfl (PCq.kd (rcmpr_any _ _ (l k) (bst 1 l k) _ _ _ (hs 17 (by kernel_rfl)) (hs 18 (by kernel_rfl)) (BD.out k LT.out) (bst_bd BD.out k hk) (by decide)))⟩⟩) ?_
            refine .cons (fun f w' hI hs => ⟨_, rfl, .inl ⟨wanted_some rfl (by kernel_rfl) rfl rfl (hs 13 (by kernel_rfl)), .val (rn_gtrI rfl ((fr_own rfl rfl).trans (hs 19 (by kernel_rfl))) rfl HBB.out) ⟨Below.refl _ _, rfl⟩⟩⟩) ?_
            refine .cons (fun f w' hI hs => ⟨_, rfl, .inl ⟨wanted_none rfl, .val (rn_pick_f rfl ((fr_own rfl rfl).trans (hs 13 (by kernel_rfl)))) ⟨Below.refl _ _, ((fr_own rfl rfl).trans (hs 20 (by kernel_rfl)))⟩⟩⟩) ?_
            exact .nil
          · intro f w' hI hk
            have h21 : f 21 = .bool bb := hk 21 (by kernel_rfl)
            refine hK _ _ (Met.intro (hJ _ _ ?_))
            (repeat apply Exists.intro)
            refine ⟨?_, rfl⟩
            exact ⟨h21, hI⟩
      case rest =>
        obtain ⟨rfl, S1⟩ := hcut
        clear S H1 H2
        have S1 := Lib.hid S1
        cases bb with
        | true =>
          obtain ⟨t1, f1, l1, c1, u1, hh1, m1, cc1, d1, d2, d3, d4, hr⟩ := S1.out.row.2 k LT.out
          have QE := Lib.hid (show G55 w b n l (bst 1 l (k + 1)) _ by rw [H3.out]; exact S1.out.put hr)
          obtain ⟨_, _, _, _, _, _, _, _, y1, y2, y3, y4, y5, y6, y7, y8⟩ := S1.out.s.r4.cells
          clear hr S1 H3
          go_wp2
          go_roundw
          case rel => exact ⟨k + 1, by omega, by go_num, QE⟩
          case measure => simp [intOf]; omega
        | false =>
          have QE := Lib.hid (show G55 w b n l (bst 1 l (k + 1)) _ by rw [H3.out]; exact S1.out)
          clear S1 H3
          go_wp2
          go_roundw
          case rel => exact ⟨k + 1, by omega, by go_num, QE⟩
          case measure => simp [intOf]; omega
    · obtain rfl : k = n := by omega
      obtain ⟨t1, f1, l1, c1, u1, hh1, m1, cc1, j1, j2, _⟩ := S.out.s
      have z1 := cell_blk (i := 0) j1
      have z2 := cell_blk (i := 1) j1
      have z3 := cell_blk (i := 2) j1
      have z4 := cell_blk (i := 3) j1
      obtain ⟨_, _, _, _, _, _, _, _, y1, y2, y3, y4, y5, y6, y7, y8⟩ := S.out.t.cells
      obtain ⟨i1, i2, i3, i4⟩ := four_cells y1 y2 y3 y4 (.int .i64 t1) (.slice f1 l1 c1) (.int .i64 u1) (.slice hh1 m1 cc1)
      unfold st4r at i1 i2 i3 i4
      have HF := Lib.hid (j2.store S.out.t.noI (grown4r wr w.heap.size (.int .i64 t1) (.slice f1 l1 c1) (.int .i64 u1) (.slice hh1 m1 cc1)))
      have KB := Lib.hid (below4r S.out.kb (Nat.le_refl _) (.int .i64 t1) (.slice f1 l1 c1) (.int .i64 u1) (.slice hh1 m1 cc1))
      clear j1 j2 S
      go_wp2
      exact bodyPost_ret (v := .agg #[.int .i64 t1, .slice f1 l1 c1, .int .i64 u1, .slice hh1 m1 cc1]) (by simp [results, Tryz.results59, go_sem, i1, i2, i3, i4]) rfl ⟨KB.out, _, rfl, HF.out⟩
theorem sumr_nil (w : World) : Calls Tryz.prog 55 #[.slice none 0 0] w (PRA 0 w) := by
  have kk := bl2 w (.cells #[.int .i64 0, .slice none 0 0, .int .i64 0, .slice none 0 0] 44) (.cells #[.int .i64 0, .slice none 0 0, .int .i64 0, .slice none 0 0] 44)
  have R0 := (r4_new w rfl).keep (bl1 _ (.cells #[.int .i64 0, .slice none 0 0, .int .i64 0, .slice none 0 0] 44))
  obtain ⟨w1, hw1⟩ : ∃ w1, w1 = (w.alloc (.cells #[.int .i64 0, .slice none 0 0, .int .i64 0, .slice none 0 0] 44)).alloc (.cells #[.int .i64 0, .slice none 0 0, .int .i64 0, .slice none 0 0] 44) := ⟨_, rfl⟩
  have hq : R4 w.heap.size w1 := by rw [hw1]; exact R0
  have kb : Below w.heap.size w w1 := by rw [hw1]; exact kk
  have hn : w1.heap[w.heap.size + 1]? = some (.cells #[.int .i64 0, .slice none 0 0, .int .i64 0, .slice none 0 0] 44) := by
    have := Go.Deep.blk_alloc_new (w.alloc (.cells #[.int .i64 0, .slice none 0 0, .int .i64 0, .slice none 0 0] 44)) (.cells #[.int .i64 0, .slice none 0 0, .int .i64 0, .slice none 0 0] 44)
    rw [World.size_alloc] at this
    rw [hw1]; exact this
  have HW := Lib.hid hw1; have HQ := Lib.hid hq; have KB := Lib.hid kb; have HN := Lib.hid hn
  clear R0 kk hw1 hq kb hn
  go_enter Tryz.func55, Tryz.ntmps55
  go_wp2
  go_loopw [4] (fun i wr => i = .int .i64 0 ∧ wr = w1) (fun _ _ => 0)
  case atStart => exact ⟨rfl, HW.out.symm⟩
  case round =>
    obtain ⟨rfl, rfl⟩ := hrel
    have z1 := cell_blk (i := 0) HN.out
    have z2 := cell_blk (i := 1) HN.out
    have z3 := cell_blk (i := 2) HN.out
    have z4 := cell_blk (i := 3) HN.out
    obtain ⟨_, _, _, _, _, _, _, _, y1, y2, y3, y4, y5, y6, y7, y8⟩ := HQ.out.cells
    obtain ⟨i1, i2, i3, i4⟩ := four_cells y1 y2 y3 y4 (.int .i64 0) (.slice none 0 0) (.int .i64 0) (.slice none 0 0)
    unfold st4r at i1 i2 i3 i4
    go_wp2
    exact bodyPost_ret (v := .agg #[.int .i64 0, .slice none 0 0, .int .i64 0, .slice none 0 0]) (by simp [results, Tryz.results55, go_sem, i1, i2, i3, i4]) rfl ⟨below4r KB.out (Nat.le_refl _) _ _ _ _, _, rfl, RA.zero _⟩
theorem sumr_sa (v : Value) (n : Nat) (l : Nat → Rat) (w : World) (h : SA w v n l) (bd : ∀ i, i < n → Bd9 1 (l i)) (hn : n ≤ 30) : Calls Tryz.prog 55 #[v] w (PRA (sumq l n) w) := by
  rcases h with ⟨rfl, rfl⟩ | ⟨b, cap, rfl, h⟩
  · exact sumr_nil w
  · exact sumr_any b n cap l w h bd hn
theorem minr_nil (w : World) : Calls Tryz.prog 57 #[.slice none 0 0] w (PRA 0 w) := by
  have kk := bl2 w (.cells #[.int .i64 0, .slice none 0 0, .int .i64 0, .slice none 0 0] 44) (.cells #[.int .i64 0, .slice none 0 0, .int .i64 0, .slice none 0 0] 44)
  have R0 := (r4_new w rfl).keep (bl1 _ (.cells #[.int .i64 0, .slice none 0 0, .int .i64 0, .slice none 0 0] 44))
  obtain ⟨w1, hw1⟩ : ∃ w1, w1 = (w.alloc (.cells #[.int .i64 0, .slice none 0 0, .int .i64 0, .slice none 0 0] 44)).alloc (.cells #[.int .i64 0, .slice none 0 0, .int .i64 0, .slice none 0 0] 44) := ⟨_, rfl⟩
  have hq : R4 w.heap.size w1 := by rw [hw1]; exact R0
  have kb : Below w.heap.size w w1 := by rw [hw1]; exact kk
  have hn : w1.heap[w.heap.size + 1]? = some (.cells #[.int .i64 0, .slice none 0 0, .int .i64 0, .slice none 0 0] 44) := by
    have := Go.Deep.blk_alloc_new (w.alloc (.cells #[.int .i64 0, .slice none 0 0, .int .i64 0, .slice none 0 0] 44)) (.cells #[.int .i64 0, .slice none 0 0, .int .i64 0, .slice none 0 0] 44)
    rw [World.size_alloc] at this
    rw [hw1]; exact this
  have HW := Lib.hid hw1; have HQ := Lib.hid hq; have KB := Lib.hid kb; have HN := Lib.hid hn
  clear R0 kk hw1 hq kb hn
  go_enter Tryz.func57, Tryz.ntmps57
  go_wp2
  go_loopw [4] (fun i wr => i = .int .i64 0 ∧ wr = w1) (fun _ _ => 0)
  case atStart => exact ⟨rfl, HW.out.symm⟩
  case round =>
    obtain ⟨rfl, rfl⟩ := hrel
    have z1 := cell_blk (i := 0) HN.out
    have z2 := cell_blk (i := 1) HN.out
    have z3 := cell_blk (i := 2) HN.out
    have z4 := cell_blk (i := 3) HN.out
    obtain ⟨_, _, _, _, _, _, _, _, y1, y2, y3, y4, y5, y6, y7, y8⟩ := HQ.out.cells
    obtain ⟨i1, i2, i3, i4⟩ := four_cells y1 y2 y3 y4 (.int .i64 0) (.slice none 0 0) (.int .i64 0) (.slice none 0 0)
    unfold st4r at i1 i2 i3 i4
    go_wp2
    exact bodyPost_ret (v := .agg #[.int .i64 0, .slice none 0 0, .int .i64 0, .slice none 0 0]) (by simp [results, Tryz.results57, go_sem, i1, i2, i3, i4]) rfl ⟨below4r KB.out (Nat.le_refl _) _ _ _ _, _, rfl, RA.zero _⟩
theorem minr_sa (v : Value) (n : Nat) (l : Nat → Rat) (w : World) (h : SA w v n l) (bd : ∀ i, i < n → Bd9 1 (l i)) (hn : n ≤ 30) : Calls Tryz.prog 57 #[v] w (PRA (bst (-1) l n) w) := by
  rcases h with ⟨rfl, rfl⟩ | ⟨b, cap, rfl, h⟩
  · exact minr_nil w
  · exact minr_any b n cap l w h bd hn
theorem maxr_nil (w : World) : Calls Tryz.prog 59 #[.slice none 0 0] w (PRA 0 w) := by
  have kk := bl2 w (.cells #[.int .i64 0, .slice none 0 0, .int .i64 0, .slice none 0 0] 44) (.cells #[.int .i64 0, .slice none 0 0, .int .i64 0, .slice none 0 0] 44)
  have R0 := (r4_new w rfl).keep (bl1 _ (.cells #[.int .i64 0, .slice none 0 0, .int .i64 0, .slice none 0 0] 44))
  obtain ⟨w1, hw1⟩ : ∃ w1, w1 = (w.alloc (.cells #[.int .i64 0, .slice none 0 0, .int .i64 0, .slice none 0 0] 44)).alloc (.cells #[.int .i64 0, .slice none 0 0, .int .i64 0, .slice none 0 0] 44) := ⟨_, rfl⟩
  have hq : R4 w.heap.size w1 := by rw [hw1]; exact R0
  have kb : Below w.heap.size w w1 := by rw [hw1]; exact kk
  have hn : w1.heap[w.heap.size + 1]? = some (.cells #[.int .i64 0, .slice none 0 0, .int .i64 0, .slice none 0 0] 44) := by
    have := Go.Deep.blk_alloc_new (w.alloc (.cells #[.int .i64 0, .slice none 0 0, .int .i64 0, .slice none 0 0] 44)) (.cells #[.int .i64 0, .slice none 0 0, .int .i64 0, .slice none 0 0] 44)
    rw [World.size_alloc] at this
    rw [hw1]; exact this
  have HW := Lib.hid hw1; have HQ := Lib.hid hq; have KB := Lib.hid kb; have HN := Lib.hid hn
  clear R0 kk hw1 hq kb hn
  go_enter Tryz.func59, Tryz.ntmps59
  go_wp2
  go_loopw [4] (fun i wr => i = .int .i64 0 ∧ wr = w1) (fun _ _ => 0)
  case atStart => exact ⟨rfl, HW.out.symm⟩
  case round =>
    obtain ⟨rfl, rfl⟩ := hrel
    have z1 := cell_blk (i := 0) HN.out
    have z2 := cell_blk (i := 1) HN.out
    have z3 := cell_blk (i := 2) HN.out
    have z4 := cell_blk (i := 3) HN.out
    obtain ⟨_, _, _, _, _, _, _, _, y1, y2, y3, y4, y5, y6, y7, y8⟩ := HQ.out.cells
    obtain ⟨i1, i2, i3, i4⟩ := four_cells y1 y2 y3 y4 (.int .i64 0) (.slice none 0 0) (.int .i64 0) (.slice none 0 0)
    unfold st4r at i1 i2 i3 i4
    go_wp2
    exact bodyPost_ret (v := .agg #[.int .i64 0, .slice none 0 0, .int .i64 0, .slice none 0 0]) (by simp [results, Tryz.results59, go_sem, i1, i2, i3, i4]) rfl ⟨below4r KB.out (Nat.le_refl _) _ _ _ _, _, rfl, RA.zero _⟩
theorem maxr_sa (v : Value) (n : Nat) (l : Nat → Rat) (w : World) (h : SA w v n l) (bd : ∀ i, i < n → Bd9 1 (l i)) (hn : n ≤ 30) : Calls Tryz.prog 59 #[v] w (PRA (bst 1 l n) w) := by
  rcases h with ⟨rfl, rfl⟩ | ⟨b, cap, rfl, h⟩
  · exact maxr_nil w
  · exact maxr_any b n cap l w h bd hn
end Go.Proofs.YtjjomjjgoceklaaGreat
