import Derived.Test.YtjjomjjgoceklaaRb
namespace Go.Proofs.Ytjjomjjgoceklaa
open Go.RowKit

/-- v is the reference's integer z -/
def RZ (w : World) (v : Value) (z : Int) : Prop :=
  ∃ (gs : List Nat) (sl : Value), v = .agg #[.int .i64 z.sign, sl] ∧ SlI w sl (gs.map fun (x : Nat) => (x : Int)) ∧ D4 gs ∧ Nrm gs ∧ rv gs = z.natAbs
theorem RZ.keep {w w' : World} {v : Value} {z : Int} {B : Nat} (h : RZ w v z) (hb : Below B w w') (hB : w.heap.size ≤ B) : RZ w' v z := by
  obtain ⟨gs, sl, h1, h2, h3⟩ := h
  exact ⟨gs, sl, h1, h2.keep hb hB, h3⟩
theorem RZ.store {w w' : World} {v : Value} {z : Int} {T : Nat} (h : RZ w v z) (hT : NoI w T) (hg : w.grownBy w' (some T)) : RZ w' v z := by
  obtain ⟨gs, sl, h1, h2, h3⟩ := h
  exact ⟨gs, sl, h1, h2.store hT hg, h3⟩
theorem RZ.agg {w : World} {v : Value} {z : Int} (h : RZ w v z) : ∃ p l c, v = .agg #[.int .i64 z.sign, .slice p l c] := by
  obtain ⟨gs, sl, rfl, h2, _⟩ := h
  obtain ⟨p, c, rfl, _⟩ := h2.opened _ (Nat.le_refl _)
  exact ⟨p, _, c, rfl⟩
theorem RG.toZ {w : World} {v : Value} {s z : Int} (h : RG w v s z.natAbs) (hs : z ≠ 0 → s = z.sign) : RZ w v z := by
  obtain ⟨gs, sl, rfl, h2⟩ := h
  refine ⟨gs, sl, ?_, h2⟩
  by_cases hz : z = 0
  · subst hz; rfl
  · rw [if_neg (by omega), hs hz]
def PRZ (z : Int) (w : World) (e : Ending) (w' : World) : Prop := Below w.heap.size w w' ∧ ∃ v, e = .returned v ∧ RZ w' v z
theorem iv_cast (l : List Nat) : iv (l.map fun (x : Nat) => (x : Int)) = (rv l : Int) := by
  induction l with
  | nil => rfl
  | cons x r ih => simp only [List.map_cons, iv, rv, ih]; omega
theorem cast_bd {l : List Nat} (h : D4 l) (i : Nat) : -100000000000000 ≤ (l.map fun (x : Nat) => (x : Int)).getD i 0 ∧ (l.map fun (x : Nat) => (x : Int)).getD i 0 ≤ 100000000000000 := by
  rw [List.getD_eq_getElem?_getD, List.getElem?_map]
  cases e : l[i]? with
  | none => simp
  | some x =>
    have := h x (List.mem_of_getElem? e)
    simp
    omega
/-- how far a number of 64 bits is divided -/
def Zb5 (k : Nat) (m : Int) : Prop := (k = 0 ∧ -9223372036854775808 ≤ m ∧ m ≤ 9223372036854775807) ∨ (k = 1 ∧ -922337203685477 ≤ m ∧ m ≤ 922337203685477) ∨ (k = 2 ∧ -92233720368 ≤ m ∧ m ≤ 92233720368) ∨ (k = 3 ∧ -9223372 ≤ m ∧ m ≤ 9223372) ∨ (k = 4 ∧ -922 ≤ m ∧ m ≤ 922) ∨ (k = 5 ∧ m = 0)
theorem neg_td (q r : Nat) (hr : r < 10000) : (-((10000 * q + r : Nat) : Int)).tdiv 10000 = -(q : Int) ∧ (-((10000 * q + r : Nat) : Int)).tmod 10000 = -(r : Int) := by
  have e : (-((10000 * q + r : Nat) : Int)).tdiv 10000 = -(q : Int) := by
    rw [Int.neg_tdiv, Int.tdiv_eq_ediv_of_nonneg (by omega)]
    omega
  exact ⟨e, by rw [Int.tmod_def, e]; omega⟩
theorem zint_step {n0 : Nat} {out : List Nat} {k q r m : Nat} (hk : out.length = k) (H : n0 = rv out + 10000 ^ k * m) (E : m = 10000 * q + r) : n0 = rv (out ++ [r]) + 10000 ^ (k + 1) * q := by
  rw [H, rv_snoc, hk, E, Nat.pow_succ, Nat.mul_add, Nat.mul_assoc]
  omega
set_option maxRecDepth 100000 in
set_option maxHeartbeats 1600000 in
theorem zint_any (n : Int) (w : World) (hn : -9223372036854775808 ≤ n ∧ n ≤ 9223372036854775807) : Calls Try.prog 13 #[.int .i64 n] w (PRZ n w) := by
  obtain ⟨i0, hi, hz0, hz1, hz2⟩ := info_parts Try.info3
  have HN := Lib.hid hn
  obtain ⟨hn1, hn2⟩ := hn
  by_cases hneg : n < 0
  all_goals
    go_enter Try.func13, Try.ntmps13
    go_wp2
    go_loopw [0, 4] (fun nv o wr => ∃ (m : Int) (k : Nat) (out : List Nat), nv = .int .i64 m ∧ Hid (Zb5 k m) ∧ Hid (out.length = k) ∧ D4 out ∧ wr.ownsRow (w.heap.size + 1) 3 1 o k (dv out) ∧ Below (w.heap.size + 1) (w.alloc (.cells #[.int .i64 0, .slice none 0 0] 32)) wr ∧ Hid (n.natAbs = rv out + 10000 ^ k * m.natAbs) ∧ Hid (n < 0 → m ≤ 0) ∧ Hid (¬ n < 0 → 0 ≤ m))
      (fun nv _ _ => (intOf nv).natAbs)
    case atStart => exact ⟨n, 0, [], rfl, .inl ⟨rfl, HN.out.1, HN.out.2⟩, rfl, D4.nil, World.ownsRow_nil _ _ _ _, Below.refl _ _, by show _ = _; simp [rv], fun h => by omega, fun h => by omega⟩
    case round =>
      obtain ⟨m, k, out, rfl, HB, HL, hd, hown, hbel, HV, HS1, HS2⟩ := hrel
      have hbsz := hbel.size
      simp only [World.size_alloc] at hbsz
      by_cases hm0 : m = 0
      · subst hm0
        have hk5 : k ≤ 5 := by have := HB.out; unfold Zb5 at this; omega
        have hrv : rv out = n.natAbs := by have := HV.out; simpa using this.symm
        have hsl := SlI.of_own hown (by have := HL.out; omega)
        have r0 : wr.cell? ⟨w.heap.size, 0, none⟩ = some (.int .i64 0) := by rw [hbel.cell (p := ⟨w.heap.size, 0, none⟩) (Nat.lt_succ_self _)]; simp [go_sem]
        have r1 : wr.cell? ⟨w.heap.size, 1, none⟩ = some (.slice none 0 0) := by rw [hbel.cell (p := ⟨w.heap.size, 1, none⟩) (Nat.lt_succ_self _)]; simp [go_sem]
        have f0 : wr.frozen? ⟨w.heap.size, 0, none⟩ = false := by rw [hbel.frozen (p := ⟨w.heap.size, 0, none⟩) (Nat.lt_succ_self _)]; simp [go_sem]
        have f1 : wr.frozen? ⟨w.heap.size, 1, none⟩ = false := by rw [hbel.frozen (p := ⟨w.heap.size, 1, none⟩) (Nat.lt_succ_self _)]; simp [go_sem]
        have nI : NoI wr w.heap.size := ⟨_, 32, _, (hbel.block w.heap.size (Nat.lt_succ_self _)).trans (Go.Deep.blk_alloc_new _ _), by decide⟩
        have HRV := Lib.hid hrv
        have HSL := Lib.hid hsl
        have hb0 := (bl1 w (.cells #[.int .i64 0, .slice none 0 0] 32)).trans (hbel.mono (Nat.le_succ _))
        clear hrv hsl hown HV HB
        go_wp2_with fail
        refine (made_any _ _ _ _ HSL.out (cast_bd hd) (by rw [iv_cast]; omega) (by have := HL.out; simp; omega)).mono ?_
        rintro e w2 ⟨hb2, v2, rfl, h2⟩
        rw [iv_cast, HRV.out] at h2
        have hZ := Lib.hid (h2.toZ (z := n) (fun h => by first | exact (Int.sign_eq_neg_one_of_neg hneg).symm | exact (Int.sign_eq_one_of_pos (by omega)).symm))
        clear h2
        have r0' := (hb2.cell (p := ⟨w.heap.size, 0, none⟩) (show w.heap.size < wr.heap.size by omega)).trans r0
        have r1' := (hb2.cell (p := ⟨w.heap.size, 1, none⟩) (show w.heap.size < wr.heap.size by omega)).trans r1
        have f0' := (hb2.frozen (p := ⟨w.heap.size, 0, none⟩) (show w.heap.size < wr.heap.size by omega)).trans f0
        have f1' := (hb2.frozen (p := ⟨w.heap.size, 1, none⟩) (show w.heap.size < wr.heap.size by omega)).trans f1
        have nI2 : NoI w2 w.heap.size := by
          obtain ⟨c, t, f, h1, h2⟩ := nI
          exact ⟨c, t, f, (hb2.block _ (show w.heap.size < wr.heap.size by omega)).trans h1, h2⟩
        have hb3 := hb0.trans (hb2.mono (show w.heap.size ≤ wr.heap.size by omega))
        obtain ⟨pz, lz, cz, rfl⟩ := hZ.out.agg
        obtain ⟨g1, g2⟩ := two_cells r0' r1' (.int .i64 n.sign) (.slice pz lz cz)
        have HF := Lib.hid (hZ.out.store nI2 (grown2 w2 w.heap.size 0 1 (.int .i64 n.sign) (.slice pz lz cz)))
        clear r0 r1 f0 f1 nI hb2 hb0
        go_wp2
        exact bodyPost_ret (v := .agg #[.int .i64 n.sign, .slice pz lz cz]) (by simp [results, Try.results13, go_sem, g1, g2]) rfl ⟨(hb3.setCell (Nat.le_refl _) _).setCell (Nat.le_refl _) _, _, rfl, HF.out⟩
      · have hk4 : k ≤ 4 := by have := HB.out; unfold Zb5 at this; omega
        obtain ⟨hm1, hm2⟩ : -9223372036854775808 ≤ m ∧ m ≤ 9223372036854775807 := by have := HB.out; unfold Zb5 at this; omega
        obtain ⟨q, r, hqr, hr1⟩ : ∃ q r : Nat, m.natAbs = 10000 * q + r ∧ r < 10000 := ⟨m.natAbs / 10000, m.natAbs % 10000, by omega, by omega⟩
        have ST := Lib.hid (zint_step HL.out HV.out hqr)
        have hne : (m != 0) = true := by simpa using hm0
        have hlt : q < m.natAbs := by omega
        have hown0 := hown.alloc (.cells #[.int .i64 (r : Int)] 3)
        by_cases hmp : 0 < m
        · have e1 : m / 10000 = (q : Int) := by omega
          have e2 : m % 10000 = (r : Int) := by omega
          have CN : Hid (Zb5 (k + 1) (q : Int)) := by have := HB.out; unfold Zb5 at this ⊢; show _ ∨ _; omega
          have hq9 : (q : Int) ≤ 922337203685477 := by omega
          have hmn : 0 ≤ m := by omega
          have HM0 := Lib.hid hm0
          clear hm0 hqr
          go_wp2_with (at_builtin; refine wpList_append_own _ rfl _ _ 30 rfl (w.heap.size + 1) 3 i0 (.int .i64 0) 1 8 Try.underlying30 hi hz0 hz1 hz2 rfl (by decide) _ _ _ rfl hown0 ⟨wr.heap.size, 0, none⟩ 1 1 [.int .i64 (r : Int)] rfl rfl (cell_one_new _ _ _) (by simp [Value.oneCell']) (by unfold maxLen; omega) (by omega) (by simp; omega) ?_; intro v' w1 hown' hgrow _)
          have hown2 := hown'
          rw [← dv_snoc] at hown2
          have HO := Lib.hid hown2
          have HBL := Lib.hid ((hbel.alloc (show w.heap.size + 1 ≤ wr.heap.size by omega) (.cells #[.int .i64 (r : Int)] 3)).grown hgrow (by simp; omega) (fun j e => (hown0.lt j e).1))
          go_roundw
          case rel => exact ⟨(q : Int), k + 1, out ++ [r], by first | rfl | rw [e1], CN.out, by show _ = _; simp [HL.out], hd.snoc hr1, HO.out, HBL.out, by show _ = _; simpa using ST.out, fun h => by have := HS1.out h; omega, fun h => by have := HS2.out h; omega⟩
          case measure => simp [intOf]; omega
        · obtain ⟨t1, t2⟩ := neg_td q r hr1
          rw [show (-((10000 * q + r : Nat) : Int)) = m by omega] at t1 t2
          have CN : Hid (Zb5 (k + 1) (-(q : Int))) := by have := HB.out; unfold Zb5 at this ⊢; show _ ∨ _; omega
          have hq9 : (q : Int) ≤ 922337203685477 := by omega
          have hmn : m < 0 := by omega
          have HM0 := Lib.hid hm0
          by_cases hr0 : r = 0
          · have e2 : m.tmod 10000 = (r : Int) := by rw [t2, hr0]; rfl
            clear hm0 hqr hr0 t2
            go_wp2_with (at_builtin; refine wpList_append_own _ rfl _ _ 30 rfl (w.heap.size + 1) 3 i0 (.int .i64 0) 1 8 Try.underlying30 hi hz0 hz1 hz2 rfl (by decide) _ _ _ rfl hown0 ⟨wr.heap.size, 0, none⟩ 1 1 [.int .i64 (r : Int)] rfl rfl (cell_one_new _ _ _) (by simp [Value.oneCell']) (by unfold maxLen; omega) (by omega) (by simp; omega) ?_; intro v' w1 hown' hgrow _)
            have hown2 := hown'
            rw [← dv_snoc] at hown2
            have HO := Lib.hid hown2
            have HBL := Lib.hid ((hbel.alloc (show w.heap.size + 1 ≤ wr.heap.size by omega) (.cells #[.int .i64 (r : Int)] 3)).grown hgrow (by simp; omega) (fun j e => (hown0.lt j e).1))
            go_roundw
            case rel => exact ⟨-(q : Int), k + 1, out ++ [r], rfl, CN.out, by show _ = _; simp [HL.out], hd.snoc hr1, HO.out, HBL.out, by show _ = _; simpa using ST.out, fun h => by have := HS1.out h; omega, fun h => by have := HS2.out h; omega⟩
            case measure => simp [intOf]; omega
          · have hr2 : (0 : Int) < (r : Int) := by omega
            have hr3 : (r : Int) < 10000 := by omega
            clear hm0 hqr hr0
            go_wp2_with (at_builtin; refine wpList_append_own _ rfl _ _ 30 rfl (w.heap.size + 1) 3 i0 (.int .i64 0) 1 8 Try.underlying30 hi hz0 hz1 hz2 rfl (by decide) _ _ _ rfl hown0 ⟨wr.heap.size, 0, none⟩ 1 1 [.int .i64 (r : Int)] rfl rfl (cell_one_new _ _ _) (by simp [Value.oneCell']) (by unfold maxLen; omega) (by omega) (by simp; omega) ?_; intro v' w1 hown' hgrow _)
            have hown2 := hown'
            rw [← dv_snoc] at hown2
            have HO := Lib.hid hown2
            have HBL := Lib.hid ((hbel.alloc (show w.heap.size + 1 ≤ wr.heap.size by omega) (.cells #[.int .i64 (r : Int)] 3)).grown hgrow (by simp; omega) (fun j e => (hown0.lt j e).1))
            go_roundw
            case rel => exact ⟨-(q : Int), k + 1, out ++ [r], rfl, CN.out, by show _ = _; simp [HL.out], hd.snoc hr1, HO.out, HBL.out, by show _ = _; simpa using ST.out, fun h => by have := HS1.out h; omega, fun h => by have := HS2.out h; omega⟩
            case measure => simp [intOf]; omega
end Go.Proofs.Ytjjomjjgoceklaa
