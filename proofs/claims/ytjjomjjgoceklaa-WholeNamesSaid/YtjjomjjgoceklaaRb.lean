import Derived.Test.YtjjomjjgoceklaaRa
import Derived.Test.YtjjomjjgoceklaaG
import Derived.Outline
import Derived.Maps.AppendAt
namespace Go.Proofs.Ytjjomjjgoceklaa
open Go.RowKit

theorem Try.info3 : (Try.prog.info? 3).map (fun i => (i.zero, i.size, i.bytes)) = some (some (.int .i64 0), 1, 8) := by kernel_rfl

/-- v is a slice of integers that reads xs -/
def SlI (w : World) (v : Value) (xs : List Int) : Prop :=
  xs.length ≤ 4096 ∧ ((v = .slice none 0 0 ∧ xs = []) ∨ ∃ b o cap : Nat, v = .slice (some ⟨b, o, none⟩) xs.length cap ∧ xs.length ≤ cap ∧ cap ≤ maxLen ∧ (∃ cur, w.heap[b]? = some (.cells cur 3 (0, 0))) ∧
    ∀ i, i < xs.length → w.cell? ⟨b, o + i, none⟩ = some (.int .i64 (xs.getD i 0)))
theorem SlI.keep {w w' : World} {v : Value} {xs : List Int} {B : Nat} (h : SlI w v xs) (hb : Below B w w') (hB : w.heap.size ≤ B) : SlI w' v xs := by
  obtain ⟨h2, h | ⟨b, o, cap, hv, hc, hm, ⟨cur, hlt⟩, hcell⟩⟩ := h
  · exact ⟨h2, .inl h⟩
  · have hl : b < w.heap.size := (Array.getElem?_eq_some_iff.1 hlt).1
    exact ⟨h2, .inr ⟨b, o, cap, hv, hc, hm, ⟨cur, (hb.block b (Nat.lt_of_lt_of_le hl hB)).trans hlt⟩, fun i hi => (hb.cell (p := ⟨b, o + i, none⟩) (Nat.lt_of_lt_of_le hl hB)).trans (hcell i hi)⟩⟩
/-- block T is no row of integers -/
def NoI (w : World) (T : Nat) : Prop := ∃ c t f, w.heap[T]? = some (.cells c t f) ∧ t ≠ 3
/-- a slice of integers stays while such a block is written -/
theorem SlI.store {w w' : World} {v : Value} {xs : List Int} {T : Nat} (h : SlI w v xs) (hT : NoI w T) (hg : w.grownBy w' (some T)) : SlI w' v xs := by
  obtain ⟨h2, h | ⟨b, o, cap, hv, hc, hm, ⟨cur, hlt⟩, hcell⟩⟩ := h
  · exact ⟨h2, .inl h⟩
  · have hl : b < w.heap.size := (Array.getElem?_eq_some_iff.1 hlt).1
    have hne : some b ≠ some T := by
      intro e
      cases e
      obtain ⟨c, t, f, h1, h2⟩ := hT
      rw [hlt] at h1
      cases h1
      exact h2 rfl
    have hk := hg.block b hl hne
    exact ⟨h2, .inr ⟨b, o, cap, hv, hc, hm, ⟨cur, hk.trans hlt⟩, fun i hi => (World.cell?_of_block (a := ⟨b, o + i, none⟩) hk).trans (hcell i hi)⟩⟩
/-- where a slice of integers lies: its cells below B -/
def RdI (w : World) (B : Nat) (p : Option Addr) (xs : List Int) : Prop :=
  ∀ i, i < xs.length → ∃ b o : Nat, p = some ⟨b, o, none⟩ ∧ b < B ∧ b < w.heap.size ∧ w.cell? ⟨b, o + i, none⟩ = some (.int .i64 (xs.getD i 0))
theorem SlI.opened {w : World} {v : Value} {xs : List Int} (h : SlI w v xs) (B : Nat) (hB : w.heap.size ≤ B) : ∃ (p : Option Addr) (cap : Nat), v = .slice p xs.length cap ∧ xs.length ≤ cap ∧ cap ≤ maxLen ∧ RdI w B p xs := by
  obtain ⟨h2, ⟨rfl, rfl⟩ | ⟨b, o, cap, rfl, hc, hm, ⟨cur, hlt⟩, hcell⟩⟩ := h
  · exact ⟨none, 0, rfl, Nat.le_refl _, Nat.zero_le _, fun i hi => by simp at hi⟩
  · have hl : b < w.heap.size := (Array.getElem?_eq_some_iff.1 hlt).1
    exact ⟨_, cap, rfl, hc, hm, fun i hi => ⟨b, o, rfl, Nat.lt_of_lt_of_le hl hB, hl, hcell i hi⟩⟩
/-- digits to the base 10000 as values -/
def dv (l : List Nat) : List Value := l.map fun (x : Nat) => Value.int .i64 (x : Int)
/-- a number of the reference: sign s (0 at 0), absolute value n -/
def RG (w : World) (v : Value) (s : Int) (n : Nat) : Prop :=
  ∃ (gs : List Nat) (sl : Value), v = .agg #[.int .i64 (if n = 0 then 0 else s), sl] ∧ SlI w sl (gs.map fun (x : Nat) => (x : Int)) ∧ D4 gs ∧ Nrm gs ∧ rv gs = n
theorem RG.keep {w w' : World} {v : Value} {s : Int} {n B : Nat} (h : RG w v s n) (hb : Below B w w') (hB : w.heap.size ≤ B) : RG w' v s n := by
  obtain ⟨gs, sl, h1, h2, h3⟩ := h
  exact ⟨gs, sl, h1, h2.keep hb hB, h3⟩
theorem RG.store {w w' : World} {v : Value} {s : Int} {n T : Nat} (h : RG w v s n) (hT : NoI w T) (hg : w.grownBy w' (some T)) : RG w' v s n := by
  obtain ⟨gs, sl, h1, h2, h3⟩ := h
  exact ⟨gs, sl, h1, h2.store hT hg, h3⟩
def PRG (s : Int) (n : Nat) (w : World) (e : Ending) (w' : World) : Prop := Below w.heap.size w w' ∧ ∃ v, e = .returned v ∧ RG w' v s n
/-- the carry behind k groups of len -/
def Cb (len k : Nat) (c : Int) : Prop := (k ≤ len ∧ -100000000000 ≤ c ∧ c ≤ 100000000000) ∨ (k = len + 1 ∧ 0 ≤ c ∧ c ≤ 10000000) ∨ (k = len + 2 ∧ 0 ≤ c ∧ c ≤ 1000) ∨ (k = len + 3 ∧ c = 0)
theorem SlI.of_own {w : World} {base cnt : Nat} {v : Value} {l : List Nat} (h : w.ownsRow base 3 1 v cnt (dv l)) (hl : l.length ≤ 4096) : SlI w v (l.map fun (x : Nat) => (x : Int)) := by
  have hn : l.length = cnt := by have := h.1; simpa [dv] using this
  subst hn
  obtain ⟨_, ⟨rfl, h0⟩ | ⟨g, cap, cur, rfl, _, hg, hc, hm, hs, ht⟩⟩ := h
  · have : l = [] := List.length_eq_zero_iff.1 h0
    subst this
    exact ⟨by simp, .inl ⟨rfl, rfl⟩⟩
  · refine ⟨by simpa using hl, .inr ⟨g, 0, cap, by simp, by simpa using hc, hm, ⟨cur, hg⟩, fun i hi => ?_⟩⟩
    have hi' : i < l.length := by simpa using hi
    have h1 : cur.toList[i]? = some (.int .i64 ((l.map fun (x : Nat) => (x : Int)).getD i 0)) := by
      have h2 : (cur.toList.take (l.length * 1))[i]? = (dv l)[i]? := by rw [ht]
      rw [List.getElem?_take_of_lt (by omega)] at h2
      rw [h2]
      simp [dv, hi', List.getD_eq_getElem?_getD]
    unfold World.cell?
    dsimp only
    rw [hg, Nat.zero_add]
    simpa using h1
theorem own_trim {w : World} {base cnt : Nat} {v : Value} {l : List Nat} {x : Nat} (h : w.ownsRow base 3 1 v cnt (dv (l ++ [x]))) : ∃ g cap : Nat, v = .slice (some ⟨g, 0, none⟩) (l.length + 1) cap ∧ base ≤ g ∧
    w.cell? ⟨g, l.length, none⟩ = some (.int .i64 (x : Int)) ∧ w.ownsRow base 3 1 (.slice (some ⟨g, 0, none⟩) l.length cap) l.length (dv l) ∧ l.length + 1 ≤ cap := by
  have hn : l.length + 1 = cnt := by have := h.1; simpa [dv] using this
  subst hn
  obtain ⟨_, ⟨rfl, h0⟩ | ⟨g, cap, cur, rfl, hb, hg, hc, hm, hs, ht⟩⟩ := h
  · omega
  · refine ⟨g, cap, rfl, hb, ?_, ⟨by simp [dv], .inr ⟨g, cap, cur, rfl, hb, hg, by omega, hm, hs, ?_⟩⟩, hc⟩
    · have h1 : cur.toList[l.length]? = some (.int .i64 (x : Int)) := by
        have h2 : (cur.toList.take ((l.length + 1) * 1))[l.length]? = (dv (l ++ [x]))[l.length]? := by rw [ht]
        rw [List.getElem?_take_of_lt (by omega)] at h2
        rw [h2]
        simp [dv]
      unfold World.cell?
      dsimp only
      rw [hg]
      simpa using h1
    · have h2 : (cur.toList.take ((l.length + 1) * 1)).take l.length = (dv (l ++ [x])).take l.length := by rw [ht]
      rw [List.take_take] at h2
      rw [show l.length * 1 = min l.length ((l.length + 1) * 1) by omega, h2]
      simp [dv]

theorem dv_snoc (l : List Nat) (x : Nat) : dv (l ++ [x]) = dv l ++ [.int .i64 (x : Int)] := by simp [dv]
theorem td_neg0 (q : Int) (_h : 10000 * q < 0) : (10000 * q).tdiv 10000 = q ∧ (10000 * q).tmod 10000 = 0 := by
  have e : (10000 * q).tdiv 10000 = q := by rw [Int.tdiv_eq_ediv, if_pos (.inr ⟨q, rfl⟩)]; omega
  exact ⟨e, by rw [Int.tmod_def, e]; omega⟩
theorem td_neg (q : Int) (r : Nat) (h : 10000 * q + r < 0) (hr : 0 < r) (hr1 : r < 10000) : (10000 * q + r).tdiv 10000 = q + 1 ∧ (10000 * q + r).tmod 10000 = r - 10000 := by
  have e : (10000 * q + r).tdiv 10000 = q + 1 := by
    rw [Int.tdiv_eq_ediv, if_neg (by rintro (h1 | ⟨c, h1⟩) <;> omega)]
    show _ + (1 : Int) = _
    omega
  exact ⟨e, by rw [Int.tmod_def, e]; omega⟩
/-- the carry: one group more -/
theorem Cb.step {len k : Nat} {c g q : Int} {r : Nat} (h : Cb len k c) (hk : k < len) (hq : c + g = 10000 * q + r) (hg1 : -100000000000000 ≤ g) (hg2 : g ≤ 100000000000000) (hr : r < 10000) : Cb len (k + 1) q := by
  unfold Cb at *; omega
theorem Cb.past {len k : Nat} {c q : Int} {r : Nat} (h : Cb len k c) (hk : len ≤ k) (h0 : 0 ≤ c) (hne : c ≠ 0) (hq : c = 10000 * q + r) (hr : r < 10000) : Cb len (k + 1) q ∧ 0 ≤ q ∧ q < c := by
  unfold Cb at *; omega
theorem rg_zero (w : World) (s : Int) {n : Nat} (h : n = 0) : RG w (.agg #[.int .i64 0, .slice none 0 0]) s n :=
  ⟨[], _, by rw [if_pos h], ⟨by simp, .inl ⟨rfl, rfl⟩⟩, D4.nil, by simp [Nrm], h.symm⟩
theorem rg_mk {w : World} {base k : Nat} {sl : Value} {l : List Nat} {s : Int} {n : Nat} (h : w.ownsRow base 3 1 sl k (dv l)) (hl : l.length ≤ 4096) (hd : D4 l) (hn : Nrm l) (hne : l ≠ []) (hv : rv l = n) : RG w (.agg #[.int .i64 s, sl]) s n := by
  have h0 : n ≠ 0 := by intro e; rw [e] at hv; exact hne ((rv_zero hn).1 hv)
  exact ⟨l, sl, by rw [if_neg h0], SlI.of_own h hl, hd, hn, hv⟩
set_option maxRecDepth 100000 in
set_option maxHeartbeats 1600000 in
theorem made_any (s : Int) (vg : Value) (xs : List Int) (w : World) (h : SlI w vg xs) (hx : ∀ i, -100000000000000 ≤ xs.getD i 0 ∧ xs.getD i 0 ≤ 100000000000000) (h0 : 0 ≤ iv xs) (hl : xs.length ≤ 2000) :
    Calls Try.prog 50 #[.int .i64 s, vg] w (PRG s (iv xs).toNat w) := by
  obtain ⟨p, cg, rfl, hcg, hmg, hrd⟩ := h.opened w.heap.size (Nat.le_refl _)
  have HR := Lib.hid hrd
  have HX := Lib.hid hx
  have H0 := Lib.hid h0
  clear hrd hx h0 h
  obtain ⟨i0, hi, hz0, hz1, hz2⟩ := info_parts Try.info3
  go_enter Try.func50, Try.ntmps50
  go_wp2
  go_loopw [5, 6, 7] (fun o c i wr => ∃ (k : Nat) (cc : Int) (out : List Nat), i = .int .i64 k ∧ c = .int .i64 cc ∧ Hid (Cb xs.length k cc) ∧ Hid (out.length = k) ∧ D4 out ∧ wr.ownsRow (w.heap.size + 1) 3 1 o k (dv out) ∧ Below (w.heap.size + 1) (w.alloc (.cells #[.int .i64 0, .slice none 0 0] 32)) wr ∧ Hid ((rv out : Int) + 10000 ^ k * cc = iv (xs.take k)))
    (fun _ c i _ => (xs.length - (intOf i).toNat) * 1000000000000 + (intOf c).natAbs)
  case atStart => exact ⟨0, 0, [], rfl, rfl, .inl ⟨Nat.zero_le _, by omega, by omega⟩, rfl, D4.nil, World.ownsRow_nil _ _ _ _, Below.refl _ _, by show _ = _; simp [rv, iv]⟩
  case round =>
    obtain ⟨k, cc, out, rfl, rfl, HB, HL, hd, hown, hbel, HV⟩ := hrel
    by_cases hlt : k < xs.length
    · obtain ⟨b, o, rfl, hbB, hbw, hcell⟩ := HR.out k hlt
      have c1 : wr.cell? ⟨b, o + k, none⟩ = some (.int .i64 (xs.getD k 0)) := (hbel.cell (p := ⟨b, o + k, none⟩) (show b < w.heap.size + 1 by omega)).trans ((World.cell?_alloc_old _ _ _ (Nat.ne_of_lt hbw)).trans hcell)
      have hgx := HX.out k
      have HG : Hid (∃ g, g = xs.getD k 0) := ⟨_, rfl⟩
      obtain ⟨hc1, hc2⟩ : -100000000000 ≤ cc ∧ cc ≤ 100000000000 := by have := HB.out; unfold Cb at this; omega
      obtain ⟨hg1, hg2⟩ := hgx
      generalize hgd : xs.getD k 0 = g at *
      have HGD := Lib.hid hgd
      clear hcell hgd HG
      obtain ⟨x, hxe⟩ : ∃ x, cc + g = x := ⟨_, rfl⟩
      have hx1 : -200000000000000 ≤ x := by omega
      have hx2 : x ≤ 200000000000000 := by omega
      obtain ⟨q, r, hqr, hr1⟩ : ∃ (q : Int) (r : Nat), x = 10000 * q + r ∧ r < 10000 := ⟨x / 10000, (x % 10000).toNat, by omega, by omega⟩
      have HQ := Lib.hid hqr
      have hq1 : -100000000000 ≤ q := by omega
      have hq2 : q ≤ 100000000000 := by omega
      have hbsz := hbel.size
      simp only [World.size_alloc] at hbsz
      have hown0 := hown.alloc (.cells #[.int .i64 (r : Int)] 3)
      have CN := Lib.hid (HB.out.step (q := q) (r := r) hlt (by omega) hg1 hg2 hr1)
      have ST := Lib.hid (made_step (r := r) (c' := q) HL.out HV.out (by rw [HGD.out]; omega))
      by_cases hx0 : 0 ≤ x
      · have e1 : x / 10000 = q := by omega
        have e2 : x % 10000 = r := by omega
        clear hqr
        go_wp2_with (at_builtin; refine wpList_append_own _ rfl _ _ 30 rfl (w.heap.size + 1) 3 i0 (.int .i64 0) 1 8 Try.underlying30 hi hz0 hz1 hz2 rfl (by decide) _ _ _ rfl hown0 ⟨wr.heap.size, 0, none⟩ 1 1 [.int .i64 (r : Int)] rfl rfl (cell_one_new _ _ _) (by simp [Value.oneCell']) (by unfold maxLen; omega) (by omega) (by simp; omega) ?_; intro v' w1 hown' hgrow _)
        have hown2 := hown'
        rw [← dv_snoc] at hown2
        have HO := Lib.hid hown2
        have HBL := Lib.hid ((hbel.alloc (show w.heap.size + 1 ≤ wr.heap.size by omega) (.cells #[.int .i64 (r : Int)] 3)).grown hgrow (by simp; omega) (fun j e => (hown0.lt j e).1))
        go_roundw
        case rel => exact ⟨k + 1, q, out ++ [r], by go_num, rfl, CN.out, by show _ = _; simp [HL.out], hd.snoc hr1, HO.out, HBL.out, ST.out⟩
        case measure => simp [intOf]; omega
      · have hx0' : x < 0 := by omega
        by_cases hr0 : r = 0
        · obtain ⟨e1, e2⟩ := td_neg0 q (by omega)
          rw [show 10000 * q = x by omega] at e1 e2
          have e3 : x.tmod 10000 = (r : Int) := by rw [e2, hr0]; rfl
          clear e2 hr0 hqr
          go_wp2_with (at_builtin; refine wpList_append_own _ rfl _ _ 30 rfl (w.heap.size + 1) 3 i0 (.int .i64 0) 1 8 Try.underlying30 hi hz0 hz1 hz2 rfl (by decide) _ _ _ rfl hown0 ⟨wr.heap.size, 0, none⟩ 1 1 [.int .i64 (r : Int)] rfl rfl (cell_one_new _ _ _) (by simp [Value.oneCell']) (by unfold maxLen; omega) (by omega) (by simp; omega) ?_; intro v' w1 hown' hgrow _)
          have hown2 := hown'
          rw [← dv_snoc] at hown2
          have HO := Lib.hid hown2
          have HBL := Lib.hid ((hbel.alloc (show w.heap.size + 1 ≤ wr.heap.size by omega) (.cells #[.int .i64 (r : Int)] 3)).grown hgrow (by simp; omega) (fun j e => (hown0.lt j e).1))
          go_roundw
          case rel => exact ⟨k + 1, q, out ++ [r], by go_num, rfl, CN.out, by show _ = _; simp [HL.out], hd.snoc hr1, HO.out, HBL.out, ST.out⟩
          case measure => simp [intOf]; omega
        · obtain ⟨e1, e2⟩ := td_neg q r (by omega) (by omega) hr1
          rw [← hqr] at e1 e2
          have hr2 : (0 : Int) ≤ (r : Int) := by omega
          have hr3 : (r : Int) < 10000 := by omega
          have HR0 := Lib.hid hr0
          clear hqr hr0
          go_wp2_with (at_builtin; refine wpList_append_own _ rfl _ _ 30 rfl (w.heap.size + 1) 3 i0 (.int .i64 0) 1 8 Try.underlying30 hi hz0 hz1 hz2 rfl (by decide) _ _ _ rfl hown0 ⟨wr.heap.size, 0, none⟩ 1 1 [.int .i64 (r : Int)] rfl rfl (cell_one_new _ _ _) (by simp [Value.oneCell']) (by unfold maxLen; omega) (by omega) (by simp; omega) ?_; intro v' w1 hown' hgrow _)
          have hown2 := hown'
          rw [← dv_snoc] at hown2
          have HO := Lib.hid hown2
          have HBL := Lib.hid ((hbel.alloc (show w.heap.size + 1 ≤ wr.heap.size by omega) (.cells #[.int .i64 (r : Int)] 3)).grown hgrow (by simp; omega) (fun j e => (hown0.lt j e).1))
          go_roundw
          case rel => exact ⟨k + 1, q, out ++ [r], by go_num, rfl, CN.out, by show _ = _; simp [HL.out], hd.snoc hr1, HO.out, HBL.out, ST.out⟩
          case measure => simp [intOf]; omega
    · have hge : xs.length ≤ k := by omega
      have hc0 := made_pos HL.out hd HV.out hge H0.out
      obtain ⟨hc2, hk3⟩ : cc ≤ 100000000000 ∧ k ≤ xs.length + 3 := by have := HB.out; unfold Cb at this; omega
      have hbsz := hbel.size
      simp only [World.size_alloc] at hbsz
      by_cases hz : cc = 0
      · subst hz
        have HE : Hid ((rv out : Int) = iv xs) := by
          have := HV.out
          rw [iv_take_ge _ _ hge] at this
          show _ = _
          simpa using this
        have r0 : wr.cell? ⟨w.heap.size, 0, none⟩ = some (.int .i64 0) := by rw [hbel.cell (p := ⟨w.heap.size, 0, none⟩) (Nat.lt_succ_self _)]; simp [go_sem]
        have r1 : wr.cell? ⟨w.heap.size, 1, none⟩ = some (.slice none 0 0) := by rw [hbel.cell (p := ⟨w.heap.size, 1, none⟩) (Nat.lt_succ_self _)]; simp [go_sem]
        have f0 : wr.frozen? ⟨w.heap.size, 0, none⟩ = false := by rw [hbel.frozen (p := ⟨w.heap.size, 0, none⟩) (Nat.lt_succ_self _)]; simp [go_sem]
        have f1 : wr.frozen? ⟨w.heap.size, 1, none⟩ = false := by rw [hbel.frozen (p := ⟨w.heap.size, 1, none⟩) (Nat.lt_succ_self _)]; simp [go_sem]
        have HB2 := Lib.hid ((bl1 w (.cells #[.int .i64 0, .slice none 0 0] 32)).trans (hbel.mono (Nat.le_succ _)))
        clear HB HV
        go_wp2
        go_loopw [5] (fun o wr' => wr' = wr ∧ ∃ (k2 : Nat) (l : List Nat), wr.ownsRow (w.heap.size + 1) 3 1 o k2 (dv l) ∧ D4 l ∧ k2 ≤ 2003 ∧ Hid (norm l = norm out)) (fun o _ => lenOf o)
        case atStart => exact ⟨rfl, k, out, hown, hd, by omega, rfl⟩
        case round =>
          obtain ⟨rfl, k2, l, hown2, hd2, hk2, HN⟩ := hrel
          rcases List.eq_nil_or_concat l with rfl | ⟨l', x, hl'⟩
          · have hv : (iv xs).toNat = 0 := by
              have h1 : norm out = [] := HN.out.symm
              have h2 := rv_norm out
              rw [h1] at h2
              have h3 := HE.out
              simp only [rv] at h2
              omega
            have HV0 := Lib.hid hv
            clear hv
            obtain ⟨g1, g2⟩ := two_cells r0 r1 (.int .i64 0) (.slice none 0 0)
            obtain ⟨h1, ⟨rfl, rfl⟩ | ⟨g, cap, cur, rfl, h2, h3, h4, h5, h6, h7⟩⟩ := hown2
            · clear h1
              go_wp2
              exact bodyPost_ret (v := .agg #[.int .i64 0, .slice none 0 0]) (by simp [results, Try.results50, go_sem, g1, g2]) rfl ⟨(HB2.out.setCell (Nat.le_refl _) _).setCell (Nat.le_refl _) _, _, rfl, rg_zero _ _ HV0.out⟩
            · obtain rfl : k2 = 0 := by simp [dv] at h1; omega
              clear h1 h3 h4 h5 h6 h7
              go_wp2
              exact bodyPost_ret (v := .agg #[.int .i64 0, .slice none 0 0]) (by simp [results, Try.results50, go_sem, g1, g2]) rfl ⟨(HB2.out.setCell (Nat.le_refl _) _).setCell (Nat.le_refl _) _, _, rfl, rg_zero _ _ HV0.out⟩
          · rw [List.concat_eq_append] at hl'
            subst hl'
            have hlen : l'.length + 1 = k2 := by have := hown2.1; simpa [dv] using this
            obtain ⟨g, cap, rfl, hbg, hcell, hown3, hcap⟩ := own_trim hown2
            have HO2 := Lib.hid hown2
            have HO3 := Lib.hid hown3
            have hll : l'.length ≤ 2002 := by omega
            clear hown2 hown3
            by_cases hx0 : x = 0
            · subst hx0
              have HN2 : Hid (norm l' = norm out) := by have := HN.out; rw [norm_snoc_zero] at this; exact this
              have HD2 : Hid (D4 l') := fun y hy => hd2 y (List.mem_append_left _ hy)
              clear hlen
              go_wp2
              go_round
              case rel => exact ⟨trivial, l'.length, l', HO3.out, HD2.out, by omega, HN2.out⟩
              case measure => simp [lenOf]
            · have hne : ((x : Int) == 0) = false := by rw [beq_eq_false_iff_ne]; omega
              have hneq : Nrm (l' ++ [x]) := by simp [Nrm, hx0]
              have hnn : norm (l' ++ [x]) = l' ++ [x] := norm_snoc _ _ hx0
              have hv : rv (l' ++ [x]) = (iv xs).toNat := by
                have h1 := HN.out
                rw [hnn] at h1
                have h2 := rv_norm out
                rw [← h1] at h2
                have h3 := HE.out
                omega
              have HNN := Lib.hid hneq
              have HVV := Lib.hid hv
              have HX0 := Lib.hid hx0
              have HLL := Lib.hid hlen
              clear hneq hnn hv hx0 hlen
              obtain ⟨g1, g2⟩ := two_cells r0 r1 (.int .i64 s) (.slice (some ⟨g, 0, none⟩) (l'.length + 1) cap)
              have HK := Lib.hid (HO2.out.kept (grown2 wr w.heap.size 0 1 (.int .i64 s) (.slice (some ⟨g, 0, none⟩) (l'.length + 1) cap)) (.inr (by simp [Value.ownBlock]; omega)))
              go_wp2
              exact bodyPost_ret (v := .agg #[.int .i64 s, .slice (some ⟨g, 0, none⟩) (l'.length + 1) cap]) (by simp [results, Try.results50, go_sem, g1, g2]) rfl ⟨(HB2.out.setCell (Nat.le_refl _) _).setCell (Nat.le_refl _) _, _, rfl, rg_mk HK.out (by simp; omega) hd2 HNN.out (by simp) HVV.out⟩
      · have hne : (cc != 0) = true := by simpa using hz
        have hne2 : (cc == 0) = false := by simpa using hz
        obtain ⟨q, r, hqr, hr1⟩ : ∃ (q : Int) (r : Nat), cc = 10000 * q + r ∧ r < 10000 := ⟨cc / 10000, (cc % 10000).toNat, by omega, by omega⟩
        obtain ⟨CN, q1, q2⟩ := HB.out.past hge hc0 hz hqr hr1
        have CN := Lib.hid CN
        have ST := Lib.hid (made_step (r := r) (c' := q) HL.out HV.out (by rw [List.getD_eq_getElem?_getD, List.getElem?_eq_none (by omega)]; simp; omega))
        have e1 : cc / 10000 = q := by omega
        have e2 : cc % 10000 = r := by omega
        have hown0 := hown.alloc (.cells #[.int .i64 (r : Int)] 3)
        have HZ := Lib.hid hz
        clear hqr hz
        go_wp2_with (at_builtin; refine wpList_append_own _ rfl _ _ 30 rfl (w.heap.size + 1) 3 i0 (.int .i64 0) 1 8 Try.underlying30 hi hz0 hz1 hz2 rfl (by decide) _ _ _ rfl hown0 ⟨wr.heap.size, 0, none⟩ 1 1 [.int .i64 (r : Int)] rfl rfl (cell_one_new _ _ _) (by simp [Value.oneCell']) (by unfold maxLen; omega) (by omega) (by simp; omega) ?_; intro v' w1 hown' hgrow _)
        have hown2 := hown'
        rw [← dv_snoc] at hown2
        have HO := Lib.hid hown2
        have HBL := Lib.hid ((hbel.alloc (show w.heap.size + 1 ≤ wr.heap.size by omega) (.cells #[.int .i64 (r : Int)] 3)).grown hgrow (by simp; omega) (fun j e => (hown0.lt j e).1))
        go_roundw
        case rel => exact ⟨k + 1, q, out ++ [r], by go_num, rfl, CN.out, by show _ = _; simp [HL.out], hd.snoc hr1, HO.out, HBL.out, ST.out⟩
        case measure => simp [intOf]; omega
end Go.Proofs.Ytjjomjjgoceklaa
