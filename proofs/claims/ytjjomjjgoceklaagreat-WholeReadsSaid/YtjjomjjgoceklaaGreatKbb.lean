import Derived.Test.YtjjomjjgoceklaaGreatKac
import Derived.Test.YtjjomjjgoceklaaGreatKae
import Derived.Outline
import Derived.Maps.AppendAt
namespace Go.Proofs.YtjjomjjgoceklaaGreat
set_option maxRecDepth 100000
open Go.RowKit

/-! plain: numbers to the base 10000, as the reference has them -/
def rv : List Nat → Nat
  | [] => 0
  | x :: r => x + 10000 * rv r
def iv : List Int → Int
  | [] => 0
  | x :: r => x + 10000 * iv r
/-- all below 10000 -/
def D4 (l : List Nat) : Prop := ∀ x ∈ l, x < 10000
theorem D4.nil : D4 [] := by intro x hx; cases hx
theorem D4.snoc {l : List Nat} {x : Nat} (h : D4 l) (hx : x < 10000) : D4 (l ++ [x]) := by
  intro y hy
  rcases List.mem_append.1 hy with hy | hy
  · exact h y hy
  · simp only [List.mem_singleton] at hy; rw [hy]; exact hx
theorem rv_snoc (l : List Nat) (x : Nat) : rv (l ++ [x]) = rv l + 10000 ^ l.length * x := by
  induction l with
  | nil => simp [rv]
  | cons y r ih =>
    simp only [List.cons_append, rv, ih, List.length_cons, Nat.pow_succ]
    rw [Nat.mul_add, Nat.mul_comm (10000 ^ r.length) 10000, Nat.mul_assoc]; omega
theorem rv_lt (l : List Nat) (h : D4 l) : rv l < 10000 ^ l.length := by
  induction l with
  | nil => simp [rv]
  | cons x r ih =>
    have h1 := ih (fun y hy => h y (List.mem_cons_of_mem _ hy))
    have h2 : x < 10000 := h x List.mem_cons_self
    simp only [rv, List.length_cons, Nat.pow_succ]
    omega
theorem rv_norm (l : List Nat) : rv (norm l) = rv l := by
  induction l with
  | nil => rfl
  | cons x r ih =>
    simp only [norm]
    split
    · rename_i h; rw [h] at ih; split
      · simp [rv, ← ih] ; omega
      · simp [rv, ← ih]
    · rename_i y s h; rw [h] at ih; simp only [rv] at ih ⊢; rw [← ih]
theorem rv_ge (l : List Nat) (h : Nrm l) (hne : l ≠ []) : 10000 ^ (l.length - 1) ≤ rv l := by
  induction l with
  | nil => exact absurd rfl hne
  | cons x r ih =>
    cases r with
    | nil =>
      unfold Nrm at h
      have : x ≠ 0 := by simpa using h
      simp [rv]; omega
    | cons y s =>
      have := ih (by unfold Nrm at h ⊢; rwa [List.getLast?_cons_cons] at h) (by simp)
      have e : rv (x :: y :: s) = x + 10000 * rv (y :: s) := rfl
      rw [e, show (x :: y :: s).length - 1 = ((y :: s).length - 1) + 1 from rfl, Nat.pow_succ]
      omega
theorem rv_zero {l : List Nat} (h : Nrm l) : rv l = 0 ↔ l = [] := by
  constructor
  · intro h0
    apply Classical.byContradiction
    intro hne
    have := rv_ge l h hne
    have : 0 < 10000 ^ (l.length - 1) := Nat.pow_pos (by decide)
    omega
  · intro e; rw [e]; rfl
theorem rv_take_succ (l : List Nat) (k : Nat) : rv (l.take (k + 1)) = rv (l.take k) + 10000 ^ k * l.getD k 0 := by
  induction l generalizing k with
  | nil => simp [rv]
  | cons x r ih =>
    cases k with
    | zero => simp [rv]
    | succ k =>
      simp only [List.take_succ_cons, rv, ih, List.getD_cons_succ, Nat.pow_succ]
      rw [Nat.mul_add, Nat.mul_comm (10000 ^ k) 10000, Nat.mul_assoc]; omega
theorem iv_take_succ (l : List Int) (k : Nat) : iv (l.take (k + 1)) = iv (l.take k) + 10000 ^ k * l.getD k 0 := by
  induction l generalizing k with
  | nil => simp [iv]
  | cons x r ih =>
    cases k with
    | zero => simp [iv]
    | succ k =>
      simp only [List.take_succ_cons, iv, ih, List.getD_cons_succ]
      rw [Int.pow_succ, Int.mul_add, Int.mul_comm (10000 ^ k) 10000, Int.mul_assoc]; omega
theorem iv_take_ge (l : List Int) (k : Nat) (h : l.length ≤ k) : iv (l.take k) = iv l := by rw [List.take_of_length_le h]
/-- one step of a carry -/
theorem made_step {out : List Nat} {xs : List Int} {k : Nat} {c c' : Int} {r : Nat} (hk : out.length = k) (H : (rv out : Int) + 10000 ^ k * c = iv (xs.take k)) (E : c + xs.getD k 0 = 10000 * c' + r) :
    (rv (out ++ [r]) : Int) + 10000 ^ (k + 1) * c' = iv (xs.take (k + 1)) := by
  rw [iv_take_succ, ← H, rv_snoc, hk, Int.pow_succ]
  have e : (10000 : Int) ^ k * 10000 * c' = 10000 ^ k * (10000 * c') := Int.mul_assoc _ _ _
  have e2 : (10000 : Int) ^ k * (10000 * c') = 10000 ^ k * (c + xs.getD k 0 - r) := by congr 1; omega
  rw [e, e2, Int.mul_sub, Int.mul_add]
  have e3 : (((10000 ^ k * r : Nat)) : Int) = (10000 : Int) ^ k * (r : Int) := by simp
  omega
/-- behind the last group the carry is not negative -/
theorem made_pos {out : List Nat} {xs : List Int} {k : Nat} {c : Int} (hk : out.length = k) (hd : D4 out) (H : (rv out : Int) + 10000 ^ k * c = iv (xs.take k)) (hl : xs.length ≤ k) (h0 : 0 ≤ iv xs) : 0 ≤ c := by
  rw [iv_take_ge _ _ hl] at H
  have h1 := rv_lt out hd
  rw [hk] at h1
  have h2 : ((rv out : Nat) : Int) < (10000 : Int) ^ k := by
    have : ((rv out : Nat) : Int) < ((10000 ^ k : Nat) : Int) := by omega
    simpa using this
  apply Classical.byContradiction
  intro hc
  have hp : (0 : Int) < 10000 ^ k := by
    have : 0 < 10000 ^ k := Nat.pow_pos (by decide)
    have h3 : ((10000 ^ k : Nat) : Int) = (10000 : Int) ^ k := by simp
    omega
  have : (10000 : Int) ^ k * c ≤ 10000 ^ k * (-1) := Int.mul_le_mul_of_nonneg_left (by omega) (by omega)
  omega
end Go.Proofs.YtjjomjjgoceklaaGreat
namespace Go.Proofs.YtjjomjjgoceklaaGreat
set_option maxRecDepth 100000
open Go.RowKit

theorem Tryz.info3 : (Tryz.prog.info? 3).map (fun i => (i.zero, i.size, i.bytes)) = some (some (.int .i64 0), 1, 8) := by kernel_rfl

/-- v is a slice of integers that reads xs -/
def SlI (w : World) (v : Value) (xs : List Int) : Prop :=
  xs.length ≤ 4096 ∧ ((v = .slice none 0 0 ∧ xs = []) ∨ ∃ b o cap : Nat, v = .slice (some ⟨b, o, none⟩) xs.length cap ∧ xs.length ≤ cap ∧ cap ≤ maxLen ∧ (∃ cur, w.heap[b]? = some (.cells cur 3 (0, 0))) ∧
    ∀ i, i < xs.length → w.cell? ⟨b, o + i, none⟩ = some (.int .i64 (xs.getD i 0)))
theorem SlI.keep {w w' : World} {v : Value} {xs : List Int} {B : Nat} (h : SlI w v xs) (hb : Below B w w') (hB : w.heap.size ≤ B) : SlI w' v xs := by
  obtain ⟨h2, h | ⟨b, o, cap, hv, hc, hm, ⟨cur, hlt⟩, hcell⟩⟩ := h
  · exact ⟨h2, .inl h⟩
  · have hl : b < w.heap.size := (Array.getElem?_eq_some_iff.1 hlt).1
    exact ⟨h2, .inr ⟨b, o, cap, hv, hc, hm, ⟨cur, (hb.block b (Nat.lt_of_lt_of_le hl hB)).trans hlt⟩, fun i hi => (hb.cell (p := ⟨b, o + i, none⟩) (Nat.lt_of_lt_of_le hl hB)).trans (hcell i hi)⟩⟩
/-- block T is no row of integers -/
def NoI (w : World) (T : Nat) : Prop := ∃ c t f, w.heap[T]? = some (.cells c t f) ∧ t ≠ 3
/-- a slice of integers stays while such a block is written -/
theorem SlI.store {w w' : World} {v : Value} {xs : List Int} {T : Nat} (h : SlI w v xs) (hT : NoI w T) (hg : w.grownBy w' (some T)) : SlI w' v xs := by
  obtain ⟨h2, h | ⟨b, o, cap, hv, hc, hm, ⟨cur, hlt⟩, hcell⟩⟩ := h
  · exact ⟨h2, .inl h⟩
  · have hl : b < w.heap.size := (Array.getElem?_eq_some_iff.1 hlt).1
    have hne : some b ≠ some T := by
      intro e
      cases e
      obtain ⟨c, t, f, h1, h2⟩ := hT
      rw [hlt] at h1
      cases h1
      exact h2 rfl
    have hk := hg.block b hl hne
    exact ⟨h2, .inr ⟨b, o, cap, hv, hc, hm, ⟨cur, hk.trans hlt⟩, fun i hi => (World.cell?_of_block (a := ⟨b, o + i, none⟩) hk).trans (hcell i hi)⟩⟩
/-- where a slice of integers lies: its cells below B -/
def RdI (w : World) (B : Nat) (p : Option Addr) (xs : List Int) : Prop :=
  ∀ i, i < xs.length → ∃ b o : Nat, p = some ⟨b, o, none⟩ ∧ b < B ∧ b < w.heap.size ∧ w.cell? ⟨b, o + i, none⟩ = some (.int .i64 (xs.getD i 0))
theorem SlI.opened {w : World} {v : Value} {xs : List Int} (h : SlI w v xs) (B : Nat) (hB : w.heap.size ≤ B) : ∃ (p : Option Addr) (cap : Nat), v = .slice p xs.length cap ∧ xs.length ≤ cap ∧ cap ≤ maxLen ∧ RdI w B p xs := by
  obtain ⟨h2, ⟨rfl, rfl⟩ | ⟨b, o, cap, rfl, hc, hm, ⟨cur, hlt⟩, hcell⟩⟩ := h
  · exact ⟨none, 0, rfl, Nat.le_refl _, Nat.zero_le _, fun i hi => by simp at hi⟩
  · have hl : b < w.heap.size := (Array.getElem?_eq_some_iff.1 hlt).1
    exact ⟨_, cap, rfl, hc, hm, fun i hi => ⟨b, o, rfl, Nat.lt_of_lt_of_le hl hB, hl, hcell i hi⟩⟩
/-- digits to the base 10000 as values -/
def dv (l : List Nat) : List Value := l.map fun (x : Nat) => Value.int .i64 (x : Int)
/-- a number of the reference: sign s (0 at 0), absolute value n -/
def RG (w : World) (v : Value) (s : Int) (n : Nat) : Prop :=
  ∃ (gs : List Nat) (sl : Value), v = .agg #[.int .i64 (if n = 0 then 0 else s), sl] ∧ SlI w sl (gs.map fun (x : Nat) => (x : Int)) ∧ D4 gs ∧ Nrm gs ∧ rv gs = n
theorem RG.keep {w w' : World} {v : Value} {s : Int} {n B : Nat} (h : RG w v s n) (hb : Below B w w') (hB : w.heap.size ≤ B) : RG w' v s n := by
  obtain ⟨gs, sl, h1, h2, h3⟩ := h
  exact ⟨gs, sl, h1, h2.keep hb hB, h3⟩
theorem RG.store {w w' : World} {v : Value} {s : Int} {n T : Nat} (h : RG w v s n) (hT : NoI w T) (hg : w.grownBy w' (some T)) : RG w' v s n := by
  obtain ⟨gs, sl, h1, h2, h3⟩ := h
  exact ⟨gs, sl, h1, h2.store hT hg, h3⟩
def PRG (s : Int) (n : Nat) (w : World) (e : Ending) (w' : World) : Prop := Below w.heap.size w w' ∧ ∃ v, e = .returned v ∧ RG w' v s n
/-- the carry behind k groups of len -/
def Cb (len k : Nat) (c : Int) : Prop := (k ≤ len ∧ -100000000000 ≤ c ∧ c ≤ 100000000000) ∨ (k = len + 1 ∧ 0 ≤ c ∧ c ≤ 10000000) ∨ (k = len + 2 ∧ 0 ≤ c ∧ c ≤ 1000) ∨ (k = len + 3 ∧ c = 0)
theorem SlI.of_own {w : World} {base cnt : Nat} {v : Value} {l : List Nat} (h : w.ownsRow base 3 1 v cnt (dv l)) (hl : l.length ≤ 4096) : SlI w v (l.map fun (x : Nat) => (x : Int)) := by
  have hn : l.length = cnt := by have := h.1; simpa [dv] using this
  subst hn
  obtain ⟨_, ⟨rfl, h0⟩ | ⟨g, cap, cur, rfl, _, hg, hc, hm, hs, ht⟩⟩ := h
  · have : l = [] := List.length_eq_zero_iff.1 h0
    subst this
    exact ⟨by simp, .inl ⟨rfl, rfl⟩⟩
  · refine ⟨by simpa using hl, .inr ⟨g, 0, cap, by simp, by simpa using hc, hm, ⟨cur, hg⟩, fun i hi => ?_⟩⟩
    have hi' : i < l.length := by simpa using hi
    have h1 : cur.toList[i]? = some (.int .i64 ((l.map fun (x : Nat) => (x : Int)).getD i 0)) := by
      have h2 : (cur.toList.take (l.length * 1))[i]? = (dv l)[i]? := by rw [ht]
      rw [List.getElem?_take_of_lt (by omega)] at h2
      rw [h2]
      simp [dv, hi', List.getD_eq_getElem?_getD]
    unfold World.cell?
    dsimp only
    rw [hg, Nat.zero_add]
    simpa using h1
theorem own_trim {w : World} {base cnt : Nat} {v : Value} {l : List Nat} {x : Nat} (h : w.ownsRow base 3 1 v cnt (dv (l ++ [x]))) : ∃ g cap : Nat, v = .slice (some ⟨g, 0, none⟩) (l.length + 1) cap ∧ base ≤ g ∧
    w.cell? ⟨g, l.length, none⟩ = some (.int .i64 (x : Int)) ∧ w.ownsRow base 3 1 (.slice (some ⟨g, 0, none⟩) l.length cap) l.length (dv l) ∧ l.length + 1 ≤ cap := by
  have hn : l.length + 1 = cnt := by have := h.1; simpa [dv] using this
  subst hn
  obtain ⟨_, ⟨rfl, h0⟩ | ⟨g, cap, cur, rfl, hb, hg, hc, hm, hs, ht⟩⟩ := h
  · omega
  · refine ⟨g, cap, rfl, hb, ?_, ⟨by simp [dv], .inr ⟨g, cap, cur, rfl, hb, hg, by omega, hm, hs, ?_⟩⟩, hc⟩
    · have h1 : cur.toList[l.length]? = some (.int .i64 (x : Int)) := by
        have h2 : (cur.toList.take ((l.length + 1) * 1))[l.length]? = (dv (l ++ [x]))[l.length]? := by rw [ht]
        rw [List.getElem?_take_of_lt (by omega)] at h2
        rw [h2]
        simp [dv]
      unfold World.cell?
      dsimp only
      rw [hg]
      simpa using h1
    · have h2 : (cur.toList.take ((l.length + 1) * 1)).take l.length = (dv (l ++ [x])).take l.length := by rw [ht]
      rw [List.take_take] at h2
      rw [show l.length * 1 = min l.length ((l.length + 1) * 1) by omega, h2]
      simp [dv]

theorem dv_snoc (l : List Nat) (x : Nat) : dv (l ++ [x]) = dv l ++ [.int .i64 (x : Int)] := by simp [dv]
theorem td_neg0 (q : Int) (_h : 10000 * q < 0) : (10000 * q).tdiv 10000 = q ∧ (10000 * q).tmod 10000 = 0 := by
  have e : (10000 * q).tdiv 10000 = q := by rw [Int.tdiv_eq_ediv, if_pos (.inr ⟨q, rfl⟩)]; omega
  exact ⟨e, by rw [Int.tmod_def, e]; omega⟩
theorem td_neg (q : Int) (r : Nat) (h : 10000 * q + r < 0) (hr : 0 < r) (hr1 : r < 10000) : (10000 * q + r).tdiv 10000 = q + 1 ∧ (10000 * q + r).tmod 10000 = r - 10000 := by
  have e : (10000 * q + r).tdiv 10000 = q + 1 := by
    rw [Int.tdiv_eq_ediv, if_neg (by rintro (h1 | ⟨c, h1⟩) <;> omega)]
    show _ + (1 : Int) = _
    omega
  exact ⟨e, by rw [Int.tmod_def, e]; omega⟩
/-- the carry: one group more -/
theorem Cb.step {len k : Nat} {c g q : Int} {r : Nat} (h : Cb len k c) (hk : k < len) (hq : c + g = 10000 * q + r) (hg1 : -100000000000000 ≤ g) (hg2 : g ≤ 100000000000000) (hr : r < 10000) : Cb len (k + 1) q := by
  unfold Cb at *; omega
theorem Cb.past {len k : Nat} {c q : Int} {r : Nat} (h : Cb len k c) (hk : len ≤ k) (h0 : 0 ≤ c) (hne : c ≠ 0) (hq : c = 10000 * q + r) (hr : r < 10000) : Cb len (k + 1) q ∧ 0 ≤ q ∧ q < c := by
  unfold Cb at *; omega
theorem rg_zero (w : World) (s : Int) {n : Nat} (h : n = 0) : RG w (.agg #[.int .i64 0, .slice none 0 0]) s n :=
  ⟨[], _, by rw [if_pos h], ⟨by simp, .inl ⟨rfl, rfl⟩⟩, D4.nil, by simp [Nrm], h.symm⟩
theorem rg_mk {w : World} {base k : Nat} {sl : Value} {l : List Nat} {s : Int} {n : Nat} (h : w.ownsRow base 3 1 sl k (dv l)) (hl : l.length ≤ 4096) (hd : D4 l) (hn : Nrm l) (hne : l ≠ []) (hv : rv l = n) : RG w (.agg #[.int .i64 s, sl]) s n := by
  have h0 : n ≠ 0 := by intro e; rw [e] at hv; exact hne ((rv_zero hn).1 hv)
  exact ⟨l, sl, by rw [if_neg h0], SlI.of_own h hl, hd, hn, hv⟩
set_option maxRecDepth 100000 in
set_option maxHeartbeats 1600000 in
theorem made_any (s : Int) (vg : Value) (xs : List Int) (w : World) (h : SlI w vg xs) (hx : ∀ i, -100000000000000 ≤ xs.getD i 0 ∧ xs.getD i 0 ≤ 100000000000000) (h0 : 0 ≤ iv xs) (hl : xs.length ≤ 2000) :
    Calls Tryz.prog 94 #[.int .i64 s, vg] w (PRG s (iv xs).toNat w) := by
  obtain ⟨p, cg, rfl, hcg, hmg, hrd⟩ := h.opened w.heap.size (Nat.le_refl _)
  have HR := Lib.hid hrd
  have HX := Lib.hid hx
  have H0 := Lib.hid h0
  clear hrd hx h0 h
  obtain ⟨i0, hi, hz0, hz1, hz2⟩ := info_parts Tryz.info3
  go_enter Tryz.func94, Tryz.ntmps94
  go_wp2
  go_loopw [5, 6, 7] (fun o c i wr => ∃ (k : Nat) (cc : Int) (out : List Nat), i = .int .i64 k ∧ c = .int .i64 cc ∧ Hid (Cb xs.length k cc) ∧ Hid (out.length = k) ∧ D4 out ∧ wr.ownsRow (w.heap.size + 1) 3 1 o k (dv out) ∧ Below (w.heap.size + 1) (w.alloc (.cells #[.int .i64 0, .slice none 0 0] 41)) wr ∧ Hid ((rv out : Int) + 10000 ^ k * cc = iv (xs.take k)))
    (fun _ c i _ => (xs.length - (intOf i).toNat) * 1000000000000 + (intOf c).natAbs)
  case atStart => exact ⟨0, 0, [], rfl, rfl, .inl ⟨Nat.zero_le _, by omega, by omega⟩, rfl, D4.nil, World.ownsRow_nil _ _ _ _, Below.refl _ _, by show _ = _; simp [rv, iv]⟩
  case round =>
    obtain ⟨k, cc, out, rfl, rfl, HB, HL, hd, hown, hbel, HV⟩ := hrel
    by_cases hlt : k < xs.length
    · obtain ⟨b, o, rfl, hbB, hbw, hcell⟩ := HR.out k hlt
      have c1 : wr.cell? ⟨b, o + k, none⟩ = some (.int .i64 (xs.getD k 0)) := (hbel.cell (p := ⟨b, o + k, none⟩) (show b < w.heap.size + 1 by omega)).trans ((World.cell?_alloc_old _ _ _ (Nat.ne_of_lt hbw)).trans hcell)
      have hgx := HX.out k
      have HG : Hid (∃ g, g = xs.getD k 0) := ⟨_, rfl⟩
      obtain ⟨hc1, hc2⟩ : -100000000000 ≤ cc ∧ cc ≤ 100000000000 := by have := HB.out; unfold Cb at this; omega
      obtain ⟨hg1, hg2⟩ := hgx
      generalize hgd : xs.getD k 0 = g at *
      have HGD := Lib.hid hgd
      clear hcell hgd HG
      obtain ⟨x, hxe⟩ : ∃ x, cc + g = x := ⟨_, rfl⟩
      have hx1 : -200000000000000 ≤ x := by omega
      have hx2 : x ≤ 200000000000000 := by omega
      obtain ⟨q, r, hqr, hr1⟩ : ∃ (q : Int) (r : Nat), x = 10000 * q + r ∧ r < 10000 := ⟨x / 10000, (x % 10000).toNat, by omega, by omega⟩
      have HQ := Lib.hid hqr
      have hq1 : -100000000000 ≤ q := by omega
      have hq2 : q ≤ 100000000000 := by omega
      have hbsz := hbel.size
      simp only [World.size_alloc] at hbsz
      have hown0 := hown.alloc (.cells #[.int .i64 (r : Int)] 3)
      have CN := Lib.hid (HB.out.step (q := q) (r := r) hlt (by omega) hg1 hg2 hr1)
      have ST := Lib.hid (made_step (r := r) (c' := q) HL.out HV.out (by rw [HGD.out]; omega))
      by_cases hx0 : 0 ≤ x
      · have e1 : x / 10000 = q := by omega
        have e2 : x % 10000 = r := by omega
        clear hqr
        go_wp2_with (at_builtin; refine wpList_append_own _ rfl _ _ 39 rfl (w.heap.size + 1) 3 i0 (.int .i64 0) 1 8 Tryz.underlying39 hi hz0 hz1 hz2 rfl (by decide) _ _ _ rfl hown0 ⟨wr.heap.size, 0, none⟩ 1 1 [.int .i64 (r : Int)] rfl rfl (cell_one_new _ _ _) (by simp [Value.oneCell']) (by unfold maxLen; omega) (by omega) (by simp; omega) ?_; intro v' w1 hown' hgrow _)
        have hown2 := hown'
        rw [← dv_snoc] at hown2
        have HO := Lib.hid hown2
        have HBL := Lib.hid ((hbel.alloc (show w.heap.size + 1 ≤ wr.heap.size by omega) (.cells #[.int .i64 (r : Int)] 3)).grown hgrow (by simp; omega) (fun j e => (hown0.lt j e).1))
        go_roundw
        case rel => exact ⟨k + 1, q, out ++ [r], by go_num, rfl, CN.out, by show _ = _; simp [HL.out], hd.snoc hr1, HO.out, HBL.out, ST.out⟩
        case measure => simp [intOf]; omega
      · have hx0' : x < 0 := by omega
        by_cases hr0 : r = 0
        · obtain ⟨e1, e2⟩ := td_neg0 q (by omega)
          rw [show 10000 * q = x by omega] at e1 e2
          have e3 : x.tmod 10000 = (r : Int) := by rw [e2, hr0]; rfl
          clear e2 hr0 hqr
          go_wp2_with (at_builtin; refine wpList_append_own _ rfl _ _ 39 rfl (w.heap.size + 1) 3 i0 (.int .i64 0) 1 8 Tryz.underlying39 hi hz0 hz1 hz2 rfl (by decide) _ _ _ rfl hown0 ⟨wr.heap.size, 0, none⟩ 1 1 [.int .i64 (r : Int)] rfl rfl (cell_one_new _ _ _) (by simp [Value.oneCell']) (by unfold maxLen; omega) (by omega) (by simp; omega) ?_; intro v' w1 hown' hgrow _)
          have hown2 := hown'
          rw [← dv_snoc] at hown2
          have HO := Lib.hid hown2
          have HBL := Lib.hid ((hbel.alloc (show w.heap.size + 1 ≤ wr.heap.size by omega) (.cells #[.int .i64 (r : Int)] 3)).grown hgrow (by simp; omega) (fun j e => (hown0.lt j e).1))
          go_roundw
          case rel => exact ⟨k + 1, q, out ++ [r], by go_num, rfl, CN.out, by show _ = _; simp [HL.out], hd.snoc hr1, HO.out, HBL.out, ST.out⟩
          case measure => simp [intOf]; omega
        · obtain ⟨e1, e2⟩ := td_neg q r (by omega) (by omega) hr1
          rw [← hqr] at e1 e2
          have hr2 : (0 : Int) ≤ (r : Int) := by omega
          have hr3 : (r : Int) < 10000 := by omega
          have HR0 := Lib.hid hr0
          clear hqr hr0
          go_wp2_with (at_builtin; refine wpList_append_own _ rfl _ _ 39 rfl (w.heap.size + 1) 3 i0 (.int .i64 0) 1 8 Tryz.underlying39 hi hz0 hz1 hz2 rfl (by decide) _ _ _ rfl hown0 ⟨wr.heap.size, 0, none⟩ 1 1 [.int .i64 (r : Int)] rfl rfl (cell_one_new _ _ _) (by simp [Value.oneCell']) (by unfold maxLen; omega) (by omega) (by simp; omega) ?_; intro v' w1 hown' hgrow _)
          have hown2 := hown'
          rw [← dv_snoc] at hown2
          have HO := Lib.hid hown2
          have HBL := Lib.hid ((hbel.alloc (show w.heap.size + 1 ≤ wr.heap.size by omega) (.cells #[.int .i64 (r : Int)] 3)).grown hgrow (by simp; omega) (fun j e => (hown0.lt j e).1))
          go_roundw
          case rel => exact ⟨k + 1, q, out ++ [r], by go_num, rfl, CN.out, by show _ = _; simp [HL.out], hd.snoc hr1, HO.out, HBL.out, ST.out⟩
          case measure => simp [intOf]; omega
    · have hge : xs.length ≤ k := by omega
      have hc0 := made_pos HL.out hd HV.out hge H0.out
      obtain ⟨hc2, hk3⟩ : cc ≤ 100000000000 ∧ k ≤ xs.length + 3 := by have := HB.out; unfold Cb at this; omega
      have hbsz := hbel.size
      simp only [World.size_alloc] at hbsz
      by_cases hz : cc = 0
      · subst hz
        have HE : Hid ((rv out : Int) = iv xs) := by
          have := HV.out
          rw [iv_take_ge _ _ hge] at this
          show _ = _
          simpa using this
        have r0 : wr.cell? ⟨w.heap.size, 0, none⟩ = some (.int .i64 0) := by rw [hbel.cell (p := ⟨w.heap.size, 0, none⟩) (Nat.lt_succ_self _)]; simp [go_sem]
        have r1 : wr.cell? ⟨w.heap.size, 1, none⟩ = some (.slice none 0 0) := by rw [hbel.cell (p := ⟨w.heap.size, 1, none⟩) (Nat.lt_succ_self _)]; simp [go_sem]
        have f0 : wr.frozen? ⟨w.heap.size, 0, none⟩ = false := by rw [hbel.frozen (p := ⟨w.heap.size, 0, none⟩) (Nat.lt_succ_self _)]; simp [go_sem]
        have f1 : wr.frozen? ⟨w.heap.size, 1, none⟩ = false := by rw [hbel.frozen (p := ⟨w.heap.size, 1, none⟩) (Nat.lt_succ_self _)]; simp [go_sem]
        have HB2 := Lib.hid ((bl1 w (.cells #[.int .i64 0, .slice none 0 0] 41)).trans (hbel.mono (Nat.le_succ _)))
        clear HB HV
        go_wp2
        go_loopw [5] (fun o wr' => wr' = wr ∧ ∃ (k2 : Nat) (l : List Nat), wr.ownsRow (w.heap.size + 1) 3 1 o k2 (dv l) ∧ D4 l ∧ k2 ≤ 2003 ∧ Hid (norm l = norm out)) (fun o _ => lenOf o)
        case atStart => exact ⟨rfl, k, out, hown, hd, by omega, rfl⟩
        case round =>
          obtain ⟨rfl, k2, l, hown2, hd2, hk2, HN⟩ := hrel
          rcases List.eq_nil_or_concat l with rfl | ⟨l', x, hl'⟩
          · have hv : (iv xs).toNat = 0 := by
              have h1 : norm out = [] := HN.out.symm
              have h2 := rv_norm out
              rw [h1] at h2
              have h3 := HE.out
              simp only [rv] at h2
              omega
            have HV0 := Lib.hid hv
            clear hv
            obtain ⟨g1, g2⟩ := two_cells r0 r1 (.int .i64 0) (.slice none 0 0)
            obtain ⟨h1, ⟨rfl, rfl⟩ | ⟨g, cap, cur, rfl, h2, h3, h4, h5, h6, h7⟩⟩ := hown2
            · clear h1
              go_wp2
              exact bodyPost_ret (v := .agg #[.int .i64 0, .slice none 0 0]) (by simp [results, Tryz.results94, go_sem, g1, g2]) rfl ⟨(HB2.out.setCell (Nat.le_refl _) _).setCell (Nat.le_refl _) _, _, rfl, rg_zero _ _ HV0.out⟩
            · obtain rfl : k2 = 0 := by simp [dv] at h1; omega
              clear h1 h3 h4 h5 h6 h7
              go_wp2
              exact bodyPost_ret (v := .agg #[.int .i64 0, .slice none 0 0]) (by simp [results, Tryz.results94, go_sem, g1, g2]) rfl ⟨(HB2.out.setCell (Nat.le_refl _) _).setCell (Nat.le_refl _) _, _, rfl, rg_zero _ _ HV0.out⟩
          · rw [List.concat_eq_append] at hl'
            subst hl'
            have hlen : l'.length + 1 = k2 := by have := hown2.1; simpa [dv] using this
            obtain ⟨g, cap, rfl, hbg, hcell, hown3, hcap⟩ := own_trim hown2
            have HO2 := Lib.hid hown2
            have HO3 := Lib.hid hown3
            have hll : l'.length ≤ 2002 := by omega
            clear hown2 hown3
            by_cases hx0 : x = 0
            · subst hx0
              have HN2 : Hid (norm l' = norm out) := by have := HN.out; rw [norm_snoc_zero] at this; exact this
              have HD2 : Hid (D4 l') := fun y hy => hd2 y (List.mem_append_left _ hy)
              clear hlen
              go_wp2
              go_round
              case rel => exact ⟨trivial, l'.length, l', HO3.out, HD2.out, by omega, HN2.out⟩
              case measure => simp [lenOf]
            · have hne : ((x : Int) == 0) = false := by rw [beq_eq_false_iff_ne]; omega
              have hneq : Nrm (l' ++ [x]) := by simp [Nrm, hx0]
              have hnn : norm (l' ++ [x]) = l' ++ [x] := norm_snoc _ _ hx0
              have hv : rv (l' ++ [x]) = (iv xs).toNat := by
                have h1 := HN.out
                rw [hnn] at h1
                have h2 := rv_norm out
                rw [← h1] at h2
                have h3 := HE.out
                omega
              have HNN := Lib.hid hneq
              have HVV := Lib.hid hv
              have HX0 := Lib.hid hx0
              have HLL := Lib.hid hlen
              clear hneq hnn hv hx0 hlen
              obtain ⟨g1, g2⟩ := two_cells r0 r1 (.int .i64 s) (.slice (some ⟨g, 0, none⟩) (l'.length + 1) cap)
              have HK := Lib.hid (HO2.out.kept (grown2 wr w.heap.size 0 1 (.int .i64 s) (.slice (some ⟨g, 0, none⟩) (l'.length + 1) cap)) (.inr (by simp [Value.ownBlock]; omega)))
              go_wp2
              exact bodyPost_ret (v := .agg #[.int .i64 s, .slice (some ⟨g, 0, none⟩) (l'.length + 1) cap]) (by simp [results, Tryz.results94, go_sem, g1, g2]) rfl ⟨(HB2.out.setCell (Nat.le_refl _) _).setCell (Nat.le_refl _) _, _, rfl, rg_mk HK.out (by simp; omega) hd2 HNN.out (by simp) HVV.out⟩
      · have hne : (cc != 0) = true := by simpa using hz
        have hne2 : (cc == 0) = false := by simpa using hz
        obtain ⟨q, r, hqr, hr1⟩ : ∃ (q : Int) (r : Nat), cc = 10000 * q + r ∧ r < 10000 := ⟨cc / 10000, (cc % 10000).toNat, by omega, by omega⟩
        obtain ⟨CN, q1, q2⟩ := HB.out.past hge hc0 hz hqr hr1
        have CN := Lib.hid CN
        have ST := Lib.hid (made_step (r := r) (c' := q) HL.out HV.out (by rw [List.getD_eq_getElem?_getD, List.getElem?_eq_none (by omega)]; simp; omega))
        have e1 : cc / 10000 = q := by omega
        have e2 : cc % 10000 = r := by omega
        have hown0 := hown.alloc (.cells #[.int .i64 (r : Int)] 3)
        have HZ := Lib.hid hz
        clear hqr hz
        go_wp2_with (at_builtin; refine wpList_append_own _ rfl _ _ 39 rfl (w.heap.size + 1) 3 i0 (.int .i64 0) 1 8 Tryz.underlying39 hi hz0 hz1 hz2 rfl (by decide) _ _ _ rfl hown0 ⟨wr.heap.size, 0, none⟩ 1 1 [.int .i64 (r : Int)] rfl rfl (cell_one_new _ _ _) (by simp [Value.oneCell']) (by unfold maxLen; omega) (by omega) (by simp; omega) ?_; intro v' w1 hown' hgrow _)
        have hown2 := hown'
        rw [← dv_snoc] at hown2
        have HO := Lib.hid hown2
        have HBL := Lib.hid ((hbel.alloc (show w.heap.size + 1 ≤ wr.heap.size by omega) (.cells #[.int .i64 (r : Int)] 3)).grown hgrow (by simp; omega) (fun j e => (hown0.lt j e).1))
        go_roundw
        case rel => exact ⟨k + 1, q, out ++ [r], by go_num, rfl, CN.out, by show _ = _; simp [HL.out], hd.snoc hr1, HO.out, HBL.out, ST.out⟩
        case measure => simp [intOf]; omega
end Go.Proofs.YtjjomjjgoceklaaGreat
namespace Go.Proofs.YtjjomjjgoceklaaGreat
set_option maxRecDepth 100000
open Go.RowKit

/-- v is the reference's integer z -/
def RZ (w : World) (v : Value) (z : Int) : Prop :=
  ∃ (gs : List Nat) (sl : Value), v = .agg #[.int .i64 z.sign, sl] ∧ SlI w sl (gs.map fun (x : Nat) => (x : Int)) ∧ D4 gs ∧ Nrm gs ∧ rv gs = z.natAbs
theorem RZ.keep {w w' : World} {v : Value} {z : Int} {B : Nat} (h : RZ w v z) (hb : Below B w w') (hB : w.heap.size ≤ B) : RZ w' v z := by
  obtain ⟨gs, sl, h1, h2, h3⟩ := h
  exact ⟨gs, sl, h1, h2.keep hb hB, h3⟩
theorem RZ.store {w w' : World} {v : Value} {z : Int} {T : Nat} (h : RZ w v z) (hT : NoI w T) (hg : w.grownBy w' (some T)) : RZ w' v z := by
  obtain ⟨gs, sl, h1, h2, h3⟩ := h
  exact ⟨gs, sl, h1, h2.store hT hg, h3⟩
theorem RZ.agg {w : World} {v : Value} {z : Int} (h : RZ w v z) : ∃ p l c, v = .agg #[.int .i64 z.sign, .slice p l c] := by
  obtain ⟨gs, sl, rfl, h2, _⟩ := h
  obtain ⟨p, c, rfl, _⟩ := h2.opened _ (Nat.le_refl _)
  exact ⟨p, _, c, rfl⟩
theorem RG.toZ {w : World} {v : Value} {s z : Int} (h : RG w v s z.natAbs) (hs : z ≠ 0 → s = z.sign) : RZ w v z := by
  obtain ⟨gs, sl, rfl, h2⟩ := h
  refine ⟨gs, sl, ?_, h2⟩
  by_cases hz : z = 0
  · subst hz; rfl
  · rw [if_neg (by omega), hs hz]
def PRZ (z : Int) (w : World) (e : Ending) (w' : World) : Prop := Below w.heap.size w w' ∧ ∃ v, e = .returned v ∧ RZ w' v z
theorem iv_cast (l : List Nat) : iv (l.map fun (x : Nat) => (x : Int)) = (rv l : Int) := by
  induction l with
  | nil => rfl
  | cons x r ih => simp only [List.map_cons, iv, rv, ih]; omega
theorem cast_bd {l : List Nat} (h : D4 l) (i : Nat) : -100000000000000 ≤ (l.map fun (x : Nat) => (x : Int)).getD i 0 ∧ (l.map fun (x : Nat) => (x : Int)).getD i 0 ≤ 100000000000000 := by
  rw [List.getD_eq_getElem?_getD, List.getElem?_map]
  cases e : l[i]? with
  | none => simp
  | some x =>
    have := h x (List.mem_of_getElem? e)
    simp
    omega
/-- how far a number of 64 bits is divided -/
def Zb5 (k : Nat) (m : Int) : Prop := (k = 0 ∧ -9223372036854775808 ≤ m ∧ m ≤ 9223372036854775807) ∨ (k = 1 ∧ -922337203685477 ≤ m ∧ m ≤ 922337203685477) ∨ (k = 2 ∧ -92233720368 ≤ m ∧ m ≤ 92233720368) ∨ (k = 3 ∧ -9223372 ≤ m ∧ m ≤ 9223372) ∨ (k = 4 ∧ -922 ≤ m ∧ m ≤ 922) ∨ (k = 5 ∧ m = 0)
theorem neg_td (q r : Nat) (hr : r < 10000) : (-((10000 * q + r : Nat) : Int)).tdiv 10000 = -(q : Int) ∧ (-((10000 * q + r : Nat) : Int)).tmod 10000 = -(r : Int) := by
  have e : (-((10000 * q + r : Nat) : Int)).tdiv 10000 = -(q : Int) := by
    rw [Int.neg_tdiv, Int.tdiv_eq_ediv_of_nonneg (by omega)]
    omega
  exact ⟨e, by rw [Int.tmod_def, e]; omega⟩
theorem zint_step {n0 : Nat} {out : List Nat} {k q r m : Nat} (hk : out.length = k) (H : n0 = rv out + 10000 ^ k * m) (E : m = 10000 * q + r) : n0 = rv (out ++ [r]) + 10000 ^ (k + 1) * q := by
  rw [H, rv_snoc, hk, E, Nat.pow_succ, Nat.mul_add, Nat.mul_assoc]
  omega
set_option maxRecDepth 100000 in
set_option maxHeartbeats 1600000 in
theorem zint_any (n : Int) (w : World) (hn : -9223372036854775808 ≤ n ∧ n ≤ 9223372036854775807) : Calls Tryz.prog 100 #[.int .i64 n] w (PRZ n w) := by
  obtain ⟨i0, hi, hz0, hz1, hz2⟩ := info_parts Tryz.info3
  have HN := Lib.hid hn
  obtain ⟨hn1, hn2⟩ := hn
  by_cases hneg : n < 0
  all_goals
    go_enter Tryz.func100, Tryz.ntmps100
    go_wp2
    go_loopw [0, 4] (fun nv o wr => ∃ (m : Int) (k : Nat) (out : List Nat), nv = .int .i64 m ∧ Hid (Zb5 k m) ∧ Hid (out.length = k) ∧ D4 out ∧ wr.ownsRow (w.heap.size + 1) 3 1 o k (dv out) ∧ Below (w.heap.size + 1) (w.alloc (.cells #[.int .i64 0, .slice none 0 0] 41)) wr ∧ Hid (n.natAbs = rv out + 10000 ^ k * m.natAbs) ∧ Hid (n < 0 → m ≤ 0) ∧ Hid (¬ n < 0 → 0 ≤ m))
      (fun nv _ _ => (intOf nv).natAbs)
    case atStart => exact ⟨n, 0, [], rfl, .inl ⟨rfl, HN.out.1, HN.out.2⟩, rfl, D4.nil, World.ownsRow_nil _ _ _ _, Below.refl _ _, by show _ = _; simp [rv], fun h => by omega, fun h => by omega⟩
    case round =>
      obtain ⟨m, k, out, rfl, HB, HL, hd, hown, hbel, HV, HS1, HS2⟩ := hrel
      have hbsz := hbel.size
      simp only [World.size_alloc] at hbsz
      by_cases hm0 : m = 0
      · subst hm0
        have hk5 : k ≤ 5 := by have := HB.out; unfold Zb5 at this; omega
        have hrv : rv out = n.natAbs := by have := HV.out; simpa using this.symm
        have hsl := SlI.of_own hown (by have := HL.out; omega)
        have r0 : wr.cell? ⟨w.heap.size, 0, none⟩ = some (.int .i64 0) := by rw [hbel.cell (p := ⟨w.heap.size, 0, none⟩) (Nat.lt_succ_self _)]; simp [go_sem]
        have r1 : wr.cell? ⟨w.heap.size, 1, none⟩ = some (.slice none 0 0) := by rw [hbel.cell (p := ⟨w.heap.size, 1, none⟩) (Nat.lt_succ_self _)]; simp [go_sem]
        have f0 : wr.frozen? ⟨w.heap.size, 0, none⟩ = false := by rw [hbel.frozen (p := ⟨w.heap.size, 0, none⟩) (Nat.lt_succ_self _)]; simp [go_sem]
        have f1 : wr.frozen? ⟨w.heap.size, 1, none⟩ = false := by rw [hbel.frozen (p := ⟨w.heap.size, 1, none⟩) (Nat.lt_succ_self _)]; simp [go_sem]
        have nI : NoI wr w.heap.size := ⟨_, 41, _, (hbel.block w.heap.size (Nat.lt_succ_self _)).trans (Go.Deep.blk_alloc_new _ _), by decide⟩
        have HRV := Lib.hid hrv
        have HSL := Lib.hid hsl
        have hb0 := (bl1 w (.cells #[.int .i64 0, .slice none 0 0] 41)).trans (hbel.mono (Nat.le_succ _))
        clear hrv hsl hown HV HB
        go_wp2_with fail
        refine (made_any _ _ _ _ HSL.out (cast_bd hd) (by rw [iv_cast]; omega) (by have := HL.out; simp; omega)).mono ?_
        rintro e w2 ⟨hb2, v2, rfl, h2⟩
        rw [iv_cast, HRV.out] at h2
        have hZ := Lib.hid (h2.toZ (z := n) (fun h => by first | exact (Int.sign_eq_neg_one_of_neg hneg).symm | exact (Int.sign_eq_one_of_pos (by omega)).symm))
        clear h2
        have r0' := (hb2.cell (p := ⟨w.heap.size, 0, none⟩) (show w.heap.size < wr.heap.size by omega)).trans r0
        have r1' := (hb2.cell (p := ⟨w.heap.size, 1, none⟩) (show w.heap.size < wr.heap.size by omega)).trans r1
        have f0' := (hb2.frozen (p := ⟨w.heap.size, 0, none⟩) (show w.heap.size < wr.heap.size by omega)).trans f0
        have f1' := (hb2.frozen (p := ⟨w.heap.size, 1, none⟩) (show w.heap.size < wr.heap.size by omega)).trans f1
        have nI2 : NoI w2 w.heap.size := by
          obtain ⟨c, t, f, h1, h2⟩ := nI
          exact ⟨c, t, f, (hb2.block _ (show w.heap.size < wr.heap.size by omega)).trans h1, h2⟩
        have hb3 := hb0.trans (hb2.mono (show w.heap.size ≤ wr.heap.size by omega))
        obtain ⟨pz, lz, cz, rfl⟩ := hZ.out.agg
        obtain ⟨g1, g2⟩ := two_cells r0' r1' (.int .i64 n.sign) (.slice pz lz cz)
        have HF := Lib.hid (hZ.out.store nI2 (grown2 w2 w.heap.size 0 1 (.int .i64 n.sign) (.slice pz lz cz)))
        clear r0 r1 f0 f1 nI hb2 hb0
        go_wp2
        exact bodyPost_ret (v := .agg #[.int .i64 n.sign, .slice pz lz cz]) (by simp [results, Tryz.results100, go_sem, g1, g2]) rfl ⟨(hb3.setCell (Nat.le_refl _) _).setCell (Nat.le_refl _) _, _, rfl, HF.out⟩
      · have hk4 : k ≤ 4 := by have := HB.out; unfold Zb5 at this; omega
        obtain ⟨hm1, hm2⟩ : -9223372036854775808 ≤ m ∧ m ≤ 9223372036854775807 := by have := HB.out; unfold Zb5 at this; omega
        obtain ⟨q, r, hqr, hr1⟩ : ∃ q r : Nat, m.natAbs = 10000 * q + r ∧ r < 10000 := ⟨m.natAbs / 10000, m.natAbs % 10000, by omega, by omega⟩
        have ST := Lib.hid (zint_step HL.out HV.out hqr)
        have hne : (m != 0) = true := by simpa using hm0
        have hlt : q < m.natAbs := by omega
        have hown0 := hown.alloc (.cells #[.int .i64 (r : Int)] 3)
        by_cases hmp : 0 < m
        · have e1 : m / 10000 = (q : Int) := by omega
          have e2 : m % 10000 = (r : Int) := by omega
          have CN : Hid (Zb5 (k + 1) (q : Int)) := by have := HB.out; unfold Zb5 at this ⊢; show _ ∨ _; omega
          have hq9 : (q : Int) ≤ 922337203685477 := by omega
          have hmn : 0 ≤ m := by omega
          have HM0 := Lib.hid hm0
          clear hm0 hqr
          go_wp2_with (at_builtin; refine wpList_append_own _ rfl _ _ 39 rfl (w.heap.size + 1) 3 i0 (.int .i64 0) 1 8 Tryz.underlying39 hi hz0 hz1 hz2 rfl (by decide) _ _ _ rfl hown0 ⟨wr.heap.size, 0, none⟩ 1 1 [.int .i64 (r : Int)] rfl rfl (cell_one_new _ _ _) (by simp [Value.oneCell']) (by unfold maxLen; omega) (by omega) (by simp; omega) ?_; intro v' w1 hown' hgrow _)
          have hown2 := hown'
          rw [← dv_snoc] at hown2
          have HO := Lib.hid hown2
          have HBL := Lib.hid ((hbel.alloc (show w.heap.size + 1 ≤ wr.heap.size by omega) (.cells #[.int .i64 (r : Int)] 3)).grown hgrow (by simp; omega) (fun j e => (hown0.lt j e).1))
          go_roundw
          case rel => exact ⟨(q : Int), k + 1, out ++ [r], by first | rfl | rw [e1], CN.out, by show _ = _; simp [HL.out], hd.snoc hr1, HO.out, HBL.out, by show _ = _; simpa using ST.out, fun h => by have := HS1.out h; omega, fun h => by have := HS2.out h; omega⟩
          case measure => simp [intOf]; omega
        · obtain ⟨t1, t2⟩ := neg_td q r hr1
          rw [show (-((10000 * q + r : Nat) : Int)) = m by omega] at t1 t2
          have CN : Hid (Zb5 (k + 1) (-(q : Int))) := by have := HB.out; unfold Zb5 at this ⊢; show _ ∨ _; omega
          have hq9 : (q : Int) ≤ 922337203685477 := by omega
          have hmn : m < 0 := by omega
          have HM0 := Lib.hid hm0
          by_cases hr0 : r = 0
          · have e2 : m.tmod 10000 = (r : Int) := by rw [t2, hr0]; rfl
            clear hm0 hqr hr0 t2
            go_wp2_with (at_builtin; refine wpList_append_own _ rfl _ _ 39 rfl (w.heap.size + 1) 3 i0 (.int .i64 0) 1 8 Tryz.underlying39 hi hz0 hz1 hz2 rfl (by decide) _ _ _ rfl hown0 ⟨wr.heap.size, 0, none⟩ 1 1 [.int .i64 (r : Int)] rfl rfl (cell_one_new _ _ _) (by simp [Value.oneCell']) (by unfold maxLen; omega) (by omega) (by simp; omega) ?_; intro v' w1 hown' hgrow _)
            have hown2 := hown'
            rw [← dv_snoc] at hown2
            have HO := Lib.hid hown2
            have HBL := Lib.hid ((hbel.alloc (show w.heap.size + 1 ≤ wr.heap.size by omega) (.cells #[.int .i64 (r : Int)] 3)).grown hgrow (by simp; omega) (fun j e => (hown0.lt j e).1))
            go_roundw
            case rel => exact ⟨-(q : Int), k + 1, out ++ [r], rfl, CN.out, by show _ = _; simp [HL.out], hd.snoc hr1, HO.out, HBL.out, by show _ = _; simpa using ST.out, fun h => by have := HS1.out h; omega, fun h => by have := HS2.out h; omega⟩
            case measure => simp [intOf]; omega
          · have hr2 : (0 : Int) < (r : Int) := by omega
            have hr3 : (r : Int) < 10000 := by omega
            clear hm0 hqr hr0
            go_wp2_with (at_builtin; refine wpList_append_own _ rfl _ _ 39 rfl (w.heap.size + 1) 3 i0 (.int .i64 0) 1 8 Tryz.underlying39 hi hz0 hz1 hz2 rfl (by decide) _ _ _ rfl hown0 ⟨wr.heap.size, 0, none⟩ 1 1 [.int .i64 (r : Int)] rfl rfl (cell_one_new _ _ _) (by simp [Value.oneCell']) (by unfold maxLen; omega) (by omega) (by simp; omega) ?_; intro v' w1 hown' hgrow _)
            have hown2 := hown'
            rw [← dv_snoc] at hown2
            have HO := Lib.hid hown2
            have HBL := Lib.hid ((hbel.alloc (show w.heap.size + 1 ≤ wr.heap.size by omega) (.cells #[.int .i64 (r : Int)] 3)).grown hgrow (by simp; omega) (fun j e => (hown0.lt j e).1))
            go_roundw
            case rel => exact ⟨-(q : Int), k + 1, out ++ [r], rfl, CN.out, by show _ = _; simp [HL.out], hd.snoc hr1, HO.out, HBL.out, by show _ = _; simpa using ST.out, fun h => by have := HS1.out h; omega, fun h => by have := HS2.out h; omega⟩
            case measure => simp [intOf]; omega
end Go.Proofs.YtjjomjjgoceklaaGreat
