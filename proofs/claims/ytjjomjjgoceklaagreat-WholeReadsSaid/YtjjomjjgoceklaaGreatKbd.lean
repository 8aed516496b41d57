import Derived.Test.YtjjomjjgoceklaaGreatKbb
import Derived.Test.YtjjomjjgoceklaaGreatKad
import Derived.BigRegion
import Derived.IntWalk
import Derived.Laws.AppendOwnNone
import Derived.StillTailTactics
import Derived.Deep.Cut
namespace Go.Proofs.YtjjomjjgoceklaaGreat
set_option maxRecDepth 100000
open Go.RowKit

theorem rv_append (a b : List Nat) : rv (a ++ b) = rv a + 10000 ^ a.length * rv b := by
  induction a with
  | nil => simp [rv]
  | cons x r ih => simp only [List.cons_append, rv, ih, List.length_cons, Nat.pow_succ]; rw [Nat.mul_add, Nat.mul_comm (10000 ^ r.length) 10000, Nat.mul_assoc]; omega
theorem rv_len_lt {a b : List Nat} (ha : D4 a) (hb : Nrm b) (h : a.length < b.length) : rv a < rv b := by
  have h1 := rv_lt a ha
  have h2 := rv_ge b hb (by intro e; rw [e] at h; simp at h)
  have h3 : 10000 ^ a.length ≤ 10000 ^ (b.length - 1) := Nat.pow_le_pow_right (by decide) (by omega)
  omega
theorem rv_split (l : List Nat) (i : Nat) (h : i < l.length) : rv l = rv (l.take i) + 10000 ^ i * (l.getD i 0 + 10000 * rv (l.drop (i + 1))) := by
  have := rv_append (l.take i) (l.drop i)
  rw [List.take_append_drop, List.length_take, Nat.min_eq_left (Nat.le_of_lt h), drop_getD l i h] at this
  exact this
theorem rv_cmp_at {a b : List Nat} (ha : D4 a) (i : Nat) (hia : i < a.length) (hib : i < b.length) (hd : a.drop (i + 1) = b.drop (i + 1)) (hlt : a.getD i 0 < b.getD i 0) : rv a < rv b := by
  rw [rv_split a i hia, rv_split b i hib, hd]
  have h1 := rv_lt (a.take i) (fun x hx => ha x (List.mem_of_mem_take hx))
  rw [List.length_take, Nat.min_eq_left (Nat.le_of_lt hia)] at h1
  have h2 : 10000 ^ i * (a.getD i 0 + 10000 * rv (b.drop (i + 1)) + 1) ≤ 10000 ^ i * (b.getD i 0 + 10000 * rv (b.drop (i + 1))) := Nat.mul_le_mul_left _ (by omega)
  rw [Nat.mul_add (10000 ^ i) _ 1] at h2
  omega
/-- how far two numbers are compared -/
def Lg (a b : List Nat) (k : Nat) (d : Int) : Prop := (d = 0 ∧ a.length = b.length ∧ a.drop k = b.drop k) ∨ (d ≠ 0 ∧ -10000 ≤ d ∧ d ≤ 10000 ∧ (0 < d → rv b < rv a) ∧ (d < 0 → rv a < rv b))
def PLg (a b : Nat) (w : World) (e : Ending) (w' : World) : Prop := Below w.heap.size w w' ∧ e = .returned (.int .i64 (cmpN a b))
theorem PLg.ret {a b : Nat} {w w' : World} {n : Int} (hb : Below w.heap.size w w') (h : cmpN a b = n) : PLg a b w (.returned (.int .i64 n)) w' := ⟨hb, by rw [h]⟩
theorem D4.getD {l : List Nat} (h : D4 l) (i : Nat) : l.getD i 0 < 10000 := by
  rw [List.getD_eq_getElem?_getD]
  cases e : l[i]? with
  | none => simp
  | some x => exact h x (List.mem_of_getElem? e)
theorem castG (l : List Nat) (i : Nat) : (l.map fun (x : Nat) => (x : Int)).getD i 0 = ((l.getD i 0 : Nat) : Int) := by
  rw [List.getD_eq_getElem?_getD, List.getD_eq_getElem?_getD, List.getElem?_map]
  cases l[i]? <;> simp
/-- a number of the reference, opened: its groups and where they lie -/
theorem RZ.opened {w : World} {v : Value} {z : Int} (h : RZ w v z) : ∃ (gs : List Nat) (p : Option Addr) (c : Nat), v = .agg #[.int .i64 z.sign, .slice p gs.length c] ∧ gs.length ≤ 4096 ∧ gs.length ≤ c ∧ c ≤ maxLen ∧ D4 gs ∧ Nrm gs ∧ rv gs = z.natAbs ∧
    ∀ i, i < gs.length → ∃ b o : Nat, p = some ⟨b, o, none⟩ ∧ b < w.heap.size ∧ w.cell? ⟨b, o + i, none⟩ = some (.int .i64 ((gs.getD i 0 : Nat) : Int)) := by
  obtain ⟨gs, sl, rfl, h2, h3, h4, h5⟩ := h
  have hl := h2.1
  obtain ⟨p, c, rfl, hc, hm, hr⟩ := h2.opened _ (Nat.le_refl _)
  simp only [List.length_map] at hl hc
  refine ⟨gs, p, c, by simp, hl, hc, hm, h3, h4, h5, fun i hi => ?_⟩
  obtain ⟨b, o, hp, _, hb, hcell⟩ := hr i (by simpa using hi)
  exact ⟨b, o, hp, hb, by rw [castG] at hcell; exact hcell⟩

set_option maxRecDepth 100000 in
set_option maxHeartbeats 800000 in
theorem larger_any (va vb : Value) (y z : Int) (w : World) (ha : RZ w va y) (hb : RZ w vb z) : Calls Tryz.prog 126 #[va, vb] w (PLg y.natAbs z.natAbs w) := by
  obtain ⟨a, pa, ca, rfl, la, hca, hma, da, na, ra, hga⟩ := ha.opened
  obtain ⟨b, pb, cb, rfl, lb, hcb, hmb, db, nb, rb, hgb⟩ := hb.opened
  have NA := Lib.hid na; have NB := Lib.hid nb
  have RA := Lib.hid ra; have RB := Lib.hid rb
  have HGA := Lib.hid hga; have HGB := Lib.hid hgb
  have DA := Lib.hid da; have DB := Lib.hid db
  clear ha hb na nb hga hgb da db ra rb
  generalize hsy : y.sign = sy
  generalize hsz : z.sign = sz
  clear hsy hsz
  go_enter Tryz.func126, Tryz.ntmps126
  go_wp2
  go_loopw [5, 6] (fun d i wr => ∃ (k : Nat) (dd : Int), k ≤ a.length ∧ i = .int .i64 ((k : Int) - 1) ∧ d = .int .i64 dd ∧ Below (w.heap.size + 2) ((w.alloc (.cells #[.int .i64 sy, .slice pa a.length ca] 41)).alloc (.cells #[.int .i64 sz, .slice pb b.length cb] 41)) wr ∧ Hid (Lg a b k dd)) (fun _ i _ => (intOf i + 1).toNat)
  case atStart => exact ⟨a.length, (a.length : Int) - (b.length : Int), Nat.le_refl _, rfl, rfl, Below.refl _ _, by
    show _ ∨ _
    rcases Nat.lt_trichotomy a.length b.length with h | h | h
    · right; exact ⟨by omega, by omega, by omega, fun h1 => by omega, fun _ => rv_len_lt DA.out NB.out h⟩
    · left; exact ⟨by omega, h, by rw [List.drop_length, h, List.drop_length]⟩
    · right; exact ⟨by omega, by omega, by omega, fun _ => rv_len_lt DB.out NA.out h, fun h1 => by omega⟩⟩
  case round =>
    obtain ⟨k, dd, hk, rfl, rfl, hbel, HL⟩ := hrel
    have HB2 := Lib.hid ((bl2 w (.cells #[.int .i64 sy, .slice pa a.length ca] 41) (.cells #[.int .i64 sz, .slice pb b.length cb] 41)).trans (hbel.mono (by omega)))
    have x1 : wr.cell? ⟨w.heap.size, 1, none⟩ = some (.slice pa a.length ca) := (hbel.cell (p := ⟨w.heap.size, 1, none⟩) (show w.heap.size < w.heap.size + 2 by omega)).trans (by simp [go_sem, World.cell?_alloc_past])
    have y1 : wr.cell? ⟨w.heap.size + 1, 1, none⟩ = some (.slice pb b.length cb) := (hbel.cell (p := ⟨w.heap.size + 1, 1, none⟩) (show w.heap.size + 1 < w.heap.size + 2 by omega)).trans (by simp [go_sem])
    rcases HL.out with ⟨rfl, hlen, hdrop⟩ | ⟨hne, h1, h2, hgt, hlt⟩
    · have HE := Lib.hid hlen
      have HD := Lib.hid hdrop
      clear hlen hdrop
      cases k with
      | zero =>
        go_wp2
        go_ret
        exact PLg.ret HB2.out (cmpN_eq (by have := HD.out; simp only [List.drop_zero] at this; rw [← RA.out, ← RB.out, this]))
      | succ j =>
        have hjb : j < b.length := by have := HE.out; omega
        obtain ⟨ba, oa, rfl, hbl, hcell⟩ := HGA.out j (by omega)
        obtain ⟨bb, ob, rfl, hbl2, hcell2⟩ := HGB.out j hjb
        have e1 : ((j + 1 : Nat) : Int) - 1 = (j : Int) := by omega
        rw [e1]
        have c1 := (HB2.out.cell (p := ⟨ba, oa + j, none⟩) hbl).trans hcell
        have c2 := (HB2.out.cell (p := ⟨bb, ob + j, none⟩) hbl2).trans hcell2
        clear hcell hcell2 e1
        have b1 : (j : Int) < (a.length : Int) := by omega
        have b2 : (j : Int) < (b.length : Int) := by omega
        have CA := Lib.hid (fun hlt => rv_cmp_at (a := a) (b := b) DA.out j (by omega) hjb HD.out hlt)
        have CB := Lib.hid (fun hlt => rv_cmp_at (a := b) (b := a) DB.out j hjb (by omega) HD.out.symm hlt)
        have CE := Lib.hid (drop_getD a j (by omega))
        have CF := Lib.hid (drop_getD b j hjb)
        have hx9 := DA.out.getD j
        have hy9 := DB.out.getD j
        generalize hx : a.getD j 0 = x at *
        generalize hy : b.getD j 0 = y' at *
        clear hx hy
        have ST : Hid (Lg a b j ((x : Int) - (y' : Int))) := by
          show _ ∨ _
          rcases Nat.lt_trichotomy x y' with hxy | hxy | hxy
          · right; exact ⟨by omega, by omega, by omega, fun h => by omega, fun _ => CA.out hxy⟩
          · left; exact ⟨by omega, HE.out, by rw [CE.out, CF.out, HD.out, hxy]⟩
          · right; exact ⟨by omega, by omega, by omega, fun _ => CB.out hxy, fun h => by omega⟩
        go_wp2
        go_quiet (fail)
        go_wp2
        go_roundw
        case rel => exact ⟨j, (x : Int) - (y' : Int), by omega, rfl, rfl, below_drewN hbel _, ST.out⟩
        case measure => simp [intOf]
    · have n1 : (dd == 0) = false := by simpa using hne
      have n2 : (dd != 0) = true := by simpa using hne
      have HGT := Lib.hid hgt
      have HLT := Lib.hid hlt
      have HNE := Lib.hid hne
      by_cases hp : 0 < dd
      · have hc : cmpN y.natAbs z.natAbs = 1 := cmpN_gt (by have := HGT.out hp; rw [RA.out, RB.out] at this; exact this)
        have HC := Lib.hid hc
        clear hne hgt hlt hc
        cases k with
        | zero =>
          go_wp2
          go_ret
          exact PLg.ret HB2.out HC.out
        | succ j =>
          have e1 : ((j + 1 : Nat) : Int) - 1 = (j : Int) := by omega
          rw [e1]
          clear e1
          go_wp2
          go_ret
          exact PLg.ret HB2.out HC.out
      · have hn : dd < 0 := by omega
        have hc : cmpN y.natAbs z.natAbs = -1 := cmpN_lt (by have := HLT.out hn; rw [RA.out, RB.out] at this; exact this)
        have HC := Lib.hid hc
        clear hne hgt hlt hc hp
        cases k with
        | zero =>
          go_wp2
          go_ret
          exact PLg.ret HB2.out HC.out
        | succ j =>
          have e1 : ((j + 1 : Nat) : Int) - 1 = (j : Int) := by omega
          rw [e1]
          clear e1
          go_wp2
          go_ret
          exact PLg.ret HB2.out HC.out
end Go.Proofs.YtjjomjjgoceklaaGreat
namespace Go.Proofs.YtjjomjjgoceklaaGreat
set_option maxRecDepth 100000
open Go.RowKit

/-- block T is the box of a number of the reference -/
def Bz (T : Nat) (s : Int) (p : Option Addr) (l c : Nat) (w : World) : Prop := w.heap[T]? = some (.cells #[.int .i64 s, .slice p l c] 41 (0, 0))
theorem Bz.keep {T : Nat} {s : Int} {p : Option Addr} {l c B : Nat} {w w' : World} (h : Bz T s p l c w) (hb : Below B w w') (hT : T < B) : Bz T s p l c w' := (hb.block T hT).trans h
theorem Bz.cells {T : Nat} {s : Int} {p : Option Addr} {l c : Nat} {w : World} (h : Bz T s p l c w) : w.cell? ⟨T, 0, none⟩ = some (.int .i64 s) ∧ w.cell? ⟨T, 1, none⟩ = some (.slice p l c) ∧ w.frozen? ⟨T, 0, none⟩ = false ∧ w.frozen? ⟨T, 1, none⟩ = false := by
  have h' : w.heap[T]? = _ := h
  exact ⟨by simp [World.cell?, h'], by simp [World.cell?, h'], by simp [World.frozen?, h'], by simp [World.frozen?, h']⟩
theorem Bz.noI {T : Nat} {s : Int} {p : Option Addr} {l c : Nat} {w : World} (h : Bz T s p l c w) : NoI w T := ⟨_, _, _, h, by decide⟩
theorem Bz.set {T : Nat} {s : Int} {p : Option Addr} {l c : Nat} {w : World} (h : Bz T s p l c w) (s' : Int) (p' : Option Addr) (l' c' : Nat) :
    Bz T s' p' l' c' ((w.setCell ⟨T, 0, none⟩ (.int .i64 s')).setCell ⟨T, 1, none⟩ (.slice p' l' c')) := by
  have h' : w.heap[T]? = _ := h
  unfold Bz
  simp [World.setCell, Array.getElem?_modify, h']
theorem Bz.other {T U : Nat} {s : Int} {p : Option Addr} {l c : Nat} {w w' : World} (h : Bz T s p l c w) (hg : w.grownBy w' (some U)) (hne : T ≠ U) : Bz T s p l c w' :=
  (hg.block T (Array.getElem?_eq_some_iff.1 (show w.heap[T]? = _ from h)).1 (by intro e; cases e; exact hne rfl)).trans h
theorem Bz.grown {T : Nat} {s : Int} {p : Option Addr} {l c : Nat} {w w' : World} (h : Bz T s p l c w) (hg : w.grownBy w' none) : Bz T s p l c w' :=
  (hg.block T (Array.getElem?_eq_some_iff.1 (show w.heap[T]? = _ from h)).1 (by intro e; cases e)).trans h
theorem bz_new (w : World) (s : Int) (p : Option Addr) (l c : Nat) {T : Nat} (hT : T = w.heap.size) : Bz T s p l c (w.alloc (.cells #[.int .i64 s, .slice p l c] 41)) := by
  subst hT; exact Go.Deep.blk_alloc_new _ _
theorem Bz.alloc {T : Nat} {s : Int} {p : Option Addr} {l c : Nat} {w : World} (h : Bz T s p l c w) (o : Obj) : Bz T s p l c (w.alloc o) := h.grown (World.grownBy_alloc w o none)
/-- integers as values -/
def vi (l : List Int) : List Value := l.map (Value.int .i64)
theorem dv_vi (l : List Nat) : dv l = vi (l.map fun (x : Nat) => (x : Int)) := by simp [dv, vi]
theorem SlI.of_ownI {w : World} {base cnt : Nat} {v : Value} {l : List Int} (h : w.ownsRow base 3 1 v cnt (vi l)) (hl : l.length ≤ 4096) : SlI w v l := by
  have hn : l.length = cnt := by have := h.1; simpa [vi] using this
  subst hn
  obtain ⟨_, ⟨rfl, h0⟩ | ⟨g, cap, cur, rfl, _, hg, hc, hm, hs, ht⟩⟩ := h
  · have : l = [] := List.length_eq_zero_iff.1 h0
    subst this
    exact ⟨by simp, .inl ⟨rfl, rfl⟩⟩
  · refine ⟨hl, .inr ⟨g, 0, cap, rfl, hc, hm, ⟨cur, hg⟩, fun i hi => ?_⟩⟩
    have h1 : cur.toList[i]? = some (.int .i64 (l.getD i 0)) := by
      have h2 : (cur.toList.take (l.length * 1))[i]? = (vi l)[i]? := by rw [ht]
      rw [List.getElem?_take_of_lt (by omega)] at h2
      rw [h2]
      simp [vi, hi, List.getD_eq_getElem?_getD]
    unfold World.cell?
    dsimp only
    rw [hg, Nat.zero_add]
    simpa using h1
theorem iv_set (l : List Int) (k : Nat) (v : Int) (h : k < l.length) : iv (l.set k v) = iv l + 10000 ^ k * (v - l.getD k 0) := by
  induction l generalizing k with
  | nil => simp at h
  | cons x r ih =>
    cases k with
    | zero => simp [iv]; omega
    | succ k =>
      simp only [List.set_cons_succ, iv, List.getD_cons_succ]
      rw [ih k (by simpa using h), Int.pow_succ, Int.mul_add, Int.mul_comm (10000 ^ k) 10000, Int.mul_assoc]
      omega
theorem getD_set (l : List Int) (k i : Nat) (v : Int) (h : k < l.length) : (l.set k v).getD i 0 = if i = k then v else l.getD i 0 := by
  rw [List.getD_eq_getElem?_getD, List.getElem?_set]
  by_cases e : k = i
  · subst e; simp [h]
  · rw [if_neg e, if_neg (fun h => e h.symm), List.getD_eq_getElem?_getD]
/-- a number of the reference of not too many groups -/
def Sr (z : Int) : Prop := ∃ k, k ≤ 900 ∧ z.natAbs < 10000 ^ k
theorem Sr.len {z : Int} {gs : List Nat} (h : Sr z) (hn : Nrm gs) (hv : rv gs = z.natAbs) : gs.length ≤ 900 := by
  obtain ⟨k, hk, h1⟩ := h
  by_cases he : gs = []
  · subst he; simp
  · have h2 := rv_ge gs hn he
    rcases Nat.lt_or_ge k gs.length with h3 | h3
    · have h4 : 10000 ^ k ≤ 10000 ^ (gs.length - 1) := Nat.pow_le_pow_right (by decide) (by omega)
      omega
    · omega
/-- a of absolute value at least that of b: their sum, from absolute values -/
theorem sum_abs (y z : Int) (h : z.natAbs ≤ y.natAbs) : (y + z).natAbs = ((y.natAbs : Int) + y.sign * z.sign * z.natAbs).toNat ∧ 0 ≤ (y.natAbs : Int) + y.sign * z.sign * z.natAbs ∧ (y + z ≠ 0 → y.sign = (y + z).sign) := by
  rcases Int.lt_trichotomy y 0 with hy | hy | hy <;> rcases Int.lt_trichotomy z 0 with hz | hz | hz
  all_goals
    (try subst hy) <;> (try subst hz)
    simp only [Int.sign_eq_neg_one_of_neg, Int.sign_eq_one_of_pos, Int.sign_zero, *]
    refine ⟨by omega, by omega, fun hne => ?_⟩
    first
      | (exfalso; omega)
      | (rw [Int.sign_eq_neg_one_of_neg (by omega)])
      | (rw [Int.sign_eq_one_of_pos (by omega)])
      | omega
end Go.Proofs.YtjjomjjgoceklaaGreat
namespace Go.Proofs.YtjjomjjgoceklaaGreat
set_option maxRecDepth 100000
open Go.RowKit

theorem dv_cells {W : World} {b o : Nat} {l : List Nat} (h : ∀ i, i < l.length → W.cell? ⟨b, o + i, none⟩ = some (.int .i64 ((l.getD i 0 : Nat) : Int))) : ∀ (j : Nat) (u : Value), (dv l)[j]? = some u → W.cell? (Addr.add ⟨b, o, none⟩ j) = some u := by
  intro j u hj
  have hjl : j < l.length := by have := (List.getElem?_eq_some_iff.1 hj).1; simpa [dv] using this
  have e : Addr.add ⟨b, o, none⟩ j = ⟨b, o + j, none⟩ := by unfold Addr.add; split <;> simp_all
  rw [e, h j hjl, ← hj]
  simp [dv, hjl, List.getD_eq_getElem?_getD]
theorem ownsRow_succ' {W : World} {base : Nat} {e : TypeId} {size : Nat} {v : Value} {k : Nat} {xs : List Value} (h : W.ownsRow base e size v (k + 1) xs) : ∃ g cap, v = .slice (some ⟨g, 0, none⟩) (k + 1) cap := by
  rcases h.2 with ⟨_, h0⟩ | ⟨g, cap, _, rfl, _⟩
  · omega
  · exact ⟨g, cap, rfl⟩
theorem RZ.shape {w : World} {s : Int} {p : Option Addr} {l c : Nat} {z : Int} (h : RZ w (.agg #[.int .i64 s, .slice p l c]) z) : (p = none ∧ c = 0) ∨ ∃ ad, p = some ad := by
  obtain ⟨gs, sl, e, ⟨_, hs⟩, _⟩ := h
  have e2 : sl = .slice p l c := by simp at e; exact e.2.symm
  rcases hs with ⟨h1, _⟩ | ⟨b, o, cap, h1, _⟩
  · rw [e2] at h1; cases h1; exact .inl ⟨rfl, rfl⟩
  · rw [e2] at h1; cases h1; exact .inr ⟨_, rfl⟩
theorem dv_one (l : List Nat) : ∀ u ∈ dv l, u.oneCell' = true := by
  intro u hu
  simp only [dv, List.mem_map] at hu
  obtain ⟨x, _, rfl⟩ := hu
  rfl
/-- the groups of a sum behind k groups of b -/
def Gk (a b : List Nat) (s : Int) (k : Nat) (xs : List Int) : Prop := xs.length = a.length ∧ iv xs = (rv a : Int) + s * (rv (b.take k) : Int) ∧ (∀ i, k ≤ i → xs.getD i 0 = ((a.getD i 0 : Nat) : Int)) ∧ (∀ i, -20000 ≤ xs.getD i 0 ∧ xs.getD i 0 ≤ 20000)
theorem Gk.zero {a b : List Nat} {s : Int} (h : D4 a) : Gk a b s 0 (a.map fun (x : Nat) => (x : Int)) :=
  ⟨by simp, by rw [iv_cast]; simp [rv], fun i _ => castG a i, fun i => by rw [castG]; have := h.getD i; omega⟩
theorem Gk.step {a b : List Nat} {s : Int} {k : Nat} {xs : List Int} {t : Int} (h : Gk a b s k xs) (ha : D4 a) (hk : k < a.length) (ht : s * ((b.getD k 0 : Nat) : Int) = t) (ht1 : -9999 ≤ t) (ht2 : t ≤ 9999) : Gk a b s (k + 1) (xs.set k (xs.getD k 0 + t)) := by
  obtain ⟨h1, h2, h3, h4⟩ := h
  refine ⟨by simpa using h1, ?_, fun i hi => ?_, fun i => ?_⟩
  · rw [iv_set _ _ _ (by omega), h2, rv_take_succ]
    rw [show xs.getD k 0 + t - xs.getD k 0 = t by omega, ← ht]
    simp only [Int.natCast_add, Int.natCast_mul, Int.natCast_pow, Int.mul_add]
    rw [← Int.mul_assoc (10000 ^ k), Int.mul_comm (10000 ^ k) s, Int.mul_assoc]
    simp
    omega
  · rw [getD_set _ _ _ _ (by omega), if_neg (by omega)]; exact h3 i (by omega)
  · rw [getD_set _ _ _ _ (by omega)]
    split
    · have := h3 k (Nat.le_refl _)
      have := ha.getD k
      omega
    · exact h4 i
theorem sgn_mul (y z : Int) : y.sign * z.sign = -1 ∨ y.sign * z.sign = 0 ∨ y.sign * z.sign = 1 := by
  rcases Int.lt_trichotomy y 0 with hy | hy | hy <;> rcases Int.lt_trichotomy z 0 with hz | hz | hz
  all_goals
    (try subst hy) <;> (try subst hz)
    simp [Int.sign_eq_neg_one_of_neg, Int.sign_eq_one_of_pos, *]
set_option maxRecDepth 100000 in
set_option maxHeartbeats 1600000 in
theorem zaddr_ge (va vb : Value) (y z : Int) (w : World) (ha : RZ w va y) (hb : RZ w vb z) (hle : z.natAbs ≤ y.natAbs) (sy : Sr y) (sz : Sr z) : Calls Tryz.prog 98 #[va, vb] w (PRZ (y + z) w) := by
  obtain ⟨i0, hi, hz0, hz1, hz2⟩ := info_parts Tryz.info3
  obtain ⟨a, pa, ca, rfl, la, hca, hma, da, na, ra, hga⟩ := ha.opened
  obtain ⟨b, pb, cb, rfl, lb, hcb, hmb, db, nb, rb, hgb⟩ := hb.opened
  have la := sy.len na ra
  have lb := sz.len nb rb
  have hll : b.length ≤ a.length := by
    rcases Nat.lt_or_ge a.length b.length with h | h
    · have := rv_len_lt da nb h; omega
    · exact h
  obtain ⟨sa, sb, sc⟩ := sum_abs y z hle
  have SA := Lib.hid sa; have SB := Lib.hid sb; have SC := Lib.hid sc
  have HA := Lib.hid ha; have HB := Lib.hid hb
  have NA := Lib.hid na; have NB := Lib.hid nb
  have RA := Lib.hid ra; have RB := Lib.hid rb
  have HGA := Lib.hid hga; have HGB := Lib.hid hgb
  have DA := Lib.hid da; have DB := Lib.hid db
  have hcmp : 0 ≤ cmpN y.natAbs z.natAbs := by unfold cmpN; split <;> (try split) <;> omega
  clear ha hb na nb hga hgb da db ra rb sa sb sc hle
  go_enter Tryz.func98, Tryz.ntmps98
  go_wp2_with fail
  refine (larger_any _ _ y z _ (HA.out.keep (bl3 _ _ _ _) (Nat.le_refl _)) (HB.out.keep (bl3 _ _ _ _) (Nat.le_refl _))).mono ?_
  rintro e w1 ⟨hb1, rfl⟩
  generalize cmpN y.natAbs z.natAbs = cm at *
  have k1 := Below.thru (bl3 w (.cells #[.int .i64 y.sign, .slice pa a.length ca] 41) (.cells #[.int .i64 z.sign, .slice pb b.length cb] 41) (.cells #[.int .i64 0, .slice none 0 0] 41)) (by simp; omega) hb1
  have z1 : w.heap.size + 1 + 1 + 1 ≤ w1.heap.size := Nat.le_trans (by simp) hb1.size
  have X0 : Bz w.heap.size y.sign pa a.length ca w1 := (((bz_new w _ _ _ _ rfl).alloc _).alloc _).keep hb1 (by simp; omega)
  have X1 : Bz (w.heap.size + 1) z.sign pb b.length cb w1 := ((bz_new (w.alloc _) _ _ _ _ (by simp)).alloc _).keep hb1 (by simp)
  have X2 : Bz (w.heap.size + 1 + 1) 0 none 0 0 w1 := (bz_new ((w.alloc _).alloc _) _ _ _ _ (by simp)).keep hb1 (by simp)
  clear hb1
  obtain ⟨q1, q2, q3, q4⟩ := X0.cells
  have K1 := Lib.hid k1
  rcases Nat.eq_zero_or_pos a.length with h0 | h0
  · obtain rfl : a = [] := List.length_eq_zero_iff.1 h0
    obtain rfl : b = [] := List.length_eq_zero_iff.1 (by omega)
    have HY0 : Hid (y = 0) := by have := RA.out; simp only [rv] at this; show _ = _; omega
    have HZ0 : Hid (z = 0) := by have := RB.out; simp only [rv] at this; show _ = _; omega
    rcases HA.out.shape with ⟨rfl, rfl⟩ | ⟨ad, rfl⟩
    · go_wp2_with (at_builtin; refine wpList_append_own_none rfl _ _ 39 rfl (w.heap.size + 1 + 1 + 1) 3 i0 1 Tryz.underlying39 hi _ _ _ rfl (World.ownsRow_nil _ _ _ _) rfl ?_)
      clear q1 q2 q3 q4
      obtain ⟨q5, q6, _, _⟩ := X1.cells
      go_wp2
      go_loopw [6] (fun i wr => i = .int .i64 0 ∧ wr = w1) (fun _ _ => 0)
      case atStart => exact ⟨rfl, rfl⟩
      case round =>
        obtain ⟨rfl, rfl⟩ := hrel
        obtain ⟨q1, q2, q3, q4⟩ := X0.cells
        go_wp2_with fail
        refine (made_any _ _ [] _ ⟨by simp, .inl ⟨rfl, rfl⟩⟩ (fun i => by simp) (by simp [iv]) (by simp)).mono ?_
        rintro e w3 ⟨hb3, v3, rfl, h3⟩
        rw [show (iv []).toNat = (y + z).natAbs by rw [HY0.out, HZ0.out]; rfl] at h3
        have HZ := Lib.hid (h3.toZ (fun h => absurd (by rw [HY0.out, HZ0.out]; rfl) h))
        clear h3
        have R3 := X2.keep hb3 (by omega)
        obtain ⟨m1, m2, m3, m4⟩ := R3.cells
        have kf := k1.trans (hb3.mono k1.size)
        obtain ⟨pz, lz, cz, rfl⟩ := HZ.out.agg
        obtain ⟨g1, g2⟩ := two_cells m1 m2 (.int .i64 (y + z).sign) (.slice pz lz cz)
        have HF := Lib.hid (HZ.out.store R3.noI (grown2 w3 (w.heap.size + 1 + 1) 0 1 (.int .i64 (y + z).sign) (.slice pz lz cz)))
        clear hb3 q1 q2 q3 q4 q5 q6
        go_wp2
        exact bodyPost_ret (v := .agg #[.int .i64 (y + z).sign, .slice pz lz cz]) (by simp [results, Tryz.results98, go_sem, g1, g2]) rfl ⟨(kf.setCell (by simp; omega) _).setCell (by simp; omega) _, _, rfl, HF.out⟩
    · go_wp2_with (at_builtin; refine wpList_append_own _ rfl _ _ 39 rfl (w.heap.size + 1 + 1 + 1) 3 i0 (.int .i64 0) 1 8 Tryz.underlying39 hi hz0 hz1 hz2 rfl (by decide) _ _ _ rfl (World.ownsRow_nil _ _ _ _) ad 0 ca [] rfl rfl (by simp) (by simp) (by unfold maxLen; omega) (by omega) z1 ?_; intro v' w2 hown hgrow hn)
      have hv' : v' = .slice none 0 0 := by first | exact hn.2 rfl | exact hn.2 ⟨rfl, trivial⟩ | exact hn.2 ⟨rfl, rfl⟩
      subst hv'
      have hgr : w1.grownBy w2 none := hgrow
      clear hgrow hown hn
      have Y0 := X0.grown hgr
      have Y1 := X1.grown hgr
      have Y2 := X2.grown hgr
      have hgs := hgr.size
      have k2 := k1.grown hgr k1.size (fun j e => by cases e)
      clear k1 X0 X1 X2
      clear q1 q2 q3 q4
      obtain ⟨q5, q6, _, _⟩ := Y1.cells
      go_wp2
      go_loopw [6] (fun i wr => i = .int .i64 0 ∧ wr = w2) (fun _ _ => 0)
      case atStart => exact ⟨rfl, rfl⟩
      case round =>
        obtain ⟨rfl, rfl⟩ := hrel
        obtain ⟨q1, q2, q3, q4⟩ := Y0.cells
        go_wp2_with fail
        refine (made_any _ _ [] _ ⟨by simp, .inl ⟨rfl, rfl⟩⟩ (fun i => by simp) (by simp [iv]) (by simp)).mono ?_
        rintro e w3 ⟨hb3, v3, rfl, h3⟩
        rw [show (iv []).toNat = (y + z).natAbs by rw [HY0.out, HZ0.out]; rfl] at h3
        have HZ := Lib.hid (h3.toZ (fun h => absurd (by rw [HY0.out, HZ0.out]; rfl) h))
        clear h3
        have R3 := Y2.keep hb3 (by omega)
        obtain ⟨m1, m2, m3, m4⟩ := R3.cells
        have kf := k2.trans (hb3.mono k2.size)
        obtain ⟨pz, lz, cz, rfl⟩ := HZ.out.agg
        obtain ⟨g1, g2⟩ := two_cells m1 m2 (.int .i64 (y + z).sign) (.slice pz lz cz)
        have HF := Lib.hid (HZ.out.store R3.noI (grown2 w3 (w.heap.size + 1 + 1) 0 1 (.int .i64 (y + z).sign) (.slice pz lz cz)))
        clear hb3 q1 q2 q3 q4 q5 q6
        go_wp2
        exact bodyPost_ret (v := .agg #[.int .i64 (y + z).sign, .slice pz lz cz]) (by simp [results, Tryz.results98, go_sem, g1, g2]) rfl ⟨(kf.setCell (by simp; omega) _).setCell (by simp; omega) _, _, rfl, HF.out⟩
  · obtain ⟨ba, oa, rfl, hba, _⟩ := HGA.out 0 h0
    have HCA := Lib.hid (fun (i : Nat) (h : i < a.length) => by
      obtain ⟨b', o', he, hb', hc'⟩ := HGA.out i h
      cases he
      exact (K1.out.cell (p := ⟨ba, oa + i, none⟩) hb').trans hc')
    go_wp2_with (at_builtin; refine wpList_append_own _ rfl _ _ 39 rfl (w.heap.size + 1 + 1 + 1) 3 i0 (.int .i64 0) 1 8 Tryz.underlying39 hi hz0 hz1 hz2 rfl (by decide) _ _ _ rfl (World.ownsRow_nil _ _ _ _) ⟨ba, oa, none⟩ a.length ca (dv a) rfl (by simp [dv]) (dv_cells HCA.out) (dv_one a) (by unfold maxLen; omega) (by omega) z1 ?_; intro v' w2 hown hgrow _)
    have hgr : w1.grownBy w2 none := hgrow
    clear hgrow
    simp only [Nat.zero_add, List.nil_append] at hown
    obtain ⟨g, cap, rfl⟩ : ∃ g cap, v' = .slice (some ⟨g, 0, none⟩) a.length cap := by
      obtain ⟨n', hn'⟩ : ∃ n', a.length = n' + 1 := ⟨a.length - 1, by omega⟩
      rw [hn'] at hown ⊢
      exact ownsRow_succ' hown
    rw [dv_vi] at hown
    have HO := Lib.hid hown
    have Y0 := X0.grown hgr
    have Y1 := X1.grown hgr
    have Y2 := X2.grown hgr
    have hgs := hgr.size
    have k2 := k1.grown hgr k1.size (fun j e => by cases e)
    have K2 := Lib.hid k2
    obtain ⟨s1, hs1⟩ : ∃ s1, y.sign * z.sign = s1 := ⟨_, rfl⟩
    have hs2 : -1 ≤ s1 ∧ s1 ≤ 1 := by have := sgn_mul y z; omega
    have HS1 := Lib.hid hs1
    have hy1 : -1 ≤ y.sign ∧ y.sign ≤ 1 := by rcases Int.lt_trichotomy y 0 with h | h | h <;> simp [Int.sign_eq_neg_one_of_neg, Int.sign_eq_one_of_pos, h]
    have hz1' : -1 ≤ z.sign ∧ z.sign ≤ 1 := by rcases Int.lt_trichotomy z 0 with h | h | h <;> simp [Int.sign_eq_neg_one_of_neg, Int.sign_eq_one_of_pos, h]
    generalize hsy : y.sign = ys at *
    generalize hsz : z.sign = zs at *
    have HSY := Lib.hid hsy
    have HSZ := Lib.hid hsz
    clear hs1 hsy hsz hown q1 q2 q3 q4 X0 X1 X2 k1 HCA
    obtain ⟨q5, q6, _, _⟩ := Y1.cells
    go_loopw [6] (fun i wr => ∃ (k : Nat) (xs : List Int), k ≤ b.length ∧ i = .int .i64 k ∧ Below (w.heap.size + 1 + 1 + 1) w2 wr ∧ wr.ownsRow (w.heap.size + 1 + 1 + 1) 3 1 (.slice (some ⟨g, 0, none⟩) a.length cap) a.length (vi xs) ∧ Hid (Gk a b s1 k xs)) (fun i _ => b.length - (intOf i).toNat)
    case atStart => exact ⟨0, _, Nat.zero_le _, rfl, Below.refl _ _, HO.out, Gk.zero DA.out⟩
    case round =>
      obtain ⟨k, xs, hk, rfl, hbel, hown, HG⟩ := hrel
      have R0 := Y0.keep hbel (by omega)
      have R1 := Y1.keep hbel (by omega)
      have R2 := Y2.keep hbel (by omega)
      have kr := K2.out.trans (hbel.mono (by omega))
      obtain ⟨t1, t2, t3, t4⟩ := R0.cells
      obtain ⟨t5, t6, t7, t8⟩ := R1.cells
      obtain ⟨t9, t10, t11, t12⟩ := R2.cells
      have hbsz := hbel.size
      by_cases hlt : k < b.length
      · obtain ⟨bb, ob, rfl, hbb, hcb'⟩ := HGB.out k hlt
        have c1 := (kr.cell (p := ⟨bb, ob + k, none⟩) hbb).trans hcb'
        have c2 : wr.cell? ⟨g, k, none⟩ = some (.int .i64 (xs.getD k 0)) := by
          have hl := HG.out.1
          rw [hown.cellAt k (by omega)]
          simp [vi, List.getD_eq_getElem?_getD, show k < xs.length by omega]
        have c3 := hown.frozenAt k
        obtain ⟨t, ht⟩ : ∃ t, s1 * ((b.getD k 0 : Nat) : Int) = t := ⟨_, rfl⟩
        have hb9 := DB.out.getD k
        have ht1 : -9999 ≤ t ∧ t ≤ 9999 := by
          have := sgn_mul y z
          have h1 := HS1.out
          have h2 := HSY.out
          have h3 := HSZ.out
          rw [h2, h3, h1] at this
          rcases this with h | h | h <;> rw [h] at ht <;> omega
        have hx9 := HG.out.2.2.2 k
        have ST := Lib.hid (HG.out.step DA.out (by omega) ht ht1.1 ht1.2)
        have hst := (hown.stored k (.int .i64 (xs.getD k 0 + t))).1
        rw [show (vi xs).set k (.int .i64 (xs.getD k 0 + t)) = vi (xs.set k (xs.getD k 0 + t)) by simp [vi]] at hst
        have HST := Lib.hid hst
        have hgg := (hown.lt g rfl).1
        have HB2 := Lib.hid (hbel.setCell (p := ⟨g, k, none⟩) hgg (.int .i64 (xs.getD k 0 + t)))
        generalize xs.getD k 0 = x at *
        have e1 : IntKind.i64.wrap (ys * zs) = s1 := by rw [HS1.out]; exact IntWalk.i64_in _ (by omega)
        have e2 : IntKind.i64.wrap (s1 * ((b.getD k 0 : Nat) : Int)) = t := by rw [ht]; exact IntWalk.i64_in _ (by omega)
        have e3 : IntKind.i64.wrap (x + t) = x + t := IntWalk.i64_in _ (by omega)
        generalize b.getD k 0 = bk at *
        have hk1 : (k : Int) < (a.length : Int) := by omega
        have hk2 : (k : Int) < (b.length : Int) := by omega
        have hk3 : k < a.length := by omega
        clear ht hst hcb'
        go_wp2
        go_still_tail 19, (by kernel_rfl)
        go_wp2
        go_roundw
        case rel => exact ⟨k + 1, xs.set k (x + t), by omega, by go_num, HB2.out.drew, HST.out.drew, ST.out⟩
        case measure => simp [intOf]; omega
      · obtain rfl : k = b.length := by omega
        have HSL := Lib.hid (SlI.of_ownI hown (by have := HG.out.1; omega))
        have HV : Hid (iv xs = (y.natAbs : Int) + ys * zs * z.natAbs) := by
          have h := HG.out.2.1
          rw [List.take_length, RA.out, RB.out] at h
          show _ = _
          rw [h, HS1.out]
        have HL : Hid (xs.length ≤ 2000) := by have := HG.out.1; show _ ≤ _; omega
        clear hown
        go_wp2_with fail
        refine (made_any _ _ _ _ HSL.out (fun i => by have := HG.out.2.2.2 i; omega) (by rw [HV.out]; exact SB.out) HL.out).mono ?_
        rintro e w3 ⟨hb3, v3, rfl, h3⟩
        rw [HV.out, ← SA.out] at h3
        have HZ := Lib.hid (h3.toZ SC.out)
        clear h3
        have R3 := R2.keep hb3 (by omega)
        obtain ⟨m1, m2, m3, m4⟩ := R3.cells
        have kf := kr.trans (hb3.mono (by omega))
        obtain ⟨pz, lz, cz, rfl⟩ := HZ.out.agg
        obtain ⟨g1, g2⟩ := two_cells m1 m2 (.int .i64 (y + z).sign) (.slice pz lz cz)
        have HF := Lib.hid (HZ.out.store R3.noI (grown2 w3 (w.heap.size + 1 + 1) 0 1 (.int .i64 (y + z).sign) (.slice pz lz cz)))
        clear hb3 t1 t2 t3 t4 t5 t6 t7 t8 t9 t10 t11 t12
        go_wp2
        exact bodyPost_ret (v := .agg #[.int .i64 (y + z).sign, .slice pz lz cz]) (by simp [results, Tryz.results98, go_sem, g1, g2]) rfl ⟨(kf.setCell (by simp; omega) _).setCell (by simp; omega) _, _, rfl, HF.out⟩
end Go.Proofs.YtjjomjjgoceklaaGreat
namespace Go.Proofs.YtjjomjjgoceklaaGreat
set_option maxRecDepth 100000
open Go.RowKit

set_option maxRecDepth 100000 in
set_option maxHeartbeats 1600000 in
theorem zaddr_lt (va vb : Value) (y z : Int) (w : World) (hb : RZ w va z) (ha : RZ w vb y) (hle' : z.natAbs < y.natAbs) (sy : Sr y) (sz : Sr z) : Calls Tryz.prog 98 #[va, vb] w (PRZ (y + z) w) := by
  obtain ⟨i0, hi, hz0, hz1, hz2⟩ := info_parts Tryz.info3
  have hle : z.natAbs ≤ y.natAbs := by omega
  obtain ⟨a, pa, ca, rfl, la, hca, hma, da, na, ra, hga⟩ := ha.opened
  obtain ⟨b, pb, cb, rfl, lb, hcb, hmb, db, nb, rb, hgb⟩ := hb.opened
  have la := sy.len na ra
  have lb := sz.len nb rb
  have hll : b.length ≤ a.length := by
    rcases Nat.lt_or_ge a.length b.length with h | h
    · have := rv_len_lt da nb h; omega
    · exact h
  obtain ⟨sa, sb, sc⟩ := sum_abs y z hle
  have SA := Lib.hid sa; have SB := Lib.hid sb; have SC := Lib.hid sc
  have HA := Lib.hid ha; have HB := Lib.hid hb
  have NA := Lib.hid na; have NB := Lib.hid nb
  have RA := Lib.hid ra; have RB := Lib.hid rb
  have HGA := Lib.hid hga; have HGB := Lib.hid hgb
  have DA := Lib.hid da; have DB := Lib.hid db
  have hcmp : cmpN z.natAbs y.natAbs = -1 := cmpN_lt hle'
  have HCM := Lib.hid hcmp
  clear ha hb na nb hga hgb da db ra rb sa sb sc hle hle' hcmp
  go_enter Tryz.func98, Tryz.ntmps98
  go_wp2_with fail
  refine (larger_any _ _ z y _ (HB.out.keep (bl3 _ _ _ _) (Nat.le_refl _)) (HA.out.keep (bl3 _ _ _ _) (Nat.le_refl _))).mono ?_
  rintro e w0 ⟨hb1, he⟩
  rw [HCM.out] at he
  subst he
  have k0 := Below.thru (bl3 w (.cells #[.int .i64 z.sign, .slice pb b.length cb] 41) (.cells #[.int .i64 y.sign, .slice pa a.length ca] 41) (.cells #[.int .i64 0, .slice none 0 0] 41)) (by simp; omega) hb1
  have z0 : w.heap.size + 1 + 1 + 1 ≤ w0.heap.size := Nat.le_trans (by simp) hb1.size
  have U0 : Bz w.heap.size z.sign pb b.length cb w0 := (((bz_new w _ _ _ _ rfl).alloc _).alloc _).keep hb1 (by simp; omega)
  have U1 : Bz (w.heap.size + 1) y.sign pa a.length ca w0 := ((bz_new (w.alloc _) _ _ _ _ (by simp)).alloc _).keep hb1 (by simp)
  have U2 : Bz (w.heap.size + 1 + 1) 0 none 0 0 w0 := (bz_new ((w.alloc _).alloc _) _ _ _ _ (by simp)).keep hb1 (by simp)
  clear hb1
  obtain ⟨q1, q2, q3, q4⟩ := U0.cells
  obtain ⟨q5, q6, q7, q8⟩ := U1.cells
  go_upto_region 3 with fail
  have grA := grown2 w0 w.heap.size 0 1 (.int .i64 y.sign) (.slice pa a.length ca)
  have V0 := U0.set y.sign pa a.length ca
  have V1 := U1.other grA (by omega)
  have V2 := U2.other grA (by omega)
  have kA := (k0.setCell (p := ⟨w.heap.size, 0, none⟩) (Nat.le_refl _) (.int .i64 y.sign)).setCell (p := ⟨w.heap.size, 1, none⟩) (Nat.le_refl _) (.slice pa a.length ca)
  have zA := Nat.le_trans z0 grA.size
  generalize (w0.setCell ⟨w.heap.size, 0, none⟩ (.int .i64 y.sign)).setCell ⟨w.heap.size, 1, none⟩ (.slice pa a.length ca) = wA at *
  have grB := grown2 wA (w.heap.size + 1) 0 1 (.int .i64 z.sign) (.slice pb b.length cb)
  have X1 := V1.set z.sign pb b.length cb
  have X0 := V0.other grB (by omega)
  have X2 := V2.other grB (by omega)
  have k1 := (kA.setCell (p := ⟨w.heap.size + 1, 0, none⟩) (by simp) (.int .i64 z.sign)).setCell (p := ⟨w.heap.size + 1, 1, none⟩) (by simp) (.slice pb b.length cb)
  have z1 := Nat.le_trans zA grB.size
  generalize (wA.setCell ⟨w.heap.size + 1, 0, none⟩ (.int .i64 z.sign)).setCell ⟨w.heap.size + 1, 1, none⟩ (.slice pb b.length cb) = w1 at *
  clear grA grB V0 V1 V2 kA zA U0 U1 U2 k0 z0 q1 q2 q3 q4 q5 q6 q7 q8
  obtain ⟨q1, q2, q3, q4⟩ := X0.cells
  have K1 := Lib.hid k1
  rcases Nat.eq_zero_or_pos a.length with h0 | h0
  · obtain rfl : a = [] := List.length_eq_zero_iff.1 h0
    obtain rfl : b = [] := List.length_eq_zero_iff.1 (by omega)
    have HY0 : Hid (y = 0) := by have := RA.out; simp only [rv] at this; show _ = _; omega
    have HZ0 : Hid (z = 0) := by have := RB.out; simp only [rv] at this; show _ = _; omega
    rcases HA.out.shape with ⟨rfl, rfl⟩ | ⟨ad, rfl⟩
    · go_wp2_with (at_builtin; refine wpList_append_own_none rfl _ _ 39 rfl (w.heap.size + 1 + 1 + 1) 3 i0 1 Tryz.underlying39 hi _ _ _ rfl (World.ownsRow_nil _ _ _ _) rfl ?_)
      clear q1 q2 q3 q4
      obtain ⟨q5, q6, _, _⟩ := X1.cells
      go_wp2
      go_loopw [6] (fun i wr => i = .int .i64 0 ∧ wr = w1) (fun _ _ => 0)
      case atStart => exact ⟨rfl, rfl⟩
      case round =>
        obtain ⟨rfl, rfl⟩ := hrel
        obtain ⟨q1, q2, q3, q4⟩ := X0.cells
        go_wp2_with fail
        refine (made_any _ _ [] _ ⟨by simp, .inl ⟨rfl, rfl⟩⟩ (fun i => by simp) (by simp [iv]) (by simp)).mono ?_
        rintro e w3 ⟨hb3, v3, rfl, h3⟩
        rw [show (iv []).toNat = (y + z).natAbs by rw [HY0.out, HZ0.out]; rfl] at h3
        have HZ := Lib.hid (h3.toZ (fun h => absurd (by rw [HY0.out, HZ0.out]; rfl) h))
        clear h3
        have R3 := X2.keep hb3 (by omega)
        obtain ⟨m1, m2, m3, m4⟩ := R3.cells
        have kf := k1.trans (hb3.mono k1.size)
        obtain ⟨pz, lz, cz, rfl⟩ := HZ.out.agg
        obtain ⟨g1, g2⟩ := two_cells m1 m2 (.int .i64 (y + z).sign) (.slice pz lz cz)
        have HF := Lib.hid (HZ.out.store R3.noI (grown2 w3 (w.heap.size + 1 + 1) 0 1 (.int .i64 (y + z).sign) (.slice pz lz cz)))
        clear hb3 q1 q2 q3 q4 q5 q6
        go_wp2
        exact bodyPost_ret (v := .agg #[.int .i64 (y + z).sign, .slice pz lz cz]) (by simp [results, Tryz.results98, go_sem, g1, g2]) rfl ⟨(kf.setCell (by simp; omega) _).setCell (by simp; omega) _, _, rfl, HF.out⟩
    · go_wp2_with (at_builtin; refine wpList_append_own _ rfl _ _ 39 rfl (w.heap.size + 1 + 1 + 1) 3 i0 (.int .i64 0) 1 8 Tryz.underlying39 hi hz0 hz1 hz2 rfl (by decide) _ _ _ rfl (World.ownsRow_nil _ _ _ _) ad 0 ca [] rfl rfl (by simp) (by simp) (by unfold maxLen; omega) (by omega) z1 ?_; intro v' w2 hown hgrow hn)
      have hv' : v' = .slice none 0 0 := by first | exact hn.2 rfl | exact hn.2 ⟨rfl, trivial⟩ | exact hn.2 ⟨rfl, rfl⟩
      subst hv'
      have hgr : w1.grownBy w2 none := hgrow
      clear hgrow hown hn
      have Y0 := X0.grown hgr
      have Y1 := X1.grown hgr
      have Y2 := X2.grown hgr
      have hgs := hgr.size
      have k2 := k1.grown hgr k1.size (fun j e => by cases e)
      clear k1 X0 X1 X2
      clear q1 q2 q3 q4
      obtain ⟨q5, q6, _, _⟩ := Y1.cells
      go_wp2
      go_loopw [6] (fun i wr => i = .int .i64 0 ∧ wr = w2) (fun _ _ => 0)
      case atStart => exact ⟨rfl, rfl⟩
      case round =>
        obtain ⟨rfl, rfl⟩ := hrel
        obtain ⟨q1, q2, q3, q4⟩ := Y0.cells
        go_wp2_with fail
        refine (made_any _ _ [] _ ⟨by simp, .inl ⟨rfl, rfl⟩⟩ (fun i => by simp) (by simp [iv]) (by simp)).mono ?_
        rintro e w3 ⟨hb3, v3, rfl, h3⟩
        rw [show (iv []).toNat = (y + z).natAbs by rw [HY0.out, HZ0.out]; rfl] at h3
        have HZ := Lib.hid (h3.toZ (fun h => absurd (by rw [HY0.out, HZ0.out]; rfl) h))
        clear h3
        have R3 := Y2.keep hb3 (by omega)
        obtain ⟨m1, m2, m3, m4⟩ := R3.cells
        have kf := k2.trans (hb3.mono k2.size)
        obtain ⟨pz, lz, cz, rfl⟩ := HZ.out.agg
        obtain ⟨g1, g2⟩ := two_cells m1 m2 (.int .i64 (y + z).sign) (.slice pz lz cz)
        have HF := Lib.hid (HZ.out.store R3.noI (grown2 w3 (w.heap.size + 1 + 1) 0 1 (.int .i64 (y + z).sign) (.slice pz lz cz)))
        clear hb3 q1 q2 q3 q4 q5 q6
        go_wp2
        exact bodyPost_ret (v := .agg #[.int .i64 (y + z).sign, .slice pz lz cz]) (by simp [results, Tryz.results98, go_sem, g1, g2]) rfl ⟨(kf.setCell (by simp; omega) _).setCell (by simp; omega) _, _, rfl, HF.out⟩
  · obtain ⟨ba, oa, rfl, hba, _⟩ := HGA.out 0 h0
    have HCA := Lib.hid (fun (i : Nat) (h : i < a.length) => by
      obtain ⟨b', o', he, hb', hc'⟩ := HGA.out i h
      cases he
      exact (K1.out.cell (p := ⟨ba, oa + i, none⟩) hb').trans hc')
    go_wp2_with (at_builtin; refine wpList_append_own _ rfl _ _ 39 rfl (w.heap.size + 1 + 1 + 1) 3 i0 (.int .i64 0) 1 8 Tryz.underlying39 hi hz0 hz1 hz2 rfl (by decide) _ _ _ rfl (World.ownsRow_nil _ _ _ _) ⟨ba, oa, none⟩ a.length ca (dv a) rfl (by simp [dv]) (dv_cells HCA.out) (dv_one a) (by unfold maxLen; omega) (by omega) z1 ?_; intro v' w2 hown hgrow _)
    have hgr : w1.grownBy w2 none := hgrow
    clear hgrow
    simp only [Nat.zero_add, List.nil_append] at hown
    obtain ⟨g, cap, rfl⟩ : ∃ g cap, v' = .slice (some ⟨g, 0, none⟩) a.length cap := by
      obtain ⟨n', hn'⟩ : ∃ n', a.length = n' + 1 := ⟨a.length - 1, by omega⟩
      rw [hn'] at hown ⊢
      exact ownsRow_succ' hown
    rw [dv_vi] at hown
    have HO := Lib.hid hown
    have Y0 := X0.grown hgr
    have Y1 := X1.grown hgr
    have Y2 := X2.grown hgr
    have hgs := hgr.size
    have k2 := k1.grown hgr k1.size (fun j e => by cases e)
    have K2 := Lib.hid k2
    obtain ⟨s1, hs1⟩ : ∃ s1, y.sign * z.sign = s1 := ⟨_, rfl⟩
    have hs2 : -1 ≤ s1 ∧ s1 ≤ 1 := by have := sgn_mul y z; omega
    have HS1 := Lib.hid hs1
    have hy1 : -1 ≤ y.sign ∧ y.sign ≤ 1 := by rcases Int.lt_trichotomy y 0 with h | h | h <;> simp [Int.sign_eq_neg_one_of_neg, Int.sign_eq_one_of_pos, h]
    have hz1' : -1 ≤ z.sign ∧ z.sign ≤ 1 := by rcases Int.lt_trichotomy z 0 with h | h | h <;> simp [Int.sign_eq_neg_one_of_neg, Int.sign_eq_one_of_pos, h]
    generalize hsy : y.sign = ys at *
    generalize hsz : z.sign = zs at *
    have HSY := Lib.hid hsy
    have HSZ := Lib.hid hsz
    clear hs1 hsy hsz hown q1 q2 q3 q4 X0 X1 X2 k1 HCA
    obtain ⟨q5, q6, _, _⟩ := Y1.cells
    go_loopw [6] (fun i wr => ∃ (k : Nat) (xs : List Int), k ≤ b.length ∧ i = .int .i64 k ∧ Below (w.heap.size + 1 + 1 + 1) w2 wr ∧ wr.ownsRow (w.heap.size + 1 + 1 + 1) 3 1 (.slice (some ⟨g, 0, none⟩) a.length cap) a.length (vi xs) ∧ Hid (Gk a b s1 k xs)) (fun i _ => b.length - (intOf i).toNat)
    case atStart => exact ⟨0, _, Nat.zero_le _, rfl, Below.refl _ _, HO.out, Gk.zero DA.out⟩
    case round =>
      obtain ⟨k, xs, hk, rfl, hbel, hown, HG⟩ := hrel
      have R0 := Y0.keep hbel (by omega)
      have R1 := Y1.keep hbel (by omega)
      have R2 := Y2.keep hbel (by omega)
      have kr := K2.out.trans (hbel.mono (by omega))
      obtain ⟨t1, t2, t3, t4⟩ := R0.cells
      obtain ⟨t5, t6, t7, t8⟩ := R1.cells
      obtain ⟨t9, t10, t11, t12⟩ := R2.cells
      have hbsz := hbel.size
      by_cases hlt : k < b.length
      · obtain ⟨bb, ob, rfl, hbb, hcb'⟩ := HGB.out k hlt
        have c1 := (kr.cell (p := ⟨bb, ob + k, none⟩) hbb).trans hcb'
        have c2 : wr.cell? ⟨g, k, none⟩ = some (.int .i64 (xs.getD k 0)) := by
          have hl := HG.out.1
          rw [hown.cellAt k (by omega)]
          simp [vi, List.getD_eq_getElem?_getD, show k < xs.length by omega]
        have c3 := hown.frozenAt k
        obtain ⟨t, ht⟩ : ∃ t, s1 * ((b.getD k 0 : Nat) : Int) = t := ⟨_, rfl⟩
        have hb9 := DB.out.getD k
        have ht1 : -9999 ≤ t ∧ t ≤ 9999 := by
          have := sgn_mul y z
          have h1 := HS1.out
          have h2 := HSY.out
          have h3 := HSZ.out
          rw [h2, h3, h1] at this
          rcases this with h | h | h <;> rw [h] at ht <;> omega
        have hx9 := HG.out.2.2.2 k
        have ST := Lib.hid (HG.out.step DA.out (by omega) ht ht1.1 ht1.2)
        have hst := (hown.stored k (.int .i64 (xs.getD k 0 + t))).1
        rw [show (vi xs).set k (.int .i64 (xs.getD k 0 + t)) = vi (xs.set k (xs.getD k 0 + t)) by simp [vi]] at hst
        have HST := Lib.hid hst
        have hgg := (hown.lt g rfl).1
        have HB2 := Lib.hid (hbel.setCell (p := ⟨g, k, none⟩) hgg (.int .i64 (xs.getD k 0 + t)))
        generalize xs.getD k 0 = x at *
        have e1 : IntKind.i64.wrap (ys * zs) = s1 := by rw [HS1.out]; exact IntWalk.i64_in _ (by omega)
        have e2 : IntKind.i64.wrap (s1 * ((b.getD k 0 : Nat) : Int)) = t := by rw [ht]; exact IntWalk.i64_in _ (by omega)
        have e3 : IntKind.i64.wrap (x + t) = x + t := IntWalk.i64_in _ (by omega)
        generalize b.getD k 0 = bk at *
        have hk1 : (k : Int) < (a.length : Int) := by omega
        have hk2 : (k : Int) < (b.length : Int) := by omega
        have hk3 : k < a.length := by omega
        clear ht hst hcb'
        go_wp2
        go_still_tail 19, (by kernel_rfl)
        go_wp2
        go_roundw
        case rel => exact ⟨k + 1, xs.set k (x + t), by omega, by go_num, HB2.out.drew, HST.out.drew, ST.out⟩
        case measure => simp [intOf]; omega
      · obtain rfl : k = b.length := by omega
        have HSL := Lib.hid (SlI.of_ownI hown (by have := HG.out.1; omega))
        have HV : Hid (iv xs = (y.natAbs : Int) + ys * zs * z.natAbs) := by
          have h := HG.out.2.1
          rw [List.take_length, RA.out, RB.out] at h
          show _ = _
          rw [h, HS1.out]
        have HL : Hid (xs.length ≤ 2000) := by have := HG.out.1; show _ ≤ _; omega
        clear hown
        go_wp2_with fail
        refine (made_any _ _ _ _ HSL.out (fun i => by have := HG.out.2.2.2 i; omega) (by rw [HV.out]; exact SB.out) HL.out).mono ?_
        rintro e w3 ⟨hb3, v3, rfl, h3⟩
        rw [HV.out, ← SA.out] at h3
        have HZ := Lib.hid (h3.toZ SC.out)
        clear h3
        have R3 := R2.keep hb3 (by omega)
        obtain ⟨m1, m2, m3, m4⟩ := R3.cells
        have kf := kr.trans (hb3.mono (by omega))
        obtain ⟨pz, lz, cz, rfl⟩ := HZ.out.agg
        obtain ⟨g1, g2⟩ := two_cells m1 m2 (.int .i64 (y + z).sign) (.slice pz lz cz)
        have HF := Lib.hid (HZ.out.store R3.noI (grown2 w3 (w.heap.size + 1 + 1) 0 1 (.int .i64 (y + z).sign) (.slice pz lz cz)))
        clear hb3 t1 t2 t3 t4 t5 t6 t7 t8 t9 t10 t11 t12
        go_wp2
        exact bodyPost_ret (v := .agg #[.int .i64 (y + z).sign, .slice pz lz cz]) (by simp [results, Tryz.results98, go_sem, g1, g2]) rfl ⟨(kf.setCell (by simp; omega) _).setCell (by simp; omega) _, _, rfl, HF.out⟩
theorem Sr.le {a b : Int} (h : Sr b) (hle : a.natAbs ≤ b.natAbs) : Sr a := by
  obtain ⟨k, hk, h1⟩ := h
  exact ⟨k, hk, by omega⟩
/-- ZAdd of the reference -/
theorem zaddr_any (va vb : Value) (y z : Int) (w : World) (ha : RZ w va y) (hb : RZ w vb z) (sy : Sr y) (sz : Sr z) : Calls Tryz.prog 98 #[va, vb] w (PRZ (y + z) w) := by
  rcases Nat.lt_or_ge y.natAbs z.natAbs with h | h
  · rw [Int.add_comm]; exact zaddr_lt va vb z y w ha hb h sz sy
  · exact zaddr_ge va vb y z w ha hb h sy sz
end Go.Proofs.YtjjomjjgoceklaaGreat
namespace Go.Proofs.YtjjomjjgoceklaaGreat
set_option maxRecDepth 100000
open Go.RowKit

theorem mk30 (n : Nat) (hn : n ≤ 2000) : ∀ w : World, (Instr.makeSlice 39 (.int .i64 (n : Int)) (.int .i64 (n : Int))).run Tryz.prog w = .ok (.slice (some ⟨w.heap.size, 0, none⟩) n n) (w.alloc (.cells (madeCells #[.int .i64 0] n) 3)) :=
  run_make_row' (P := Tryz.prog) 39 3 (.int .i64 0) 8 Tryz.underlying39 Tryz.info3 rfl .i64 .i64 n (by omega) (by omega)
/-- the groups of a product: i rows are done, and k groups of the next one -/
def Mk (a b : List Nat) (i k : Nat) (xs : List Int) : Prop := xs.length = a.length + b.length ∧ iv xs = (rv (a.take i) : Int) * rv b + 10000 ^ i * ((a.getD i 0 : Nat) : Int) * rv (b.take k) ∧
  (∀ j, 0 ≤ xs.getD j 0 ∧ xs.getD j 0 ≤ ((i : Int) + 1) * 100000000) ∧ (∀ j, i + k ≤ j → xs.getD j 0 ≤ (i : Int) * 100000000)
theorem iv_zeros (n : Nat) : iv (List.replicate n 0) = 0 := by
  induction n with
  | zero => rfl
  | succ n ih => rw [List.replicate_succ]; simp only [iv, ih]; rfl
theorem getD_zeros (n j : Nat) : (List.replicate n (0 : Int)).getD j 0 = 0 := by
  rw [List.getD_eq_getElem?_getD, List.getElem?_replicate]
  split <;> rfl
theorem Mk.zero (a b : List Nat) : Mk a b 0 0 (List.replicate (a.length + b.length) 0) :=
  ⟨by simp, by rw [iv_zeros]; simp [rv], fun j => by rw [getD_zeros]; omega, fun j _ => by rw [getD_zeros]; omega⟩
theorem Mk.step {a b : List Nat} {i k : Nat} {xs : List Int} {p : Int} (h : Mk a b i k xs) (hi : i < a.length) (hk : k < b.length) (hp : ((a.getD i 0 : Nat) : Int) * ((b.getD k 0 : Nat) : Int) = p) (hp0 : 0 ≤ p) (hp1 : p ≤ 99980001) :
    Mk a b i (k + 1) (xs.set (i + k) (xs.getD (i + k) 0 + p)) := by
  obtain ⟨h1, h2, h3, h4⟩ := h
  refine ⟨by simpa using h1, ?_, fun j => ?_, fun j hj => ?_⟩
  · rw [iv_set _ _ _ (by omega), h2, rv_take_succ, show xs.getD (i + k) 0 + p - xs.getD (i + k) 0 = p by omega, ← hp]
    simp only [Int.natCast_add, Int.natCast_mul, Int.natCast_pow, Int.mul_add, Int.pow_add]
    rw [Int.add_assoc]
    congr 2
    simp only [show (((10000 : Nat)) : Int) = 10000 from rfl]
    ac_rfl
  · rw [getD_set _ _ _ _ (by omega)]
    split
    · have := h4 (i + k) (Nat.le_refl _)
      have := (h3 (i + k)).1
      omega
    · exact h3 j
  · rw [getD_set _ _ _ _ (by omega), if_neg (by omega)]
    exact h4 j (by omega)
theorem Mk.row {a b : List Nat} {i : Nat} {xs : List Int} (h : Mk a b i b.length xs) : Mk a b (i + 1) 0 xs := by
  obtain ⟨h1, h2, h3, h4⟩ := h
  refine ⟨h1, ?_, fun j => ?_, fun j _ => ?_⟩
  · rw [h2, List.take_length, rv_take_succ]
    simp [rv, Int.add_mul]
  · have := h3 j; omega
  · have := h3 j; omega
theorem Mk.all {a b : List Nat} {xs : List Int} (h : Mk a b a.length 0 xs) : iv xs = (rv a : Int) * rv b := by
  rw [h.2.1, List.take_length]
  simp [rv]
theorem prod_abs (y z : Int) : (y * z).natAbs = ((y.natAbs : Int) * z.natAbs).toNat ∧ (y * z ≠ 0 → y.sign * z.sign = (y * z).sign) :=
  ⟨by rw [Int.natAbs_mul]; simp [← Int.natCast_mul], fun _ => (Int.sign_mul y z).symm⟩

set_option maxRecDepth 100000 in
set_option maxHeartbeats 1600000 in
theorem zmulr_any (va vb : Value) (y z : Int) (w : World) (ha : RZ w va y) (hb : RZ w vb z) (sy : Sr y) (sz : Sr z) : Calls Tryz.prog 99 #[va, vb] w (PRZ (y * z) w) := by
  obtain ⟨a, pa, ca, rfl, _, hca, hma, da, na, ra, hga⟩ := ha.opened
  obtain ⟨b, pb, cb, rfl, _, hcb, hmb, db, nb, rb, hgb⟩ := hb.opened
  have la := sy.len na ra
  have lb := sz.len nb rb
  obtain ⟨sa, sc⟩ := prod_abs y z
  have SA := Lib.hid sa; have SC := Lib.hid sc
  have HA := Lib.hid ha; have HB := Lib.hid hb
  have RA := Lib.hid ra; have RB := Lib.hid rb
  have HGA := Lib.hid hga; have HGB := Lib.hid hgb
  have DA := Lib.hid da; have DB := Lib.hid db
  obtain ⟨n, hn⟩ : ∃ n, n = a.length + b.length := ⟨_, rfl⟩
  have hsum : (a.length : Int) + (b.length : Int) = (n : Int) := by omega
  have hmk := mk30 n (by omega)
  have hn2 : n ≤ 1800 := by omega
  have HN := Lib.hid hn
  obtain ⟨s1, hs1⟩ : ∃ s1, y.sign * z.sign = s1 := ⟨_, rfl⟩
  have hs2 : -1 ≤ s1 ∧ s1 ≤ 1 := by have := sgn_mul y z; omega
  have hs3 := hs2.1
  have hs4 := hs2.2
  clear ha hb na nb hga hgb da db ra rb sa hn hs2
  generalize hsy : y.sign = ys at *
  generalize hsz : z.sign = zs at *
  have HSY := Lib.hid hsy
  have HSZ := Lib.hid hsz
  have HS1 := Lib.hid hs1
  clear hsy hsz sc hs1
  go_enter Tryz.func99, Tryz.ntmps99
  go_wp2
  generalize hW : ((((w.alloc (.cells #[.int .i64 ys, .slice pa a.length ca] 41)).alloc (.cells #[.int .i64 zs, .slice pb b.length cb] 41)).alloc (.cells #[.int .i64 0, .slice none 0 0] 41)).alloc (.cells (madeCells #[.int .i64 0] n) 3)) = w2
  have X0 : Bz w.heap.size ys pa a.length ca w2 := by rw [← hW]; exact (((bz_new w _ _ _ _ rfl).alloc _).alloc _).alloc _
  have X1 : Bz (w.heap.size + 1) zs pb b.length cb w2 := by rw [← hW]; exact ((bz_new (w.alloc _) _ _ _ _ (by simp)).alloc _).alloc _
  have X2 : Bz (w.heap.size + 1 + 1) 0 none 0 0 w2 := by rw [← hW]; exact (bz_new ((w.alloc _).alloc _) _ _ _ _ (by simp)).alloc _
  have k2 : Below w.heap.size w w2 := by rw [← hW]; exact (bl3 _ _ _ _).alloc (by simp; omega) _
  have own : w2.ownsRow (w.heap.size + 1 + 1 + 1) 3 1 (.slice (some ⟨w.heap.size + 1 + 1 + 1, 0, none⟩) n n) n (vi (List.replicate (a.length + b.length) 0)) := by
    rw [← hW, ← HN.out, show vi (List.replicate n 0) = (madeCells #[.int .i64 0] n).toList by rw [toList_madeCells_one]; simp [vi]]
    have h := World.ownsRow_lit (e := 3) (size := 1) (base := w.heap.size + 1 + 1 + 1) ((((w.alloc (.cells #[.int .i64 ys, .slice pa a.length ca] 41)).alloc (.cells #[.int .i64 zs, .slice pb b.length cb] 41)).alloc (.cells #[.int .i64 0, .slice none 0 0] 41))) (madeCells #[.int .i64 0] n) n (by simp) (by unfold maxLen; omega) (by rw [size_madeCells]; omega)
    simp only [World.size_alloc] at h
    exact h
  have hsz2 : w.heap.size + 1 + 1 + 1 < w2.heap.size := by rw [← hW]; simp
  have K2 := Lib.hid k2
  have OWN := Lib.hid own
  obtain ⟨q1, q2, q3, q4⟩ := X0.cells
  obtain ⟨q5, q6, q7, q8⟩ := X1.cells
  clear hW k2 own hmk
  go_loopw [6] (fun i wr => ∃ (k : Nat) (xs : List Int), k ≤ a.length ∧ i = .int .i64 k ∧ Below (w.heap.size + 1 + 1 + 1) w2 wr ∧ wr.ownsRow (w.heap.size + 1 + 1 + 1) 3 1 (.slice (some ⟨w.heap.size + 1 + 1 + 1, 0, none⟩) n n) n (vi xs) ∧ Hid (Mk a b k 0 xs)) (fun i _ => a.length - (intOf i).toNat)
  case atStart => exact ⟨0, _, Nat.zero_le _, rfl, Below.refl _ _, OWN.out, Mk.zero a b⟩
  case round =>
    obtain ⟨i, xs0, hi, rfl, hbel0, hown0, HM0⟩ := hrel
    have R0 := X0.keep hbel0 (by omega)
    have R1 := X1.keep hbel0 (by omega)
    have R2 := X2.keep hbel0 (by omega)
    obtain ⟨t1, t2, t3, t4⟩ := R0.cells
    obtain ⟨t5, t6, t7, t8⟩ := R1.cells
    have hb0 := hbel0.size
    by_cases hlt : i < a.length
    · obtain ⟨wo, rfl⟩ : ∃ wo : World, wo = wr := ⟨_, rfl⟩
      obtain ⟨ba, oa, rfl, hba, hca'⟩ := HGA.out i hlt
      have OW0 := Lib.hid hown0
      have HB0 := Lib.hid hbel0
      clear hown0 hbel0 R0 R1 R2
      have hi1 : (i : Int) < (a.length : Int) := by omega
      go_wp2
      go_loopw [7] (fun kv wr => ∃ (k : Nat) (xs : List Int), k ≤ b.length ∧ kv = .int .i64 k ∧ Below (w.heap.size + 1 + 1 + 1) w2 wr ∧ wr.ownsRow (w.heap.size + 1 + 1 + 1) 3 1 (.slice (some ⟨w.heap.size + 1 + 1 + 1, 0, none⟩) n n) n (vi xs) ∧ Hid (Mk a b i k xs)) (fun kv _ => b.length - (intOf kv).toNat)
      case atStart => exact ⟨0, xs0, Nat.zero_le _, rfl, HB0.out, OW0.out, HM0.out⟩
      case round =>
        obtain ⟨k, xs, hk, rfl, hbel, hown, HM⟩ := hrel
        clear t1 t2 t3 t4 t5 t6 t7 t8
        have R0 := X0.keep hbel (by omega)
        have R1 := X1.keep hbel (by omega)
        have kr := K2.out.trans (hbel.mono (by omega))
        obtain ⟨t1, t2, t3, t4⟩ := R0.cells
        obtain ⟨t5, t6, t7, t8⟩ := R1.cells
        by_cases hlk : k < b.length
        · obtain ⟨bb, ob, rfl, hbb, hcb'⟩ := HGB.out k hlk
          have c1 := (kr.cell (p := ⟨bb, ob + k, none⟩) hbb).trans hcb'
          have c0 := (kr.cell (p := ⟨ba, oa + i, none⟩) hba).trans hca'
          obtain ⟨j, hj⟩ : ∃ j, j = i + k := ⟨_, rfl⟩
          have hjn : j < n := by have := HN.out; omega
          have hjs : (i : Int) + (k : Int) = (j : Int) := by omega
          have hlx := HM.out.1
          have c2 : wr.cell? ⟨w.heap.size + 1 + 1 + 1, j, none⟩ = some (.int .i64 (xs.getD j 0)) := by
            rw [hown.cellAt j (by omega)]
            have : j < xs.length := by have := HN.out; omega
            simp [vi, List.getD_eq_getElem?_getD, this]
          have c3 := hown.frozenAt j
          obtain ⟨p, hp⟩ : ∃ p : Int, ((a.getD i 0 : Nat) : Int) * ((b.getD k 0 : Nat) : Int) = p := ⟨_, rfl⟩
          have ha9 := DA.out.getD i
          have hb9 := DB.out.getD k
          have hp0 : 0 ≤ p := by rw [← hp]; exact Int.mul_nonneg (by omega) (by omega)
          have hp1 : p ≤ 99980001 := by
            rw [← hp]
            have h1 : ((a.getD i 0 : Nat) : Int) * ((b.getD k 0 : Nat) : Int) ≤ 9999 * 9999 := Int.mul_le_mul (by omega) (by omega) (by omega) (by omega)
            omega
          have hx0 := (HM.out.2.2.1 j).1
          have hx1 := HM.out.2.2.2 j (by omega)
          have hx2 : xs.getD j 0 ≤ 90000000000 := by omega
          have ST := HM.out.step hlt hlk hp hp0 hp1
          rw [← hj] at ST
          have STH := Lib.hid ST
          have hst := (hown.stored j (.int .i64 (xs.getD j 0 + p))).1
          rw [show (vi xs).set j (.int .i64 (xs.getD j 0 + p)) = vi (xs.set j (xs.getD j 0 + p)) by simp [vi]] at hst
          have HST := Lib.hid hst
          have HB2 := Lib.hid (hbel.setCell (p := ⟨w.heap.size + 1 + 1 + 1, j, none⟩) (Nat.le_refl _) (.int .i64 (xs.getD j 0 + p)))
          have HJ := Lib.hid hj
          have HX := Lib.hid hlx
          clear ST hst hx1 hj hlx
          generalize xs.getD j 0 = x at *
          have e1 : IntKind.i64.wrap (j : Int) = (j : Int) := IntWalk.i64_in _ (by omega)
          have e2 : IntKind.i64.wrap (((a.getD i 0 : Nat) : Int) * ((b.getD k 0 : Nat) : Int)) = p := by rw [hp]; exact IntWalk.i64_in _ (by omega)
          have e3 : IntKind.i64.wrap (x + p) = x + p := IntWalk.i64_in _ (by omega)
          generalize b.getD k 0 = bk at *
          generalize a.getD i 0 = ai at *
          have hk2 : (k : Int) < (b.length : Int) := by omega
          have hj2 : (j : Int) < (n : Int) := by omega
          clear hp hcb' hca'
          go_wp2
          go_still_tail 23, (by kernel_rfl)
          go_wp2
          go_roundw
          case rel => exact ⟨k + 1, xs.set j (x + p), by omega, by go_num, HB2.out.drew, HST.out.drew, STH.out⟩
          case measure => simp [intOf]; omega
        · obtain rfl : k = b.length := by omega
          have OW1 := Lib.hid hown
          have HM1 := Lib.hid HM.out.row
          clear hown
          go_wp2
          go_roundw
          case rel => exact ⟨i + 1, xs, by omega, by go_num, hbel, OW1.out, HM1.out⟩
          case measure => simp [intOf]; omega
    · obtain rfl : i = a.length := by omega
      have kr := K2.out.trans (hbel0.mono (by omega))
      have HSL := Lib.hid (SlI.of_ownI hown0 (by have := HM0.out.1; omega))
      have HV : Hid (iv xs0 = (y.natAbs : Int) * z.natAbs) := by
        have h := HM0.out.all
        rw [RA.out, RB.out] at h
        exact h
      have HL : Hid (xs0.length ≤ 2000) := by have h1 := HM0.out.1; have h2 := HN.out; show _ ≤ _; omega
      have HMB : Hid (∀ i, -100000000000000 ≤ xs0.getD i 0 ∧ xs0.getD i 0 ≤ 100000000000000) := fun j => by have := HM0.out.2.2.1 j; omega
      have es : ys * zs = s1 := HS1.out
      clear hown0
      go_wp2_with fail
      refine (made_any _ _ _ _ HSL.out HMB.out (by rw [HV.out]; exact Int.mul_nonneg (by omega) (by omega)) HL.out).mono ?_
      rintro e w3 ⟨hb3, v3, rfl, h3⟩
      rw [HV.out, ← SA.out] at h3
      have HZ := Lib.hid (h3.toZ (fun h => by rw [← SC.out h, HS1.out]))
      clear h3
      have R3 := R2.keep hb3 (by omega)
      obtain ⟨m1, m2, m3, m4⟩ := R3.cells
      have kf := kr.trans (hb3.mono (by omega))
      obtain ⟨sg, pz, lz, cz, rfl⟩ : ∃ (sg : Int) (p : Option Addr) (l c : Nat), v3 = .agg #[.int .i64 sg, .slice p l c] := ⟨_, HZ.out.agg⟩
      obtain ⟨g1, g2⟩ := two_cells m1 m2 (.int .i64 sg) (.slice pz lz cz)
      have HF := Lib.hid (HZ.out.store R3.noI (grown2 w3 (w.heap.size + 1 + 1) 0 1 (.int .i64 sg) (.slice pz lz cz)))
      clear hb3 t1 t2 t3 t4 t5 t6 t7 t8
      go_wp2
      exact bodyPost_ret (v := .agg #[.int .i64 sg, .slice pz lz cz]) (by simp [results, Tryz.results99, go_sem, g1, g2]) rfl ⟨(kf.setCell (by simp; omega) _).setCell (by simp; omega) _, _, rfl, HF.out⟩
end Go.Proofs.YtjjomjjgoceklaaGreat
