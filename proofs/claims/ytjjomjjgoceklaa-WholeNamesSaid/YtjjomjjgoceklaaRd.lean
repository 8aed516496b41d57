import Derived.Test.YtjjomjjgoceklaaRc
import Derived.Test.YtjjomjjgoceklaaE
namespace Go.Proofs.Ytjjomjjgoceklaa
open Go.RowKit

theorem rv_append (a b : List Nat) : rv (a ++ b) = rv a + 10000 ^ a.length * rv b := by
  induction a with
  | nil => simp [rv]
  | cons x r ih => simp only [List.cons_append, rv, ih, List.length_cons, Nat.pow_succ]; rw [Nat.mul_add, Nat.mul_comm (10000 ^ r.length) 10000, Nat.mul_assoc]; omega
theorem rv_len_lt {a b : List Nat} (ha : D4 a) (hb : Nrm b) (h : a.length < b.length) : rv a < rv b := by
  have h1 := rv_lt a ha
  have h2 := rv_ge b hb (by intro e; rw [e] at h; simp at h)
  have h3 : 10000 ^ a.length ≤ 10000 ^ (b.length - 1) := Nat.pow_le_pow_right (by decide) (by omega)
  omega
theorem rv_split (l : List Nat) (i : Nat) (h : i < l.length) : rv l = rv (l.take i) + 10000 ^ i * (l.getD i 0 + 10000 * rv (l.drop (i + 1))) := by
  have := rv_append (l.take i) (l.drop i)
  rw [List.take_append_drop, List.length_take, Nat.min_eq_left (Nat.le_of_lt h), drop_getD l i h] at this
  exact this
theorem rv_cmp_at {a b : List Nat} (ha : D4 a) (i : Nat) (hia : i < a.length) (hib : i < b.length) (hd : a.drop (i + 1) = b.drop (i + 1)) (hlt : a.getD i 0 < b.getD i 0) : rv a < rv b := by
  rw [rv_split a i hia, rv_split b i hib, hd]
  have h1 := rv_lt (a.take i) (fun x hx => ha x (List.mem_of_mem_take hx))
  rw [List.length_take, Nat.min_eq_left (Nat.le_of_lt hia)] at h1
  have h2 : 10000 ^ i * (a.getD i 0 + 10000 * rv (b.drop (i + 1)) + 1) ≤ 10000 ^ i * (b.getD i 0 + 10000 * rv (b.drop (i + 1))) := Nat.mul_le_mul_left _ (by omega)
  rw [Nat.mul_add (10000 ^ i) _ 1] at h2
  omega
/-- how far two numbers are compared -/
def Lg (a b : List Nat) (k : Nat) (d : Int) : Prop := (d = 0 ∧ a.length = b.length ∧ a.drop k = b.drop k) ∨ (d ≠ 0 ∧ -10000 ≤ d ∧ d ≤ 10000 ∧ (0 < d → rv b < rv a) ∧ (d < 0 → rv a < rv b))
def PLg (a b : Nat) (w : World) (e : Ending) (w' : World) : Prop := Below w.heap.size w w' ∧ e = .returned (.int .i64 (cmpN a b))
theorem PLg.ret {a b : Nat} {w w' : World} {n : Int} (hb : Below w.heap.size w w') (h : cmpN a b = n) : PLg a b w (.returned (.int .i64 n)) w' := ⟨hb, by rw [h]⟩
theorem D4.getD {l : List Nat} (h : D4 l) (i : Nat) : l.getD i 0 < 10000 := by
  rw [List.getD_eq_getElem?_getD]
  cases e : l[i]? with
  | none => simp
  | some x => exact h x (List.mem_of_getElem? e)
theorem castG (l : List Nat) (i : Nat) : (l.map fun (x : Nat) => (x : Int)).getD i 0 = ((l.getD i 0 : Nat) : Int) := by
  rw [List.getD_eq_getElem?_getD, List.getD_eq_getElem?_getD, List.getElem?_map]
  cases l[i]? <;> simp
/-- a number of the reference, opened: its groups and where they lie -/
theorem RZ.opened {w : World} {v : Value} {z : Int} (h : RZ w v z) : ∃ (gs : List Nat) (p : Option Addr) (c : Nat), v = .agg #[.int .i64 z.sign, .slice p gs.length c] ∧ gs.length ≤ 4096 ∧ gs.length ≤ c ∧ c ≤ maxLen ∧ D4 gs ∧ Nrm gs ∧ rv gs = z.natAbs ∧
    ∀ i, i < gs.length → ∃ b o : Nat, p = some ⟨b, o, none⟩ ∧ b < w.heap.size ∧ w.cell? ⟨b, o + i, none⟩ = some (.int .i64 ((gs.getD i 0 : Nat) : Int)) := by
  obtain ⟨gs, sl, rfl, h2, h3, h4, h5⟩ := h
  have hl := h2.1
  obtain ⟨p, c, rfl, hc, hm, hr⟩ := h2.opened _ (Nat.le_refl _)
  simp only [List.length_map] at hl hc
  refine ⟨gs, p, c, by simp, hl, hc, hm, h3, h4, h5, fun i hi => ?_⟩
  obtain ⟨b, o, hp, _, hb, hcell⟩ := hr i (by simpa using hi)
  exact ⟨b, o, hp, hb, by rw [castG] at hcell; exact hcell⟩

set_option maxRecDepth 100000 in
set_option maxHeartbeats 800000 in
theorem larger_any (va vb : Value) (y z : Int) (w : World) (ha : RZ w va y) (hb : RZ w vb z) : Calls Try.prog 55 #[va, vb] w (PLg y.natAbs z.natAbs w) := by
  obtain ⟨a, pa, ca, rfl, la, hca, hma, da, na, ra, hga⟩ := ha.opened
  obtain ⟨b, pb, cb, rfl, lb, hcb, hmb, db, nb, rb, hgb⟩ := hb.opened
  have NA := Lib.hid na; have NB := Lib.hid nb
  have RA := Lib.hid ra; have RB := Lib.hid rb
  have HGA := Lib.hid hga; have HGB := Lib.hid hgb
  have DA := Lib.hid da; have DB := Lib.hid db
  clear ha hb na nb hga hgb da db ra rb
  generalize hsy : y.sign = sy
  generalize hsz : z.sign = sz
  clear hsy hsz
  go_enter Try.func55, Try.ntmps55
  go_wp2
  go_loopw [5, 6] (fun d i wr => ∃ (k : Nat) (dd : Int), k ≤ a.length ∧ i = .int .i64 ((k : Int) - 1) ∧ d = .int .i64 dd ∧ Below (w.heap.size + 2) ((w.alloc (.cells #[.int .i64 sy, .slice pa a.length ca] 32)).alloc (.cells #[.int .i64 sz, .slice pb b.length cb] 32)) wr ∧ Hid (Lg a b k dd)) (fun _ i _ => (intOf i + 1).toNat)
  case atStart => exact ⟨a.length, (a.length : Int) - (b.length : Int), Nat.le_refl _, rfl, rfl, Below.refl _ _, by
    show _ ∨ _
    rcases Nat.lt_trichotomy a.length b.length with h | h | h
    · right; exact ⟨by omega, by omega, by omega, fun h1 => by omega, fun _ => rv_len_lt DA.out NB.out h⟩
    · left; exact ⟨by omega, h, by rw [List.drop_length, h, List.drop_length]⟩
    · right; exact ⟨by omega, by omega, by omega, fun _ => rv_len_lt DB.out NA.out h, fun h1 => by omega⟩⟩
  case round =>
    obtain ⟨k, dd, hk, rfl, rfl, hbel, HL⟩ := hrel
    have HB2 := Lib.hid ((bl2 w (.cells #[.int .i64 sy, .slice pa a.length ca] 32) (.cells #[.int .i64 sz, .slice pb b.length cb] 32)).trans (hbel.mono (by omega)))
    have x1 : wr.cell? ⟨w.heap.size, 1, none⟩ = some (.slice pa a.length ca) := (hbel.cell (p := ⟨w.heap.size, 1, none⟩) (show w.heap.size < w.heap.size + 2 by omega)).trans (by simp [go_sem, World.cell?_alloc_past])
    have y1 : wr.cell? ⟨w.heap.size + 1, 1, none⟩ = some (.slice pb b.length cb) := (hbel.cell (p := ⟨w.heap.size + 1, 1, none⟩) (show w.heap.size + 1 < w.heap.size + 2 by omega)).trans (by simp [go_sem])
    rcases HL.out with ⟨rfl, hlen, hdrop⟩ | ⟨hne, h1, h2, hgt, hlt⟩
    · have HE := Lib.hid hlen
      have HD := Lib.hid hdrop
      clear hlen hdrop
      cases k with
      | zero =>
        go_wp2
        go_ret
        exact PLg.ret HB2.out (cmpN_eq (by have := HD.out; simp only [List.drop_zero] at this; rw [← RA.out, ← RB.out, this]))
      | succ j =>
        have hjb : j < b.length := by have := HE.out; omega
        obtain ⟨ba, oa, rfl, hbl, hcell⟩ := HGA.out j (by omega)
        obtain ⟨bb, ob, rfl, hbl2, hcell2⟩ := HGB.out j hjb
        have e1 : ((j + 1 : Nat) : Int) - 1 = (j : Int) := by omega
        rw [e1]
        have c1 := (HB2.out.cell (p := ⟨ba, oa + j, none⟩) hbl).trans hcell
        have c2 := (HB2.out.cell (p := ⟨bb, ob + j, none⟩) hbl2).trans hcell2
        clear hcell hcell2 e1
        have b1 : (j : Int) < (a.length : Int) := by omega
        have b2 : (j : Int) < (b.length : Int) := by omega
        have CA := Lib.hid (fun hlt => rv_cmp_at (a := a) (b := b) DA.out j (by omega) hjb HD.out hlt)
        have CB := Lib.hid (fun hlt => rv_cmp_at (a := b) (b := a) DB.out j hjb (by omega) HD.out.symm hlt)
        have CE := Lib.hid (drop_getD a j (by omega))
        have CF := Lib.hid (drop_getD b j hjb)
        have hx9 := DA.out.getD j
        have hy9 := DB.out.getD j
        generalize hx : a.getD j 0 = x at *
        generalize hy : b.getD j 0 = y' at *
        clear hx hy
        have ST : Hid (Lg a b j ((x : Int) - (y' : Int))) := by
          show _ ∨ _
          rcases Nat.lt_trichotomy x y' with hxy | hxy | hxy
          · right; exact ⟨by omega, by omega, by omega, fun h => by omega, fun _ => CA.out hxy⟩
          · left; exact ⟨by omega, HE.out, by rw [CE.out, CF.out, HD.out, hxy]⟩
          · right; exact ⟨by omega, by omega, by omega, fun _ => CB.out hxy, fun h => by omega⟩
        go_wp2
        go_quiet (fail)
        go_wp2
        go_roundw
        case rel => exact ⟨j, (x : Int) - (y' : Int), by omega, rfl, rfl, below_drewN hbel _, ST.out⟩
        case measure => simp [intOf]
    · have n1 : (dd == 0) = false := by simpa using hne
      have n2 : (dd != 0) = true := by simpa using hne
      have HGT := Lib.hid hgt
      have HLT := Lib.hid hlt
      have HNE := Lib.hid hne
      by_cases hp : 0 < dd
      · have hc : cmpN y.natAbs z.natAbs = 1 := cmpN_gt (by have := HGT.out hp; rw [RA.out, RB.out] at this; exact this)
        have HC := Lib.hid hc
        clear hne hgt hlt hc
        cases k with
        | zero =>
          go_wp2
          go_ret
          exact PLg.ret HB2.out HC.out
        | succ j =>
          have e1 : ((j + 1 : Nat) : Int) - 1 = (j : Int) := by omega
          rw [e1]
          clear e1
          go_wp2
          go_ret
          exact PLg.ret HB2.out HC.out
      · have hn : dd < 0 := by omega
        have hc : cmpN y.natAbs z.natAbs = -1 := cmpN_lt (by have := HLT.out hn; rw [RA.out, RB.out] at this; exact this)
        have HC := Lib.hid hc
        clear hne hgt hlt hc hp
        cases k with
        | zero =>
          go_wp2
          go_ret
          exact PLg.ret HB2.out HC.out
        | succ j =>
          have e1 : ((j + 1 : Nat) : Int) - 1 = (j : Int) := by omega
          rw [e1]
          clear e1
          go_wp2
          go_ret
          exact PLg.ret HB2.out HC.out
end Go.Proofs.Ytjjomjjgoceklaa
