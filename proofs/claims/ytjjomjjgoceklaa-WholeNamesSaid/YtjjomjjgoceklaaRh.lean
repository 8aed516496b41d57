import Derived.Test.YtjjomjjgoceklaaRg
namespace Go.Proofs.Ytjjomjjgoceklaa
open Go.RowKit

theorem mk30 (n : Nat) (hn : n ≤ 2000) : ∀ w : World, (Instr.makeSlice 30 (.int .i64 (n : Int)) (.int .i64 (n : Int))).run Try.prog w = .ok (.slice (some ⟨w.heap.size, 0, none⟩) n n) (w.alloc (.cells (madeCells #[.int .i64 0] n) 3)) :=
  run_make_row' (P := Try.prog) 30 3 (.int .i64 0) 8 Try.underlying30 Try.info3 rfl .i64 .i64 n (by omega) (by omega)
/-- the groups of a product: i rows are done, and k groups of the next one -/
def Mk (a b : List Nat) (i k : Nat) (xs : List Int) : Prop := xs.length = a.length + b.length ∧ iv xs = (rv (a.take i) : Int) * rv b + 10000 ^ i * ((a.getD i 0 : Nat) : Int) * rv (b.take k) ∧
  (∀ j, 0 ≤ xs.getD j 0 ∧ xs.getD j 0 ≤ ((i : Int) + 1) * 100000000) ∧ (∀ j, i + k ≤ j → xs.getD j 0 ≤ (i : Int) * 100000000)
theorem iv_zeros (n : Nat) : iv (List.replicate n 0) = 0 := by
  induction n with
  | zero => rfl
  | succ n ih => rw [List.replicate_succ]; simp only [iv, ih]; rfl
theorem getD_zeros (n j : Nat) : (List.replicate n (0 : Int)).getD j 0 = 0 := by
  rw [List.getD_eq_getElem?_getD, List.getElem?_replicate]
  split <;> rfl
theorem Mk.zero (a b : List Nat) : Mk a b 0 0 (List.replicate (a.length + b.length) 0) :=
  ⟨by simp, by rw [iv_zeros]; simp [rv], fun j => by rw [getD_zeros]; omega, fun j _ => by rw [getD_zeros]; omega⟩
theorem Mk.step {a b : List Nat} {i k : Nat} {xs : List Int} {p : Int} (h : Mk a b i k xs) (hi : i < a.length) (hk : k < b.length) (hp : ((a.getD i 0 : Nat) : Int) * ((b.getD k 0 : Nat) : Int) = p) (hp0 : 0 ≤ p) (hp1 : p ≤ 99980001) :
    Mk a b i (k + 1) (xs.set (i + k) (xs.getD (i + k) 0 + p)) := by
  obtain ⟨h1, h2, h3, h4⟩ := h
  refine ⟨by simpa using h1, ?_, fun j => ?_, fun j hj => ?_⟩
  · rw [iv_set _ _ _ (by omega), h2, rv_take_succ, show xs.getD (i + k) 0 + p - xs.getD (i + k) 0 = p by omega, ← hp]
    simp only [Int.natCast_add, Int.natCast_mul, Int.natCast_pow, Int.mul_add, Int.pow_add]
    rw [Int.add_assoc]
    congr 2
    simp only [show (((10000 : Nat)) : Int) = 10000 from rfl]
    ac_rfl
  · rw [getD_set _ _ _ _ (by omega)]
    split
    · have := h4 (i + k) (Nat.le_refl _)
      have := (h3 (i + k)).1
      omega
    · exact h3 j
  · rw [getD_set _ _ _ _ (by omega), if_neg (by omega)]
    exact h4 j (by omega)
theorem Mk.row {a b : List Nat} {i : Nat} {xs : List Int} (h : Mk a b i b.length xs) : Mk a b (i + 1) 0 xs := by
  obtain ⟨h1, h2, h3, h4⟩ := h
  refine ⟨h1, ?_, fun j => ?_, fun j _ => ?_⟩
  · rw [h2, List.take_length, rv_take_succ]
    simp [rv, Int.add_mul]
  · have := h3 j; omega
  · have := h3 j; omega
theorem Mk.all {a b : List Nat} {xs : List Int} (h : Mk a b a.length 0 xs) : iv xs = (rv a : Int) * rv b := by
  rw [h.2.1, List.take_length]
  simp [rv]
theorem prod_abs (y z : Int) : (y * z).natAbs = ((y.natAbs : Int) * z.natAbs).toNat ∧ (y * z ≠ 0 → y.sign * z.sign = (y * z).sign) :=
  ⟨by rw [Int.natAbs_mul]; simp [← Int.natCast_mul], fun _ => (Int.sign_mul y z).symm⟩

set_option maxRecDepth 100000 in
set_option maxHeartbeats 1600000 in
theorem zmulr_any (va vb : Value) (y z : Int) (w : World) (ha : RZ w va y) (hb : RZ w vb z) (sy : Sr y) (sz : Sr z) : Calls Try.prog 19 #[va, vb] w (PRZ (y * z) w) := by
  obtain ⟨a, pa, ca, rfl, _, hca, hma, da, na, ra, hga⟩ := ha.opened
  obtain ⟨b, pb, cb, rfl, _, hcb, hmb, db, nb, rb, hgb⟩ := hb.opened
  have la := sy.len na ra
  have lb := sz.len nb rb
  obtain ⟨sa, sc⟩ := prod_abs y z
  have SA := Lib.hid sa; have SC := Lib.hid sc
  have HA := Lib.hid ha; have HB := Lib.hid hb
  have RA := Lib.hid ra; have RB := Lib.hid rb
  have HGA := Lib.hid hga; have HGB := Lib.hid hgb
  have DA := Lib.hid da; have DB := Lib.hid db
  obtain ⟨n, hn⟩ : ∃ n, n = a.length + b.length := ⟨_, rfl⟩
  have hsum : (a.length : Int) + (b.length : Int) = (n : Int) := by omega
  have hmk := mk30 n (by omega)
  have hn2 : n ≤ 1800 := by omega
  have HN := Lib.hid hn
  obtain ⟨s1, hs1⟩ : ∃ s1, y.sign * z.sign = s1 := ⟨_, rfl⟩
  have hs2 : -1 ≤ s1 ∧ s1 ≤ 1 := by have := sgn_mul y z; omega
  have hs3 := hs2.1
  have hs4 := hs2.2
  clear ha hb na nb hga hgb da db ra rb sa hn hs2
  generalize hsy : y.sign = ys at *
  generalize hsz : z.sign = zs at *
  have HSY := Lib.hid hsy
  have HSZ := Lib.hid hsz
  have HS1 := Lib.hid hs1
  clear hsy hsz sc hs1
  go_enter Try.func19, Try.ntmps19
  go_wp2
  generalize hW : ((((w.alloc (.cells #[.int .i64 ys, .slice pa a.length ca] 32)).alloc (.cells #[.int .i64 zs, .slice pb b.length cb] 32)).alloc (.cells #[.int .i64 0, .slice none 0 0] 32)).alloc (.cells (madeCells #[.int .i64 0] n) 3)) = w2
  have X0 : Bz w.heap.size ys pa a.length ca w2 := by rw [← hW]; exact (((bz_new w _ _ _ _ rfl).alloc _).alloc _).alloc _
  have X1 : Bz (w.heap.size + 1) zs pb b.length cb w2 := by rw [← hW]; exact ((bz_new (w.alloc _) _ _ _ _ (by simp)).alloc _).alloc _
  have X2 : Bz (w.heap.size + 1 + 1) 0 none 0 0 w2 := by rw [← hW]; exact (bz_new ((w.alloc _).alloc _) _ _ _ _ (by simp)).alloc _
  have k2 : Below w.heap.size w w2 := by rw [← hW]; exact (bl3 _ _ _ _).alloc (by simp; omega) _
  have own : w2.ownsRow (w.heap.size + 1 + 1 + 1) 3 1 (.slice (some ⟨w.heap.size + 1 + 1 + 1, 0, none⟩) n n) n (vi (List.replicate (a.length + b.length) 0)) := by
    rw [← hW, ← HN.out, show vi (List.replicate n 0) = (madeCells #[.int .i64 0] n).toList by rw [toList_madeCells_one]; simp [vi]]
    have h := World.ownsRow_lit (e := 3) (size := 1) (base := w.heap.size + 1 + 1 + 1) ((((w.alloc (.cells #[.int .i64 ys, .slice pa a.length ca] 32)).alloc (.cells #[.int .i64 zs, .slice pb b.length cb] 32)).alloc (.cells #[.int .i64 0, .slice none 0 0] 32))) (madeCells #[.int .i64 0] n) n (by simp) (by unfold maxLen; omega) (by rw [size_madeCells]; omega)
    simp only [World.size_alloc] at h
    exact h
  have hsz2 : w.heap.size + 1 + 1 + 1 < w2.heap.size := by rw [← hW]; simp
  have K2 := Lib.hid k2
  have OWN := Lib.hid own
  obtain ⟨q1, q2, q3, q4⟩ := X0.cells
  obtain ⟨q5, q6, q7, q8⟩ := X1.cells
  clear hW k2 own hmk
  go_loopw [6] (fun i wr => ∃ (k : Nat) (xs : List Int), k ≤ a.length ∧ i = .int .i64 k ∧ Below (w.heap.size + 1 + 1 + 1) w2 wr ∧ wr.ownsRow (w.heap.size + 1 + 1 + 1) 3 1 (.slice (some ⟨w.heap.size + 1 + 1 + 1, 0, none⟩) n n) n (vi xs) ∧ Hid (Mk a b k 0 xs)) (fun i _ => a.length - (intOf i).toNat)
  case atStart => exact ⟨0, _, Nat.zero_le _, rfl, Below.refl _ _, OWN.out, Mk.zero a b⟩
  case round =>
    obtain ⟨i, xs0, hi, rfl, hbel0, hown0, HM0⟩ := hrel
    have R0 := X0.keep hbel0 (by omega)
    have R1 := X1.keep hbel0 (by omega)
    have R2 := X2.keep hbel0 (by omega)
    obtain ⟨t1, t2, t3, t4⟩ := R0.cells
    obtain ⟨t5, t6, t7, t8⟩ := R1.cells
    have hb0 := hbel0.size
    by_cases hlt : i < a.length
    · obtain ⟨wo, rfl⟩ : ∃ wo : World, wo = wr := ⟨_, rfl⟩
      obtain ⟨ba, oa, rfl, hba, hca'⟩ := HGA.out i hlt
      have OW0 := Lib.hid hown0
      have HB0 := Lib.hid hbel0
      clear hown0 hbel0 R0 R1 R2
      have hi1 : (i : Int) < (a.length : Int) := by omega
      go_wp2
      go_loopw [7] (fun kv wr => ∃ (k : Nat) (xs : List Int), k ≤ b.length ∧ kv = .int .i64 k ∧ Below (w.heap.size + 1 + 1 + 1) w2 wr ∧ wr.ownsRow (w.heap.size + 1 + 1 + 1) 3 1 (.slice (some ⟨w.heap.size + 1 + 1 + 1, 0, none⟩) n n) n (vi xs) ∧ Hid (Mk a b i k xs)) (fun kv _ => b.length - (intOf kv).toNat)
      case atStart => exact ⟨0, xs0, Nat.zero_le _, rfl, HB0.out, OW0.out, HM0.out⟩
      case round =>
        obtain ⟨k, xs, hk, rfl, hbel, hown, HM⟩ := hrel
        clear t1 t2 t3 t4 t5 t6 t7 t8
        have R0 := X0.keep hbel (by omega)
        have R1 := X1.keep hbel (by omega)
        have kr := K2.out.trans (hbel.mono (by omega))
        obtain ⟨t1, t2, t3, t4⟩ := R0.cells
        obtain ⟨t5, t6, t7, t8⟩ := R1.cells
        by_cases hlk : k < b.length
        · obtain ⟨bb, ob, rfl, hbb, hcb'⟩ := HGB.out k hlk
          have c1 := (kr.cell (p := ⟨bb, ob + k, none⟩) hbb).trans hcb'
          have c0 := (kr.cell (p := ⟨ba, oa + i, none⟩) hba).trans hca'
          obtain ⟨j, hj⟩ : ∃ j, j = i + k := ⟨_, rfl⟩
          have hjn : j < n := by have := HN.out; omega
          have hjs : (i : Int) + (k : Int) = (j : Int) := by omega
          have hlx := HM.out.1
          have c2 : wr.cell? ⟨w.heap.size + 1 + 1 + 1, j, none⟩ = some (.int .i64 (xs.getD j 0)) := by
            rw [hown.cellAt j (by omega)]
            have : j < xs.length := by have := HN.out; omega
            simp [vi, List.getD_eq_getElem?_getD, this]
          have c3 := hown.frozenAt j
          obtain ⟨p, hp⟩ : ∃ p : Int, ((a.getD i 0 : Nat) : Int) * ((b.getD k 0 : Nat) : Int) = p := ⟨_, rfl⟩
          have ha9 := DA.out.getD i
          have hb9 := DB.out.getD k
          have hp0 : 0 ≤ p := by rw [← hp]; exact Int.mul_nonneg (by omega) (by omega)
          have hp1 : p ≤ 99980001 := by
            rw [← hp]
            have h1 : ((a.getD i 0 : Nat) : Int) * ((b.getD k 0 : Nat) : Int) ≤ 9999 * 9999 := Int.mul_le_mul (by omega) (by omega) (by omega) (by omega)
            omega
          have hx0 := (HM.out.2.2.1 j).1
          have hx1 := HM.out.2.2.2 j (by omega)
          have hx2 : xs.getD j 0 ≤ 90000000000 := by omega
          have ST := HM.out.step hlt hlk hp hp0 hp1
          rw [← hj] at ST
          have STH := Lib.hid ST
          have hst := (hown.stored j (.int .i64 (xs.getD j 0 + p))).1
          rw [show (vi xs).set j (.int .i64 (xs.getD j 0 + p)) = vi (xs.set j (xs.getD j 0 + p)) by simp [vi]] at hst
          have HST := Lib.hid hst
          have HB2 := Lib.hid (hbel.setCell (p := ⟨w.heap.size + 1 + 1 + 1, j, none⟩) (Nat.le_refl _) (.int .i64 (xs.getD j 0 + p)))
          have HJ := Lib.hid hj
          have HX := Lib.hid hlx
          clear ST hst hx1 hj hlx
          generalize xs.getD j 0 = x at *
          have e1 : IntKind.i64.wrap (j : Int) = (j : Int) := IntWalk.i64_in _ (by omega)
          have e2 : IntKind.i64.wrap (((a.getD i 0 : Nat) : Int) * ((b.getD k 0 : Nat) : Int)) = p := by rw [hp]; exact IntWalk.i64_in _ (by omega)
          have e3 : IntKind.i64.wrap (x + p) = x + p := IntWalk.i64_in _ (by omega)
          generalize b.getD k 0 = bk at *
          generalize a.getD i 0 = ai at *
          have hk2 : (k : Int) < (b.length : Int) := by omega
          have hj2 : (j : Int) < (n : Int) := by omega
          clear hp hcb' hca'
          go_wp2
          go_still_tail 23, (by kernel_rfl)
          go_wp2
          go_roundw
          case rel => exact ⟨k + 1, xs.set j (x + p), by omega, by go_num, HB2.out.drew, HST.out.drew, STH.out⟩
          case measure => simp [intOf]; omega
        · obtain rfl : k = b.length := by omega
          have OW1 := Lib.hid hown
          have HM1 := Lib.hid HM.out.row
          clear hown
          go_wp2
          go_roundw
          case rel => exact ⟨i + 1, xs, by omega, by go_num, hbel, OW1.out, HM1.out⟩
          case measure => simp [intOf]; omega
    · obtain rfl : i = a.length := by omega
      have kr := K2.out.trans (hbel0.mono (by omega))
      have HSL := Lib.hid (SlI.of_ownI hown0 (by have := HM0.out.1; omega))
      have HV : Hid (iv xs0 = (y.natAbs : Int) * z.natAbs) := by
        have h := HM0.out.all
        rw [RA.out, RB.out] at h
        exact h
      have HL : Hid (xs0.length ≤ 2000) := by have h1 := HM0.out.1; have h2 := HN.out; show _ ≤ _; omega
      have HMB : Hid (∀ i, -100000000000000 ≤ xs0.getD i 0 ∧ xs0.getD i 0 ≤ 100000000000000) := fun j => by have := HM0.out.2.2.1 j; omega
      have es : ys * zs = s1 := HS1.out
      clear hown0
      go_wp2_with fail
      refine (made_any _ _ _ _ HSL.out HMB.out (by rw [HV.out]; exact Int.mul_nonneg (by omega) (by omega)) HL.out).mono ?_
      rintro e w3 ⟨hb3, v3, rfl, h3⟩
      rw [HV.out, ← SA.out] at h3
      have HZ := Lib.hid (h3.toZ (fun h => by rw [← SC.out h, HS1.out]))
      clear h3
      have R3 := R2.keep hb3 (by omega)
      obtain ⟨m1, m2, m3, m4⟩ := R3.cells
      have kf := kr.trans (hb3.mono (by omega))
      obtain ⟨sg, pz, lz, cz, rfl⟩ : ∃ (sg : Int) (p : Option Addr) (l c : Nat), v3 = .agg #[.int .i64 sg, .slice p l c] := ⟨_, HZ.out.agg⟩
      obtain ⟨g1, g2⟩ := two_cells m1 m2 (.int .i64 sg) (.slice pz lz cz)
      have HF := Lib.hid (HZ.out.store R3.noI (grown2 w3 (w.heap.size + 1 + 1) 0 1 (.int .i64 sg) (.slice pz lz cz)))
      clear hb3 t1 t2 t3 t4 t5 t6 t7 t8
      go_wp2
      exact bodyPost_ret (v := .agg #[.int .i64 sg, .slice pz lz cz]) (by simp [results, Try.results19, go_sem, g1, g2]) rfl ⟨(kf.setCell (by simp; omega) _).setCell (by simp; omega) _, _, rfl, HF.out⟩
end Go.Proofs.Ytjjomjjgoceklaa
