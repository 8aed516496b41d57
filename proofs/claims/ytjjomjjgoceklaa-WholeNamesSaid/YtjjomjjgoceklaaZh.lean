import Derived.Test.YtjjomjjgoceklaaZf
namespace Go.Proofs.Ytjjomjjgoceklaa
open Go.RowKit Go.Shelf

theorem natP_one (s : ByteArray) (h : s.size = 1) (h1 : 49 ≤ byteAt s 0) (h2 : byteAt s 0 ≤ 57) : NatP s :=
  ⟨fun j hj => by obtain rfl : j = 0 := by omega
                  omega, .inr ⟨by omega, by omega⟩⟩
theorem parse_dd (s : ByteArray) (x y : Nat) (w : World) (hs : s.size = 3) (hi : Lib.indexByte s.data.toList 47 = ((1 : Nat) : Int)) (hx : byteAt s 0 = 48 + x) (hy : byteAt s 2 = 48 + y) (hx1 : 1 ≤ x) (hx9 : x ≤ 9) (hy1 : 1 ≤ y) (hy9 : y ≤ 9) :
    Calls Try.prog 33 #[.string s] w (PRe (Int.tdiv x (Nat.gcd x y : Nat)) (y / Nat.gcd x y) 0 w) := by
  have e1 : byteAt (s.extract 0 1) 0 = 48 + x := by rw [byteAt_extract s 0 1 0 (by omega) (by omega)]; exact hx
  have e2 : byteAt (s.extract (1 + 1) s.size) 0 = 48 + y := by rw [byteAt_extract s (1 + 1) s.size 0 (by omega) (by omega)]; exact hy
  refine parse_pos s 1 x y w (by omega) hi (by omega) (by omega) (by omega) (natP_one _ (by rw [extract_size _ _ _ (by omega)]) (by omega) (by omega))
    (natP_one _ (by rw [extract_size _ _ _ (by omega)]; omega) (by omega) (by omega)) ?_ ?_ (by omega) (ratC_small _ _ (by unfold Wd WB; omega) (by unfold Wd WB; omega) (by omega))
  · simp only [dec]; omega
  · rw [show s.size - (1 + 1) = 1 by omega]
    simp only [dec]; omega
/-- any ratio of small numbers: its sum is right -/
theorem addOK_small (an bn : Int) (p q : Nat) (n : Int) (hn : n = an * (q / Nat.gcd p q : Nat) + bn * (p / Nat.gcd p q : Nat)) (lp : p < 1000) (lq : q < 1000) (la : an.natAbs < 1000) (lb : bn.natAbs < 1000) (lan : (an * (q / Nat.gcd p q : Nat)).natAbs < 1000000) (lbn : (bn * (p / Nat.gcd p q : Nat)).natAbs < 1000000) (c : Int × Nat)
    (hc : c = (Int.tdiv n (Nat.gcd n.natAbs (Nat.gcd p q) : Nat), (p / Nat.gcd p q) * (q / Nat.gcd n.natAbs (Nat.gcd p q)))) : AddOK (an, p) (bn, q) c := by
  intro va vb w ha hb
  rw [hc]
  have sz : ∀ m : Nat, m < 1000000 → Sz m := fun m hm => ⟨1, by omega, by unfold WB; omega⟩
  exact radd_any WB va vb an bn p q w ha hb Num.small (by unfold WB; omega) (by unfold WB; omega) n hn (by unfold WB; omega) (sz _ (by omega)) (sz _ (by omega)) (sz _ (by omega)) (sz _ (by omega)) (sz _ lan) (sz _ lbn)
theorem add_a : AddOK (0, 1) (1, 2) (1, 2) := addOK_small 0 1 1 2 1 (by decide) (by decide) (by decide) (by decide) (by decide) (by decide) (by decide) _ (by decide)
theorem add_b : AddOK (1, 2) (1, 3) (5, 6) := addOK_small 1 1 2 3 5 (by decide) (by decide) (by decide) (by decide) (by decide) (by decide) (by decide) _ (by decide)
theorem add_c : AddOK (5, 6) (1, 6) (1, 1) := addOK_small 5 1 6 6 6 (by decide) (by decide) (by decide) (by decide) (by decide) (by decide) (by decide) _ (by decide)
theorem p64 (w : World) : Calls Try.prog 33 #[.string ⟨#[54, 47, 52]⟩] w (PRe 3 2 0 w) := parse_dd ⟨#[54, 47, 52]⟩ 6 4 w rfl rfl rfl rfl (by decide) (by decide) (by decide) (by decide)
theorem p12 (w : World) : Calls Try.prog 40 #[.string ⟨#[49, 47, 50]⟩] w (PR 1 2 w) := r_any _ 1 2 0 w fun W => parse_dd ⟨#[49, 47, 50]⟩ 1 2 W rfl rfl rfl rfl (by decide) (by decide) (by decide) (by decide)
theorem p13 (w : World) : Calls Try.prog 40 #[.string ⟨#[49, 47, 51]⟩] w (PR 1 3 w) := r_any _ 1 3 0 w fun W => parse_dd ⟨#[49, 47, 51]⟩ 1 3 W rfl rfl rfl rfl (by decide) (by decide) (by decide) (by decide)
theorem p16 (w : World) : Calls Try.prog 40 #[.string ⟨#[49, 47, 54]⟩] w (PR 1 6 w) := r_any _ 1 6 0 w fun W => parse_dd ⟨#[49, 47, 54]⟩ 1 6 W rfl rfl rfl rfl (by decide) (by decide) (by decide) (by decide)
/-! texts -/
theorem decL_small {n : Nat} (h : n < 10) : decL n = [⟨n, h⟩] := by
  unfold decL
  rw [nd_small h]
  simp [padL, digAt, Nat.mod_eq_of_lt h]
theorem nd_le {n : Nat} (h : n < 10) : nd n ≤ 100000 := by rw [nd_small h]; decide
theorem grC_ten {n : Nat} (h : n < 10) : GrC n := grC_small n (by unfold T19; omega)
theorem tx4 : txt (-4) = ⟨#[45, 52]⟩ := by unfold txt txtL; rw [show (-4 : Int).natAbs = 4 from rfl, decL_small (by decide)]; rfl
theorem tx1 : txt 1 = ⟨#[49]⟩ := by unfold txt txtL; rw [show (1 : Int).natAbs = 1 from rfl, decL_small (by decide)]; rfl
theorem tx6 : txt 6 = ⟨#[54]⟩ := by unfold txt txtL; rw [show (6 : Int).natAbs = 6 from rfl, decL_small (by decide)]; rfl
theorem tx32 : txtR 3 2 = ⟨#[51, 47, 50]⟩ := by
  unfold txtR
  rw [if_neg (by decide)]
  unfold txtL
  rw [show (3 : Int).natAbs = 3 from rfl, show (((2 : Nat) : Int)).natAbs = 2 from rfl, decL_small (by decide), decL_small (by decide)]
  rfl
theorem tx11 : txtR 1 1 = ⟨#[49]⟩ := by unfold txtR; rw [if_pos rfl]; exact tx1
def PSt (b : ByteArray) (w : World) (e : Ending) (w' : World) : Prop := Below w.heap.size w w' ∧ e = .returned (.string b)
theorem text4 (v : Value) (w : World) (h : Zr w v (-4)) : Calls Try.prog 39 #[v] w (PSt ⟨#[45, 52]⟩ w) := (text_any v (-4) w h (grC_ten (by decide)) (nd_le (by decide))).mono fun _ _ ⟨a, b⟩ => ⟨a, by rw [b, tx4]⟩
theorem text1 (v : Value) (w : World) (h : Zr w v 1) : Calls Try.prog 39 #[v] w (PSt ⟨#[49]⟩ w) := (text_any v 1 w h (grC_ten (by decide)) (nd_le (by decide))).mono fun _ _ ⟨a, b⟩ => ⟨a, by rw [b, tx1]⟩
theorem text6 (v : Value) (w : World) (h : Zr w v 6) : Calls Try.prog 39 #[v] w (PSt ⟨#[54]⟩ w) := (text_any v 6 w h (grC_ten (by decide)) (nd_le (by decide))).mono fun _ _ ⟨a, b⟩ => ⟨a, by rw [b, tx6]⟩
theorem rtext32 (v : Value) (w : World) (h : Rr w v 3 2) : Calls Try.prog 41 #[v] w (PSt ⟨#[51, 47, 50]⟩ w) := (rtext_any v 3 2 w h (grC_ten (by decide)) (nd_le (by decide)) (grC_ten (by decide)) (nd_le (by decide))).mono fun _ _ ⟨a, b⟩ => ⟨a, by rw [b, tx32]⟩
theorem rtext1 (v : Value) (w : World) (h : Rr w v 1 1) : Calls Try.prog 41 #[v] w (PSt ⟨#[49]⟩ w) := (rtext_any v 1 1 w h (grC_ten (by decide)) (nd_le (by decide)) (grC_ten (by decide)) (nd_le (by decide))).mono fun _ _ ⟨a, b⟩ => ⟨a, by rw [b, tx11]⟩
theorem wd_lit (n : Nat) (h : n < 1000000) : Wd n := by unfold Wd WB; omega
theorem sz_lit (n : Nat) (h : n < 1000000) : Sz n := ⟨1, by omega, by unfold WB; omega⟩
theorem quo72 (va vd : Value) (w : World) (ha : Zr w va (-7)) (hb : Zr w vd 2) : Calls Try.prog 30 #[va, vd] w (PQ (-4) 1 0 w) :=
  quotient_any va vd (-7) 2 w ha hb (by decide) (over_small 7 2 (wd_lit _ (by decide)) (wd_lit _ (by decide)) (by decide)) (sz_lit _ (by decide)) (sz_lit _ (by decide))
theorem gcd1218 (va vb : Value) (w : World) (ha : Zr w va (-12)) (hb : Zr w vb 18) : Calls Try.prog 28 #[va, vb] w (PZ 6 w) :=
  gcd_any va vb (-12) 18 w ha hb (common_small 12 18 (wd_lit _ (by decide)) (wd_lit _ (by decide)))
end Go.Proofs.Ytjjomjjgoceklaa
namespace Go.Proofs.Ytjjomjjgoceklaa
open Go.RowKit Go.Shelf

def wl : Nat → Int × Nat
  | 0 => (1, 2)
  | 1 => (1, 3)
  | _ => (1, 6)
def wa : Nat → Int × Nat
  | 0 => (0, 1)
  | 1 => (1, 2)
  | 2 => (5, 6)
  | _ => (1, 1)
theorem wa_ok : ∀ k, k < 3 → AddOK (wa k) (wl k) (wa (k + 1))
  | 0, _ => add_a
  | 1, _ => add_b
  | 2, _ => add_c
theorem slR3 {w : World} {sa : Bool} {xa : Int} {pa : Option Addr} {ya : Int} {qa : Option Addr} {sb : Bool} {xb : Int} {pb : Option Addr} {yb : Int} {qb : Option Addr} {sc : Bool} {xc : Int} {pc : Option Addr} {yc : Int} {qc : Option Addr}
    (h0 : Rr w (.agg #[.bool sa, .int .u64 xa, .pointer pa, .int .u64 ya, .pointer qa]) 1 2) (h1 : Rr w (.agg #[.bool sb, .int .u64 xb, .pointer pb, .int .u64 yb, .pointer qb]) 1 3) (h2 : Rr w (.agg #[.bool sc, .int .u64 xc, .pointer pc, .int .u64 yc, .pointer qc]) 1 6) :
    SlR (w.alloc (.cells #[.bool sa, .int .u64 xa, .pointer pa, .int .u64 ya, .pointer qa, .bool sb, .int .u64 xb, .pointer pb, .int .u64 yb, .pointer qb, .bool sc, .int .u64 xc, .pointer pc, .int .u64 yc, .pointer qc] 61)) w.heap.size 3 wl := by
  refine ⟨by simp, fun i hi => ?_⟩
  match i, hi with
  | 0, _ => exact ⟨sa, xa, pa, ya, qa, by simp [go_sem], by simp [go_sem], by simp [go_sem], by simp [go_sem], by simp [go_sem], h0.keep (bl1 _ _) (Nat.le_refl _)⟩
  | 1, _ => exact ⟨sb, xb, pb, yb, qb, by simp [go_sem], by simp [go_sem], by simp [go_sem], by simp [go_sem], by simp [go_sem], h1.keep (bl1 _ _) (Nat.le_refl _)⟩
  | 2, _ => exact ⟨sc, xc, pc, yc, qc, by simp [go_sem], by simp [go_sem], by simp [go_sem], by simp [go_sem], by simp [go_sem], h2.keep (bl1 _ _) (Nat.le_refl _)⟩
set_option maxRecDepth 100000 in
set_option maxHeartbeats 1600000 in
theorem awake_any (w : World) : Calls Try.prog 27 #[] w (PB true w) := by
  go_enter Try.func27, Try.ntmps27
  go_wp2_with fail
  refine (int_any (-7) _ (by unfold I64; omega)).mono ?_
  rintro e w1 ⟨hb1, v1, rfl, h1⟩
  go_wp2_with fail
  refine (int_any 2 _ (by unfold I64; omega)).mono ?_
  rintro e w2 ⟨hb2, v2, rfl, h2⟩
  go_wp2_with fail
  refine (quo72 _ _ _ (h1.keep hb2 (Nat.le_refl _)) h2).mono ?_
  rintro e w3 ⟨hb3, v3, v4, rfl, h3, h4⟩
  have k3 := (hb1.trans (hb2.mono hb1.size)).trans (hb3.mono (Nat.le_trans hb1.size hb2.size))
  clear hb1 hb2 hb3 h1 h2
  obtain ⟨s3, x3, p3, rfl, _⟩ := h3.dg
  obtain ⟨s4, x4, p4, rfl, _⟩ := h4.dg
  have H3 := Lib.hid h3
  have H4 := Lib.hid h4
  clear h3 h4
  go_wp2_with fail
  refine (p64 _).mono ?_
  rintro e w5 ⟨hb5, v5, rfl, h5⟩
  obtain ⟨s5, x5, p5, y5, q5, rfl⟩ := h5.agg
  have H5 := Lib.hid h5
  clear h5
  have z5 : w3.heap.size + 1 < w5.heap.size := Nat.lt_of_lt_of_le (by simp) hb5.size
  have a0 : w5.cell? ⟨w3.heap.size, 0, none⟩ = some (.bool s3) := (hb5.cell (p := ⟨w3.heap.size, 0, none⟩) (by simp; omega)).trans (by simp [go_sem, World.cell?_alloc_past])
  have a1 : w5.cell? ⟨w3.heap.size, 1, none⟩ = some (.int .u64 x3) := (hb5.cell (p := ⟨w3.heap.size, 1, none⟩) (by simp; omega)).trans (by simp [go_sem, World.cell?_alloc_past])
  have a2 : w5.cell? ⟨w3.heap.size, 2, none⟩ = some (.pointer p3) := (hb5.cell (p := ⟨w3.heap.size, 2, none⟩) (by simp; omega)).trans (by simp [go_sem, World.cell?_alloc_past])
  have b0 : w5.cell? ⟨w3.heap.size + 1, 0, none⟩ = some (.bool s4) := (hb5.cell (p := ⟨w3.heap.size + 1, 0, none⟩) (by simp)).trans (by simp [go_sem])
  have b1 : w5.cell? ⟨w3.heap.size + 1, 1, none⟩ = some (.int .u64 x4) := (hb5.cell (p := ⟨w3.heap.size + 1, 1, none⟩) (by simp)).trans (by simp [go_sem])
  have b2 : w5.cell? ⟨w3.heap.size + 1, 2, none⟩ = some (.pointer p4) := (hb5.cell (p := ⟨w3.heap.size + 1, 2, none⟩) (by simp)).trans (by simp [go_sem])
  have g5 := (bl2 w3 (Obj.cells #[Value.bool s3, Value.int IntKind.u64 x3, Value.pointer p3] 29) (Obj.cells #[Value.bool s4, Value.int IntKind.u64 x4, Value.pointer p4] 29)).trans (hb5.mono (by simp; omega))
  have H3' := Lib.hid (H3.out.keep (g5.trans ((bl1 w5 (Obj.cells #[Value.bool s5, Value.int IntKind.u64 x5, Value.pointer p5, Value.int IntKind.u64 y5, Value.pointer q5] 61)).mono g5.size)) (Nat.le_refl _))
  have H4' := Lib.hid (H4.out.keep (g5.trans ((bl1 w5 (Obj.cells #[Value.bool s5, Value.int IntKind.u64 x5, Value.pointer p5, Value.int IntKind.u64 y5, Value.pointer q5] 61)).mono g5.size)) (Nat.le_refl _))
  have H5' := Lib.hid (H5.out.keep (bl1 w5 (Obj.cells #[Value.bool s5, Value.int IntKind.u64 x5, Value.pointer p5, Value.int IntKind.u64 y5, Value.pointer q5] 61)) (Nat.le_refl _))
  have k5 := k3.trans ((g5.trans ((bl1 w5 (Obj.cells #[Value.bool s5, Value.int IntKind.u64 x5, Value.pointer p5, Value.int IntKind.u64 y5, Value.pointer q5] 61)).mono g5.size)).mono k3.size)
  have zA : w3.heap.size < w5.heap.size := by omega
  clear hb5 g5 k3 H3 H4 H5
  go_wp2_with fail
  generalize hW : w5.alloc (Obj.cells #[Value.bool s5, Value.int IntKind.u64 x5, Value.pointer p5, Value.int IntKind.u64 y5, Value.pointer q5] 61) = W5 at *
  have b0 : W5.cell? ⟨w3.heap.size + 1, 0, none⟩ = some (.bool s4) := by rw [← hW]; rw [World.cell?_alloc_old _ _ _ (by simp; omega)]; exact b0
  have b1 : W5.cell? ⟨w3.heap.size + 1, 1, none⟩ = some (.int .u64 x4) := by rw [← hW]; rw [World.cell?_alloc_old _ _ _ (by simp; omega)]; exact b1
  have b2 : W5.cell? ⟨w3.heap.size + 1, 2, none⟩ = some (.pointer p4) := by rw [← hW]; rw [World.cell?_alloc_old _ _ _ (by simp; omega)]; exact b2
  have d0 : W5.cell? ⟨w5.heap.size, 0, none⟩ = some (.bool s5) := by rw [← hW]; simp [go_sem]
  have d1 : W5.cell? ⟨w5.heap.size, 1, none⟩ = some (.int .u64 x5) := by rw [← hW]; simp [go_sem]
  have d2 : W5.cell? ⟨w5.heap.size, 2, none⟩ = some (.pointer p5) := by rw [← hW]; simp [go_sem]
  have d3 : W5.cell? ⟨w5.heap.size, 3, none⟩ = some (.int .u64 y5) := by rw [← hW]; simp [go_sem]
  have d4 : W5.cell? ⟨w5.heap.size, 4, none⟩ = some (.pointer q5) := by rw [← hW]; simp [go_sem]
  have zz : w5.heap.size < W5.heap.size := by rw [← hW]; simp
  have zy : w3.heap.size + 1 < W5.heap.size := by omega
  clear hW
  refine (text4 _ _ H3'.out).mono ?_
  rintro e w6 ⟨hb6, rfl⟩
  replace b0 := (hb6.cell (p := ⟨w3.heap.size + 1, 0, none⟩) zy).trans b0
  replace b1 := (hb6.cell (p := ⟨w3.heap.size + 1, 1, none⟩) zy).trans b1
  replace b2 := (hb6.cell (p := ⟨w3.heap.size + 1, 2, none⟩) zy).trans b2
  have H4 := Lib.hid (H4'.out.keep hb6 (Nat.le_refl _))
  have H5 := Lib.hid (H5'.out.keep hb6 (Nat.le_refl _))
  clear a0 a1 a2 H3' H4' H5'
  go_wp2_with fail
  refine (text1 _ _ H4.out).mono ?_
  rintro e w7 ⟨hb7, rfl⟩
  have k7 := hb6.trans (hb7.mono hb6.size)
  replace d0 := (k7.cell (p := ⟨w5.heap.size, 0, none⟩) zz).trans d0
  replace d1 := (k7.cell (p := ⟨w5.heap.size, 1, none⟩) zz).trans d1
  replace d2 := (k7.cell (p := ⟨w5.heap.size, 2, none⟩) zz).trans d2
  replace d3 := (k7.cell (p := ⟨w5.heap.size, 3, none⟩) zz).trans d3
  replace d4 := (k7.cell (p := ⟨w5.heap.size, 4, none⟩) zz).trans d4
  have H5b := Lib.hid (H5.out.keep hb7 (Nat.le_refl _))
  replace k7 := k5.trans (k7.mono k5.size)
  clear b0 b1 b2 H4 H5 hb6 hb7 k5
  go_wp2_with fail
  refine (rtext32 _ _ H5b.out).mono ?_
  rintro e w8 ⟨hb8, rfl⟩
  replace k7 := k7.trans (hb8.mono k7.size)
  clear d0 d1 d2 d3 d4 H5b hb8
  go_wp2_with fail
  refine (int_any (-12) _ (by unfold I64; omega)).mono ?_
  rintro e w9 ⟨hb9, v9, rfl, h9⟩
  have H9 := Lib.hid h9
  clear h9
  go_wp2_with fail
  refine (int_any 18 _ (by unfold I64; omega)).mono ?_
  rintro e w10 ⟨hb10, v10, rfl, h10⟩
  have H10 := Lib.hid h10
  clear h10
  go_wp2_with fail
  refine (gcd1218 _ _ _ (H9.out.keep hb10 (Nat.le_refl _)) H10.out).mono ?_
  rintro e w11 ⟨hb11, v11, rfl, h11⟩
  have H11 := Lib.hid h11
  clear h11 H9 H10
  go_wp2_with fail
  refine (text6 _ _ H11.out).mono ?_
  rintro e w12 ⟨hb12, rfl⟩
  have j9 := k7.trans (hb9.mono k7.size)
  have j10 := j9.trans (hb10.mono j9.size)
  have j11 := j10.trans (hb11.mono j10.size)
  have j12 := j11.trans (hb12.mono j11.size)
  clear hb9 hb10 hb11 hb12 j9 j10 j11 H11 k7
  go_wp2_with fail
  refine (p12 _).mono ?_
  rintro e w13 ⟨hb13, v13, rfl, h13⟩
  obtain ⟨sa, xa, pa, ya, qa, rfl⟩ := h13.agg
  have H13 := Lib.hid h13
  clear h13
  go_wp2_with fail
  refine (p13 _).mono ?_
  rintro e w14 ⟨hb14, v14, rfl, h14⟩
  obtain ⟨sb, xb, pb, yb, qb, rfl⟩ := h14.agg
  have H14 := Lib.hid h14
  have H13b := Lib.hid (H13.out.keep hb14 (Nat.le_refl _))
  clear h14 H13
  go_wp2_with fail
  refine (p16 _).mono ?_
  rintro e w15 ⟨hb15, v15, rfl, h15⟩
  obtain ⟨sc, xc, pc, yc, qc, rfl⟩ := h15.agg
  have R0 : Hid (Rr w15 (.agg #[.bool sa, .int .u64 xa, .pointer pa, .int .u64 ya, .pointer qa]) 1 2) := H13b.out.keep hb15 (Nat.le_refl _)
  have R1 : Hid (Rr w15 (.agg #[.bool sb, .int .u64 xb, .pointer pb, .int .u64 yb, .pointer qb]) 1 3) := H14.out.keep hb15 (Nat.le_refl _)
  have R2 : Hid (Rr w15 (.agg #[.bool sc, .int .u64 xc, .pointer pc, .int .u64 yc, .pointer qc]) 1 6) := h15
  have j13 := j12.trans (hb13.mono j12.size)
  have j14 := j13.trans (hb14.mono j13.size)
  have j15 := j14.trans (hb15.mono j14.size)
  clear hb13 hb14 hb15 j12 j13 j14 h15 H13b H14
  go_wp2_with fail
  refine (sum_any _ 3 _ wl wa _ (slR3 R0.out R1.out R2.out) (by decide) rfl wa_ok).mono ?_
  rintro e w16 ⟨hb16, v16, rfl, h16⟩
  have H16 : Hid (Rr w16 v16 1 1) := h16
  have j16 := j15.trans (((bl1 _ _).trans (hb16.mono (by simp))).mono j15.size)
  clear hb16 h16 R0 R1 R2 j15
  go_wp2_with fail
  refine (rtext1 _ _ H16.out).mono ?_
  rintro e w17 ⟨hb17, rfl⟩
  replace j16 := j16.trans (hb17.mono j16.size)
  clear hb17 H16
  go_wp2
  go_ret
  exact ⟨j16, rfl⟩
end Go.Proofs.Ytjjomjjgoceklaa
