import Derived.Test.YtaflmokphgjhnaaZf
namespace Go.Proofs.Ytaflmokphgjhnaa
open Go.RowKit Go.Shelf

theorem natP_one (s : ByteArray) (h : s.size = 1) (h1 : 49 ≤ byteAt s 0) (h2 : byteAt s 0 ≤ 57) : NatP s :=
  ⟨fun j hj => by obtain rfl : j = 0 := by omega
                  omega, .inr ⟨by omega, by omega⟩⟩
theorem parse_dd (s : ByteArray) (x y : Nat) (w : World) (hs : s.size = 3) (hi : Lib.indexByte s.data.toList 47 = ((1 : Nat) : Int)) (hx : byteAt s 0 = 48 + x) (hy : byteAt s 2 = 48 + y) (hx1 : 1 ≤ x) (hx9 : x ≤ 9) (hy1 : 1 ≤ y) (hy9 : y ≤ 9) :
    Calls Try.prog 33 #[.string s] w (PRe (Int.tdiv x (Nat.gcd x y : Nat)) (y / Nat.gcd x y) 0 w) := by
  have e1 : byteAt (s.extract 0 1) 0 = 48 + x := by rw [byteAt_extract s 0 1 0 (by omega) (by omega)]; exact hx
  have e2 : byteAt (s.extract (1 + 1) s.size) 0 = 48 + y := by rw [byteAt_extract s (1 + 1) s.size 0 (by omega) (by omega)]; exact hy
  refine parse_pos s 1 x y w (by omega) hi (by omega) (by omega) (by omega) (natP_one _ (by rw [extract_size _ _ _ (by omega)]) (by omega) (by omega))
    (natP_one _ (by rw [extract_size _ _ _ (by omega)]; omega) (by omega) (by omega)) ?_ ?_ (by omega) (ratC_small _ _ (by unfold Wd WB; omega) (by unfold Wd WB; omega) (by omega))
  · simp only [dec]; omega
  · rw [show s.size - (1 + 1) = 1 by omega]
    simp only [dec]; omega
/-- any ratio of small numbers: its sum is right -/
theorem addOK_small (an bn : Int) (p q : Nat) (n : Int) (hn : n = an * (q / Nat.gcd p q : Nat) + bn * (p / Nat.gcd p q : Nat)) (lp : p < 1000) (lq : q < 1000) (la : an.natAbs < 1000) (lb : bn.natAbs < 1000) (lan : (an * (q / Nat.gcd p q : Nat)).natAbs < 1000000) (lbn : (bn * (p / Nat.gcd p q : Nat)).natAbs < 1000000) (c : Int × Nat)
    (hc : c = (Int.tdiv n (Nat.gcd n.natAbs (Nat.gcd p q) : Nat), (p / Nat.gcd p q) * (q / Nat.gcd n.natAbs (Nat.gcd p q)))) : AddOK (an, p) (bn, q) c := by
  intro va vb w ha hb
  rw [hc]
  have sz : ∀ m : Nat, m < 1000000 → Sz m := fun m hm => ⟨1, by omega, by unfold WB; omega⟩
  exact radd_any WB va vb an bn p q w ha hb Num.small (by unfold WB; omega) (by unfold WB; omega) n hn (by unfold WB; omega) (sz _ (by omega)) (sz _ (by omega)) (sz _ (by omega)) (sz _ (by omega)) (sz _ lan) (sz _ lbn)
theorem add_a : AddOK (0, 1) (1, 2) (1, 2) := addOK_small 0 1 1 2 1 (by decide) (by decide) (by decide) (by decide) (by decide) (by decide) (by decide) _ (by decide)
theorem add_b : AddOK (1, 2) (1, 3) (5, 6) := addOK_small 1 1 2 3 5 (by decide) (by decide) (by decide) (by decide) (by decide) (by decide) (by decide) _ (by decide)
theorem add_c : AddOK (5, 6) (1, 6) (1, 1) := addOK_small 5 1 6 6 6 (by decide) (by decide) (by decide) (by decide) (by decide) (by decide) (by decide) _ (by decide)
theorem p64 (w : World) : Calls Try.prog 33 #[.string ⟨#[54, 47, 52]⟩] w (PRe 3 2 0 w) := parse_dd ⟨#[54, 47, 52]⟩ 6 4 w rfl rfl rfl rfl (by decide) (by decide) (by decide) (by decide)
theorem p12 (w : World) : Calls Try.prog 40 #[.string ⟨#[49, 47, 50]⟩] w (PR 1 2 w) := r_any _ 1 2 0 w fun W => parse_dd ⟨#[49, 47, 50]⟩ 1 2 W rfl rfl rfl rfl (by decide) (by decide) (by decide) (by decide)
theorem p13 (w : World) : Calls Try.prog 40 #[.string ⟨#[49, 47, 51]⟩] w (PR 1 3 w) := r_any _ 1 3 0 w fun W => parse_dd ⟨#[49, 47, 51]⟩ 1 3 W rfl rfl rfl rfl (by decide) (by decide) (by decide) (by decide)
theorem p16 (w : World) : Calls Try.prog 40 #[.string ⟨#[49, 47, 54]⟩] w (PR 1 6 w) := r_any _ 1 6 0 w fun W => parse_dd ⟨#[49, 47, 54]⟩ 1 6 W rfl rfl rfl rfl (by decide) (by decide) (by decide) (by decide)
/-! texts -/
theorem decL_small {n : Nat} (h : n < 10) : decL n = [⟨n, h⟩] := by
  unfold decL
  rw [nd_small h]
  simp [padL, digAt, Nat.mod_eq_of_lt h]
theorem nd_le {n : Nat} (h : n < 10) : nd n ≤ 100000 := by rw [nd_small h]; decide
theorem grC_ten {n : Nat} (h : n < 10) : GrC n := grC_small n (by unfold T19; omega)
theorem tx4 : txt (-4) = ⟨#[45, 52]⟩ := by unfold txt txtL; rw [show (-4 : Int).natAbs = 4 from rfl, decL_small (by decide)]; rfl
theorem tx1 : txt 1 = ⟨#[49]⟩ := by unfold txt txtL; rw [show (1 : Int).natAbs = 1 from rfl, decL_small (by decide)]; rfl
theorem tx6 : txt 6 = ⟨#[54]⟩ := by unfold txt txtL; rw [show (6 : Int).natAbs = 6 from rfl, decL_small (by decide)]; rfl
theorem tx32 : txtR 3 2 = ⟨#[51, 47, 50]⟩ := by
  unfold txtR
  rw [if_neg (by decide)]
  unfold txtL
  rw [show (3 : Int).natAbs = 3 from rfl, show (((2 : Nat) : Int)).natAbs = 2 from rfl, decL_small (by decide), decL_small (by decide)]
  rfl
theorem tx11 : txtR 1 1 = ⟨#[49]⟩ := by unfold txtR; rw [if_pos rfl]; exact tx1
def PSt (b : ByteArray) (w : World) (e : Ending) (w' : World) : Prop := Below w.heap.size w w' ∧ e = .returned (.string b)
theorem text4 (v : Value) (w : World) (h : Zr w v (-4)) : Calls Try.prog 39 #[v] w (PSt ⟨#[45, 52]⟩ w) := (text_any v (-4) w h (grC_ten (by decide)) (nd_le (by decide))).mono fun _ _ ⟨a, b⟩ => ⟨a, by rw [b, tx4]⟩
theorem text1 (v : Value) (w : World) (h : Zr w v 1) : Calls Try.prog 39 #[v] w (PSt ⟨#[49]⟩ w) := (text_any v 1 w h (grC_ten (by decide)) (nd_le (by decide))).mono fun _ _ ⟨a, b⟩ => ⟨a, by rw [b, tx1]⟩
theorem text6 (v : Value) (w : World) (h : Zr w v 6) : Calls Try.prog 39 #[v] w (PSt ⟨#[54]⟩ w) := (text_any v 6 w h (grC_ten (by decide)) (nd_le (by decide))).mono fun _ _ ⟨a, b⟩ => ⟨a, by rw [b, tx6]⟩
theorem rtext32 (v : Value) (w : World) (h : Rr w v 3 2) : Calls Try.prog 41 #[v] w (PSt ⟨#[51, 47, 50]⟩ w) := (rtext_any v 3 2 w h (grC_ten (by decide)) (nd_le (by decide)) (grC_ten (by decide)) (nd_le (by decide))).mono fun _ _ ⟨a, b⟩ => ⟨a, by rw [b, tx32]⟩
theorem rtext1 (v : Value) (w : World) (h : Rr w v 1 1) : Calls Try.prog 41 #[v] w (PSt ⟨#[49]⟩ w) := (rtext_any v 1 1 w h (grC_ten (by decide)) (nd_le (by decide)) (grC_ten (by decide)) (nd_le (by decide))).mono fun _ _ ⟨a, b⟩ => ⟨a, by rw [b, tx11]⟩
theorem wd_lit (n : Nat) (h : n < 1000000) : Wd n := by unfold Wd WB; omega
theorem sz_lit (n : Nat) (h : n < 1000000) : Sz n := ⟨1, by omega, by unfold WB; omega⟩
theorem quo72 (va vd : Value) (w : World) (ha : Zr w va (-7)) (hb : Zr w vd 2) : Calls Try.prog 30 #[va, vd] w (PQ (-4) 1 0 w) :=
  quotient_any va vd (-7) 2 w ha hb (by decide) (over_small 7 2 (wd_lit _ (by decide)) (wd_lit _ (by decide)) (by decide)) (sz_lit _ (by decide)) (sz_lit _ (by decide))
theorem gcd1218 (va vb : Value) (w : World) (ha : Zr w va (-12)) (hb : Zr w vb 18) : Calls Try.prog 28 #[va, vb] w (PZ 6 w) :=
  gcd_any va vb (-12) 18 w ha hb (common_small 12 18 (wd_lit _ (by decide)) (wd_lit _ (by decide)))
end Go.Proofs.Ytaflmokphgjhnaa
