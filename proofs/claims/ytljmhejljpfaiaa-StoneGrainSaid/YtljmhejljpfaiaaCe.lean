import Derived.Test.YtljmhejljpfaiaaCd
namespace Go.Proofs.Ytljmhejljpfaiaa
set_option maxRecDepth 100000
open Go.RowKit Go.Shelf

/-! StoneChecks -/
theorem Pts.row {w : World} {v : Value} {l : List Pt} (h : Pts w v l) : ∃ p b o c, v = .slice p l.length c ∧ (l ≠ [] → p = Option.some ⟨b, o, none⟩) ∧ Row w b o l := by
  obtain ⟨_, p, c, rfl, rfl | ⟨b, o, rfl, hr, _⟩⟩ := h
  · exact ⟨p, 0, 0, c, rfl, fun h => absurd rfl h, fun i hi => absurd hi (by simp)⟩
  · exact ⟨_, b, o, c, rfl, fun _ => rfl, hr⟩
/-- true is handed back -/
def PT (w : World) (e : Ending) (w' : World) : Prop := e = .returned (.bool true) ∧ Below w.heap.size w w'
/-- whether a stone is valid, by the reference -/
theorem validv_any (s : SV) (v : Value) (w : World) (hn : s.nm.size ≤ maxLen) (h : Pts w v s.l) : Calls Try.prog 15 #[stv s v] w (PBt (Vld s) w) :=
  (valid_any s v w hn h).mono fun _e _w' ⟨⟨b, he, hb⟩, k⟩ => ⟨⟨b, he, hb.trans vld_vldR.symm⟩, k⟩
theorem stonev_any (s : SV) (v : Value) (w : World) (h : Pts w v s.l) (hm : s.l.length ≤ 1000000) : Calls Try.prog 17 #[stv s v] w fun e w' => (∃ v', e = .returned (stv s v') ∧ Own w' w.heap.size v' s.l) ∧ Below w.heap.size w w' := by
  obtain ⟨p, b, o, c, rfl, hp, hr⟩ := h.row
  exact stone_any s p b o c w hp hr hm
set_option maxHeartbeats 8000000 in
theorem checksL_any (s : SV) (p : Option Addr) (c : Nat) (w : World) (hn : s.nm.size ≤ maxLen) (hlm : s.l.length ≤ maxLen) (h : s.l.length ≤ 1000000 → Pts w (.slice p s.l.length c) s.l) : Calls Try.prog 3 #[stv s (.slice p s.l.length c)] w (PT w) := by
  have HV := Lib.hid (fun W (k : Below w.heap.size w W) (hm : s.l.length ≤ 1000000) => validv_any s (.slice p s.l.length c) W hn ((h hm).keep k))
  have HS := Lib.hid (fun W (k : Below w.heap.size w W) (hm : s.l.length ≤ 1000000) => stonev_any s (.slice p s.l.length c) W ((h hm).keep k) hm)
  have HC := Lib.hid (fun W v (h : Pts W v s.l) => check_any s v W hn h)
  have hn1 := hn
  obtain ⟨nm, l, dp, dn, gx, gz⟩ := s
  unfold maxLen at hn1 hlm
  unfold stv at *
  dsimp only at *
  have HO : Hid (∀ (W : World) (base : Nat) (v : Value), Own W base v l → ∃ a m c, v = .slice a m c) := fun W base v h => h.form
  have HP : Hid (∀ (W : World) (base : Nat) (v : Value), l.length ≤ 1000000 → Own W base v l → Pts W v l) := fun W base v hb h => h.pts (by omega)
  clear h hn
  generalize Vld ⟨nm, l, dp, dn, gx, gz⟩ = V at *
  generalize l.length = n at *
  have b1 : Blk w.heap.size (c6 nm (.slice p n c) dp dn gx gz) 26 (w.alloc (.cells (c6 nm (.slice p n c) dp dn gx gz) 26)) := Blk.new w _ _
  have k1 := bl1 w (.cells (c6 nm (.slice p n c) dp dn gx gz) 26)
  have HB1 : Hid (∀ W, Below (w.alloc (.cells (c6 nm (.slice p n c) dp dn gx gz) 26)).heap.size (w.alloc (.cells (c6 nm (.slice p n c) dp dn gx gz) 26)) W → Blk w.heap.size (c6 nm (.slice p n c) dp dn gx gz) 26 W) := fun W k => b1.below k
  have K1 := Lib.hid k1
  clear b1 k1
  by_cases h20 : 20 < n
  · go_enter Try.func3, Try.ntmps3
    go_wp2_with fail
    refine (wakes_any _).mono ?_
    rintro e w2 ⟨rfl, hb2⟩
    have k2 := Below.thru K1.out K1.out.size hb2
    clear hb2
    go_wp2
    go_ret
    exact ⟨rfl, k2⟩
  · by_cases h40 : 40 < nm.size
    · go_enter Try.func3, Try.ntmps3
      go_wp2_with fail
      refine (wakes_any _).mono ?_
      rintro e w2 ⟨rfl, hb2⟩
      have k2 := Below.thru K1.out K1.out.size hb2
      clear hb2
      go_wp2
      go_ret
      exact ⟨rfl, k2⟩
    · go_enter Try.func3, Try.ntmps3
      go_wp2_with fail
      refine (HV.out _ K1.out (by omega)).mono ?_
      rintro e w2 ⟨⟨bv, rfl, hbv⟩, hb2⟩
      have HBV := Lib.hid hbv
      have K2 := Lib.hid (Below.thru K1.out K1.out.size hb2)
      have K2' := Lib.hid hb2
      have q2 := HB1.out _ hb2
      have s0 := q2.cell (i := 0) rfl
      have s1 := q2.cell (i := 1) rfl
      have s2 := q2.cell (i := 2) rfl
      have s3 := q2.cell (i := 3) rfl
      have s4 := q2.cell (i := 4) rfl
      have s5 := q2.cell (i := 5) rfl
      clear hb2 hbv q2
      cases bv with
      | false =>
        go_wp2_with fail
        refine (HS.out _ K2.out (by omega)).mono ?_
        rintro e w3 ⟨⟨v', rfl, ho⟩, hb3⟩
        have K3 := Lib.hid (Below.thru K2.out K2.out.size hb3)
        have HP3 := Lib.hid (HP.out _ _ _ (by omega) ho)
        obtain ⟨a', m', c', rfl⟩ := HO.out _ _ _ ho
        clear hb3 ho s0 s1 s2 s3 s4 s5
        go_wp2_with fail
        refine (HC.out w3 _ HP3.out).mono ?_
        rintro e w4 ⟨⟨x, rfl, hx⟩, hb4⟩
        have K4 := Lib.hid (Below.thru K3.out K3.out.size hb4)
        have HX := Lib.hid hx
        clear hb4 hx
        have hx : x = 2 := by
          rcases HX.out with ⟨h, hv⟩ | ⟨h, hv⟩
          · exact absurd (HBV.out.2 hv) (by decide)
          · exact h
        subst hx
        clear HX
        go_wp2_with fail
        refine (wakes_any _).mono ?_
        rintro e w5 ⟨rfl, hb5⟩
        have k5 := Below.thru K4.out K4.out.size hb5
        clear hb5
        go_wp2
        go_ret
        exact ⟨rfl, k5⟩
      | true =>
        go_wp2_with fail
        refine (HS.out _ K2.out (by omega)).mono ?_
        rintro e w3 ⟨⟨v', rfl, ho⟩, hb3⟩
        have K3 := Lib.hid (Below.thru K2.out K2.out.size hb3)
        have HP3 := Lib.hid (HP.out _ _ _ (by omega) ho)
        obtain ⟨a', m', c', rfl⟩ := HO.out _ _ _ ho
        clear hb3 ho s0 s1 s2 s3 s4 s5
        go_wp2_with fail
        refine (HC.out w3 _ HP3.out).mono ?_
        rintro e w4 ⟨⟨x, rfl, hx⟩, hb4⟩
        have K4 := Lib.hid (Below.thru K3.out K3.out.size hb4)
        have HX := Lib.hid hx
        clear hb4 hx
        have hx : x = 0 := by
          rcases HX.out with ⟨h, hv⟩ | ⟨h, hv⟩
          · exact h
          · exact absurd (HBV.out.1 trivial) hv
        subst hx
        clear HX
        go_wp2_with fail
        refine (wakes_any _).mono ?_
        rintro e w5 ⟨rfl, hb5⟩
        have k5 := Below.thru K4.out K4.out.size hb5
        clear hb5
        go_wp2
        go_ret
        exact ⟨rfl, k5⟩
end Go.Proofs.Ytljmhejljpfaiaa
