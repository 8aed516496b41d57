import Derived.Test.YtljmhejljpfaiaaGreatDa
namespace Go.Proofs.YtljmhejljpfaiaaGreat
set_option maxRecDepth 100000
set_option maxRecDepth 100000
open Go.RowKit Go.Shelf

/-! the reference's Settle -/
/-- a row of points of the reference's type, of one's own -/
def OwnR (w : World) (base : Nat) (v : Value) (l : List Pt) : Prop := w.ownsRow base 31 2 v l.length (cls l)
theorem OwnR.row {w : World} {base : Nat} {v : Value} {l : List Pt} (h : OwnR w base v l) : (v = .slice none 0 0 ∧ l = []) ∨ ∃ g c, v = .slice (some ⟨g, 0, none⟩) l.length c ∧ Row w g 0 l ∧ base ≤ g ∧ g < w.heap.size := by
  obtain ⟨_, ⟨rfl, h0⟩ | ⟨g, cap, cur, rfl, hb, hg, hc, hm, hs, ht⟩⟩ := h
  · exact .inl ⟨rfl, List.length_eq_zero_iff.1 h0⟩
  · refine .inr ⟨g, cap, rfl, fun i hi => ?_, hb, (Array.getElem?_eq_some_iff.1 hg).1⟩
    have get : ∀ j u, j < l.length * 2 → (cls l)[j]? = some u → w.cell? ⟨g, j, none⟩ = some u := fun j u hj hu => by
      rw [← ht, List.getElem?_take_of_lt hj] at hu
      unfold World.cell?
      dsimp only
      rw [hg]
      simpa using hu
    have := cls_get l i hi
    exact ⟨by rw [Nat.zero_add]; exact get _ _ (by omega) this.1, by rw [Nat.zero_add]; exact get _ _ (by omega) this.2⟩
theorem OwnR.pts {w : World} {base : Nat} {v : Value} {l : List Pt} (h : OwnR w base v l) (hl : l.length ≤ 4611686018427387904) : Pts w v l := by
  rcases h.row with ⟨rfl, rfl⟩ | ⟨g, c, rfl, hr, _, hg⟩
  · exact ⟨hl, none, 0, rfl, .inl rfl⟩
  · exact ⟨hl, _, c, rfl, .inr ⟨g, 0, rfl, hr, hg⟩⟩
theorem OwnR.base {w : World} {base b2 : Nat} {v : Value} {l : List Pt} (h : OwnR w base v l) (hb : b2 ≤ base) : OwnR w b2 v l := by
  obtain ⟨h1, h2 | ⟨g, cap, cur, e1, hb', h3⟩⟩ := h
  · exact ⟨h1, .inl h2⟩
  · exact ⟨h1, .inr ⟨g, cap, cur, e1, Nat.le_trans hb hb', h3⟩⟩
theorem OwnR.keep {w w' : World} {base : Nat} {v : Value} {l : List Pt} (h : OwnR w base v l) (hb : Below w.heap.size w w') : OwnR w' base v l := own_of h (fun g _cap _hv ⟨_cur, hg⟩ => hb.block g (Array.getElem?_eq_some_iff.1 hg).1)
theorem OwnR.set1 {w : World} {base T i : Nat} {v : Value} {l : List Pt} (h : OwnR w base v l) (hT : T < base) (u : Value) : OwnR (w.setCell ⟨T, i, none⟩ u) base v l := by
  obtain ⟨h1, h2 | ⟨g, cap, cur, e1, hb, hg, h3⟩⟩ := h
  · exact ⟨h1, .inl h2⟩
  · exact ⟨h1, .inr ⟨g, cap, cur, e1, hb, (Below.heap_setCell _ _ _ _ (by show g ≠ T; omega)).trans hg, h3⟩⟩
theorem OwnR.far6 {w : World} {base T : Nat} {v : Value} {l : List Pt} (h : OwnR w base v l) (hT : T < base) (v0 v1 v2 v3 v4 v5 : Value) : OwnR ((((((w.setCell ⟨T, 0, none⟩ v0).setCell ⟨T, 1, none⟩ v1).setCell ⟨T, 2, none⟩ v2).setCell ⟨T, 3, none⟩ v3).setCell ⟨T, 4, none⟩ v4).setCell ⟨T, 5, none⟩ v5) base v l :=
  (((((h.set1 hT v0).set1 hT v1).set1 hT v2).set1 hT v3).set1 hT v4).set1 hT v5
theorem OwnR.some {w : World} {base : Nat} {v : Value} {l : List Pt} (h : OwnR w base v l) (h3 : 0 < l.length) : ∃ g c, v = .slice (Option.some ⟨g, 0, Option.none⟩) l.length c ∧ Row w g 0 l := by
  rcases h.row with ⟨_, h0⟩ | ⟨g, c, h1, hr, _⟩
  · subst h0; simp at h3
  · exact ⟨g, c, h1, hr⟩
theorem Tryz.info31 : (Tryz.prog.info? 31).map (fun i => (i.zero, i.size, i.bytes)) = some (some (.agg #[.int .i64 0, .int .i64 0]), 2, 16) := by kernel_rfl
theorem Tryz.underlying22' : Tryz.prog.underlying 22 = some (.slice 31) := by kernel_rfl
set_option maxHeartbeats 8000000 in
theorem settle_any (b o c : Nat) (l : List Pt) (w : World) (hr : Row w b o l) (h3 : 0 < l.length) (h12 : l.length ≤ 1000) (hs : ∀ i, i < l.length → Sm (px l i) ∧ Sm (pz l i)) :
    Calls Tryz.prog 28 #[.slice (some ⟨b, o, none⟩) l.length c] w fun e w' => (∃ v, e = .returned v ∧ OwnR w' w.heap.size v (stl l)) ∧ Below w.heap.size w w' := by
  obtain ⟨i0, hi, hz0, hz1, hz2⟩ := info_parts Tryz.info31
  have HR := Lib.hid hr
  have HM := Lib.hid (fun W (k : Below w.heap.size w W) => low_any b o c l W (hr.keep k) h3 (by omega))
  have HI := Lib.hid (fun W (k : Below w.heap.size w W) => first_any b o c l W (hr.keep k) h3 (by omega))
  have HF := Lib.hid ((fst_least l l.length).2.2 h3)
  have HSM : Hid (∀ i, i < l.length → (-20000 ≤ px l i ∧ px l i ≤ 20000) ∧ (-20000 ≤ pz l i ∧ pz l i ≤ 20000)) := hs
  have HMX : Hid (-20000 ≤ mnx l l.length ∧ mnx l l.length ≤ 20000) := by
    obtain ⟨_, _, h⟩ := mnx_le l l.length
    rcases h with h | ⟨j, hj, h⟩
    · have := HSM.out 0 h3; show _ ∧ _; omega
    · have := HSM.out j hj; show _ ∧ _; omega
  have HMZ : Hid (-20000 ≤ mnz l l.length ∧ mnz l l.length ≤ 20000) := by
    have e1 : l.length - 1 + 1 = l.length := by omega
    have := mnz_fst l (l.length - 1)
    rw [e1] at this
    have h9 := HSM.out _ HF.out
    show _ ∧ _
    omega
  have HST : Hid (∀ i, stp l i = (px l ((fst l l.length + i) % l.length) - mnx l l.length, pz l ((fst l l.length + i) % l.length) - mnz l l.length)) := fun i => rfl
  have HSL : Hid (stl l = stk l l.length) := rfl
  obtain ⟨n, hn⟩ : ∃ n, n = l.length := ⟨_, rfl⟩
  have HN := Lib.hid hn
  have hbw := hr.lt h3
  rw [← hn] at h3 h12 HM HI HF HMX HMZ HST HSL ⊢
  generalize fst l n = st at *
  generalize mnx l n = mx at *
  generalize mnz l n = mz at *
  clear hr hs hn
  go_enter Tryz.func28, Tryz.ntmps28
  go_wp2_with fail
  refine (HM.out _ (Below.refl _ _)).mono ?_
  rintro e w1 ⟨rfl, hb1⟩
  have K1 := Lib.hid hb1
  clear hb1
  go_wp2_with fail
  refine (HI.out _ K1.out).mono ?_
  rintro e w2 ⟨rfl, hb2⟩
  have K2 := Lib.hid (Below.thru K1.out K1.out.size hb2)
  clear hb2
  have S3 : Hid (B2 w2.heap.size mx mz (w2.alloc (.cells #[.int .i64 mx, .int .i64 mz] 31)) ∧ Below w.heap.size w (w2.alloc (.cells #[.int .i64 mx, .int .i64 mz] 31))) := ⟨⟨by simp [go_sem], by simp [go_sem], by simp [go_sem], by simp [go_sem]⟩, Below.thru K2.out K2.out.size (bl1 w2 _)⟩
  have hT3w : w.heap.size ≤ w2.heap.size := K2.out.size
  have O4 : Hid (OwnR (w2.alloc (.cells #[.int .i64 mx, .int .i64 mz] 31)) (w2.heap.size + 1) (.slice none 0 0) (stk l 0)) := World.ownsRow_nil _ _ _ _
  go_wp2
  generalize w2.alloc (.cells #[.int .i64 mx, .int .i64 mz] 31) = w3 at *
  generalize w2.heap.size = T3 at *
  go_loopw [6, 7, 3] (fun i _ v wr => ∃ k2 : Nat, k2 ≤ n ∧ i = .int .i64 k2 ∧ Hid (OwnR wr (T3 + 1) v (stk l k2)) ∧ Hid (B2 T3 mx mz wr ∧ Below w.heap.size w wr)) (fun i _ _ _ => n - (intOf i).toNat)
  case atStart => exact ⟨0, Nat.zero_le _, rfl, O4.out, S3.out⟩
  case round =>
    obtain ⟨k2, hk2, rfl, HO, HS⟩ := hrel
    by_cases hlt2 : k2 < n
    · have hjj : (st + k2) % n < n := Nat.mod_lt _ h3
      have hr : ((st : Int) + (k2 : Int)) % (n : Int) = (((st + k2) % n : Nat) : Int) := by rw [Int.natCast_emod]; rfl
      have h0 : ¬ (n : Int) = 0 := by omega
      have HS2 : Hid (stk l (k2 + 1) = stk l k2 ++ [(px l ((st + k2) % n) - mx, pz l ((st + k2) % n) - mz)]) := by
        show _ = _
        rw [stk_succ, HST.out]
      have hrow := HR.out.keep HS.out.2
      obtain ⟨ckx, ckz⟩ := hrow ((st + k2) % n) (by rw [← HN.out]; exact hjj)
      have hbb := HSM.out ((st + k2) % n) (by rw [← HN.out]; exact hjj)
      have hmx := HMX.out
      have hzb := HMZ.out
      have hst := HF.out
      generalize (st + k2) % n = jj at *
      generalize px l jj = fx at *
      generalize pz l jj = fz at *
      have v1 := IntWalk.i64_in (fx - mx) (by omega)
      have v2 := IntWalk.i64_in (fz - mz) (by omega)
      obtain ⟨vv, hvv⟩ : ∃ vv, vv = u3 := ⟨_, rfl⟩
      have hown : wr.ownsRow (T3 + 1) 31 2 u3 k2 (cls (stk l k2)) := by
        have := HO.out
        unfold OwnR at this
        rw [stk_length] at this
        exact this
      obtain ⟨d0, d1, _, _⟩ := id HS.out.1
      have hT := cell_lt d0
      have hwl2 := HS.out.2.size
      have hbl := cell_lt ckx
      clear hrow hmx hzb hvv
      go_wp2_with (at_builtin; refine wpList_append_own _ rfl (.tmp 27) (.tmp 39) 22 rfl (T3 + 1) 31 i0 (.agg #[.int .i64 0, .int .i64 0]) 2 16 Tryz.underlying22' hi hz0 hz1 hz2 rfl (by decide) _ _ _ rfl ((hown.alloc _).alloc _) ⟨wr.heap.size + 1, 0, none⟩ 1 1 [.int .i64 (fx - mx), .int .i64 (fz - mz)] rfl rfl two_new2 (by simp [Value.oneCell']) (by unfold maxLen; omega) (by omega) (by simp; omega) ?_; intro v' w9 hown' hgrow _)
      have hBg : Below (T3 + 1) wr w9 := (((Below.refl _ _).alloc (by omega) _).alloc (by simp; omega) _).grown hgrow (by simp; omega) (fun r e => (hown.lt r e).1)
      go_wp2
      go_roundw
      case rel =>
        refine ⟨k2 + 1, by omega, by go_num, ?_, HS.out.1.under hBg (by omega), HS.out.2.trans (hBg.mono (by omega))⟩
        rw [HS2.out]
        show World.ownsRow _ _ _ _ _ _ _
        rw [List.length_append, stk_length, cls_snoc]
        exact hown'
      case measure => simp [intOf]; omega
    · obtain rfl : k2 = n := by omega
      have HFI : Hid (OwnR wr w.heap.size u3 (stl l)) := OwnR.base (by rw [HSL.out]; exact HO.out) (by omega)
      have hB := HS.out.2
      go_wp2
      go_ret
      exact ⟨⟨_, rfl, HFI.out⟩, hB⟩
end Go.Proofs.YtljmhejljpfaiaaGreat
