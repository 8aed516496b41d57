import Derived.Test.YtljmhejljpfaiaaGreatBa
namespace Go.Proofs.YtljmhejljpfaiaaGreat
set_option maxRecDepth 100000
set_option maxRecDepth 100000
open Go.RowKit Go.Shelf

/-! Weight and Border -/
theorem Pl.apart {l : List Pt} (h : Pl l) : ∀ i, i < l.length → ¬ (px l (nx l.length i) = px l i ∧ pz l (nx l.length i) = pz l i) := fun i hi ⟨e1, e2⟩ => by
  have h1 := (h.2.2.2.2.2 i hi).1
  have e : pt l ((i + 1) % l.length) = pt l i := Prod.ext e1 e2
  rw [e] at h1
  unfold D3 at h1
  have a1 : (pt l i).1 - (pt l i).1 = 0 := by omega
  have a2 : (pt l i).2 - (pt l i).2 = 0 := by omega
  rw [a1, a2] at h1
  simp at h1
/-- a row that is not empty -/
theorem Pts.some {w : World} {v : Value} {l : List Pt} (h : Pts w v l) (h3 : 0 < l.length) : ∃ b o c, v = .slice (some ⟨b, o, none⟩) l.length c ∧ Row w b o l := by
  obtain ⟨_, p, c, rfl, rfl | ⟨b, o, rfl, hr, _⟩⟩ := h
  · simp at h3
  · exact ⟨b, o, c, rfl, hr⟩
/-- Weight -/
def PW (s : SV) (w : World) (e : Ending) (w' : World) : Prop := (∃ r x : Int, e = .returned (.tuple #[.int .i64 r, .int .i64 x]) ∧ ((Vld s ∧ x = 0 ∧ r = tw s.l * s.dp * s.dn) ∨ (¬ Vld s ∧ x = 2 ∧ r = 0))) ∧ Below w.heap.size w w'
theorem weightv_any (s : SV) (v : Value) (w : World) (h : Pts w v s.l) (hv : Vld s) : Calls Tryz.prog 30 #[stv s v] w fun e w' => e = .returned (.int .i64 (tw s.l * s.dp * s.dn)) ∧ Below w.heap.size w w' := by
  have h3 := hv.2.1.1
  obtain ⟨b, o, c, rfl, hr⟩ := h.some (by omega)
  exact weight_any s.nm b o c s.l s.dp s.dn s.gx s.gz w hr (by omega) (by omega) hv.2.1.2.1 hv.2.2
set_option maxHeartbeats 2000000 in
theorem ask64_any (s : SV) (v : Value) (w : World) (hn : s.nm.size ≤ maxLen) (h : Pts w v s.l) : Calls Tryz.prog 29 #[stv s v, .func (.func 30) #[stv s v] #[]] w (PW s w) := by
  obtain ⟨p, c, hv⟩ : ∃ p c, v = .slice p s.l.length c := ⟨_, _, h.2.choose_spec.choose_spec.1⟩
  subst hv
  have HC := Lib.hid (fun W (k : Below w.heap.size w W) => check_any s (.slice p s.l.length c) W hn (h.keep k))
  have HW := Lib.hid (fun W (k : Below w.heap.size w W) (hv : Vld s) => weightv_any s (.slice p s.l.length c) W (h.keep k) hv)
  obtain ⟨nm, l, dp, dn, gx, gz⟩ := s
  have HP : Hid (∀ W r x, Below w.heap.size w W → ((Vld ⟨nm, l, dp, dn, gx, gz⟩ ∧ x = 0 ∧ r = tw l * dp * dn) ∨ (¬ Vld ⟨nm, l, dp, dn, gx, gz⟩ ∧ x = 2 ∧ r = 0)) → PW ⟨nm, l, dp, dn, gx, gz⟩ w (.returned (.tuple #[.int .i64 r, .int .i64 x])) W) := fun W r x k hx => ⟨⟨r, x, rfl, hx⟩, k⟩
  unfold stv at *
  dsimp only at *
  clear h hn
  generalize l.length = n at *
  go_enter Tryz.func29, Tryz.ntmps29
  go_wp2_with fail
  refine (HC.out _ (bl1 w _)).mono ?_
  rintro e w1 ⟨⟨x, rfl, hx⟩, hb1⟩
  have k1 := Below.thru (bl1 w _) (by simp) hb1
  clear hb1
  rcases hx with ⟨rfl, hv⟩ | ⟨rfl, hv⟩
  · have HV := Lib.hid hv
    clear hv
    go_wp2_with fail
    refine (HW.out w1 k1 HV.out).mono ?_
    rintro e w2 ⟨rfl, hb2⟩
    have k2 := Below.thru k1 k1.size hb2
    clear hb2 k1
    go_wp2
    exact bodyPost_ret (v := .tuple #[.int .i64 (tw l * dp * dn), .int .i64 0]) (by simp [results, Tryz.results29, go_sem]) rfl (HP.out _ _ _ k2 (.inl ⟨HV.out, rfl, rfl⟩))
  · have HV := Lib.hid hv
    clear hv
    go_wp2
    exact bodyPost_ret (v := .tuple #[.int .i64 0, .int .i64 2]) (by simp [results, Tryz.results29, go_sem]) rfl (HP.out _ _ _ k1 (.inr ⟨HV.out, rfl, rfl⟩))
end Go.Proofs.YtljmhejljpfaiaaGreat
namespace Go.Proofs.YtljmhejljpfaiaaGreat
set_option maxRecDepth 100000
set_option maxRecDepth 100000
open Go.RowKit Go.Shelf

/-! Weight and Border, whole -/
set_option maxHeartbeats 2000000 in
theorem weightF_any (s : SV) (v : Value) (w : World) (hn : s.nm.size ≤ maxLen) (h : Pts w v s.l) : Calls Tryz.prog 12 #[stv s v] w (PW s w) := by
  obtain ⟨p, c, hv⟩ : ∃ p c, v = .slice p s.l.length c := ⟨_, _, h.2.choose_spec.choose_spec.1⟩
  subst hv
  have HC := Lib.hid (fun W (k : Below w.heap.size w W) => ask64_any s (.slice p s.l.length c) W hn (h.keep k))
  have HP : Hid (∀ W W' r x, Below w.heap.size w W → PW s W (.returned (.tuple #[.int .i64 r, .int .i64 x])) W' → PW s w (.returned (.tuple #[.int .i64 r, .int .i64 x])) W') := fun W W' r x k ⟨hx, k2⟩ => ⟨hx, Below.thru k k.size k2⟩
  obtain ⟨nm, l, dp, dn, gx, gz⟩ := s
  unfold stv at *
  dsimp only at *
  clear h hn
  generalize l.length = n at *
  go_enter Tryz.func12, Tryz.ntmps12
  go_wp2_with fail
  refine (HC.out _ (bl1 w _)).mono ?_
  rintro e w1 ⟨⟨r, x, rfl, hx⟩, hb1⟩
  have H1 := Lib.hid (HP.out _ _ r x (bl1 w _) ⟨⟨r, x, rfl, hx⟩, hb1⟩)
  clear hb1 hx
  go_wp2
  exact bodyPost_ret (v := .tuple #[.int .i64 r, .int .i64 x]) (by simp [results, Tryz.results12, go_sem]) rfl H1.out
/-- Border -/
def PBo (s : SV) (w : World) (e : Ending) (w' : World) : Prop := (∃ (r : Value) (x : Int), e = .returned (.tuple #[r, .int .i64 x]) ∧ (∃ p n c, r = .slice p n c) ∧ ((Vld s ∧ x = 0 ∧ Own w' w.heap.size r (bp s.l)) ∨ (¬ Vld s ∧ x = 2 ∧ r = .slice none 0 0))) ∧ Below w.heap.size w w'
theorem PBo.thru {s : SV} {w W W' : World} {e : Ending} (h : PBo s W e W') (k : Below w.heap.size w W) : PBo s w e W' := by
  obtain ⟨⟨r, x, he, hf, hx⟩, k2⟩ := h
  exact ⟨⟨r, x, he, hf, hx.imp (fun h => ⟨h.1, h.2.1, h.2.2.base k.size⟩) id⟩, Below.thru k k.size k2⟩
theorem border1v_any (s : SV) (v : Value) (B : Nat) (w : World) (hc : w.cell? ⟨B, 1, none⟩ = some v) (h : Pts w v s.l) (hv : Vld s) : Calls Tryz.prog 41 #[.pointer (some ⟨B, 0, none⟩)] w fun e w' => (∃ v, e = .returned v ∧ Own w' w.heap.size v (bp s.l)) ∧ Below w.heap.size w w' := by
  have h3 := hv.2.1.1
  obtain ⟨b, o, c, rfl, hr⟩ := h.some (by omega)
  exact border1_any B b o c s.l w hc hr (by omega) h3.2 hv.2.1.2.1 hv.2.1.apart
set_option maxHeartbeats 2000000 in
theorem askrow_any (s : SV) (v : Value) (B : Nat) (w : World) (hn : s.nm.size ≤ maxLen) (hc : w.cell? ⟨B, 1, none⟩ = some v) (h : Pts w v s.l) : Calls Tryz.prog 40 #[stv s v, .func (.func 41) #[] #[.pointer (some ⟨B, 0, none⟩)]] w (PBo s w) := by
  obtain ⟨p, c, hv⟩ : ∃ p c, v = .slice p s.l.length c := ⟨_, _, h.2.choose_spec.choose_spec.1⟩
  subst hv
  have HC := Lib.hid (fun W (k : Below w.heap.size w W) => check_any s (.slice p s.l.length c) W hn (h.keep k))
  have HW := Lib.hid (fun W (k : Below w.heap.size w W) (hv : Vld s) => border1v_any s (.slice p s.l.length c) B W ((k.cell (p := ⟨B, 1, none⟩) (cell_lt hc)).trans hc) (h.keep k) hv)
  obtain ⟨nm, l, dp, dn, gx, gz⟩ := s
  have HP : Hid (∀ W r x, Below w.heap.size w W → (∃ p n c, r = .slice p n c) → ((Vld ⟨nm, l, dp, dn, gx, gz⟩ ∧ x = 0 ∧ Own W w.heap.size r (bp l)) ∨ (¬ Vld ⟨nm, l, dp, dn, gx, gz⟩ ∧ x = 2 ∧ r = .slice none 0 0)) → PBo ⟨nm, l, dp, dn, gx, gz⟩ w (.returned (.tuple #[r, .int .i64 x])) W) := fun W r x k hf hx => ⟨⟨r, x, rfl, hf, hx⟩, k⟩
  unfold stv at *
  dsimp only at *
  clear h hn hc
  generalize l.length = n at *
  go_enter Tryz.func40, Tryz.ntmps40
  go_wp2_with fail
  refine (HC.out _ (bl1 w _)).mono ?_
  rintro e w1 ⟨⟨x, rfl, hx⟩, hb1⟩
  have k1 := Below.thru (bl1 w _) (by simp) hb1
  clear hb1
  rcases hx with ⟨rfl, hv⟩ | ⟨rfl, hv⟩
  · have HV := Lib.hid hv
    clear hv
    go_wp2_with fail
    refine (HW.out w1 k1 HV.out).mono ?_
    rintro e w2 ⟨⟨r, rfl, ho⟩, hb2⟩
    have k2 := Below.thru k1 k1.size hb2
    have HO := Lib.hid (ho.base k1.size)
    obtain ⟨rp, rn, rc, rfl⟩ := own_form ho
    clear hb2 k1 ho
    go_wp2
    exact bodyPost_ret (v := .tuple #[.slice rp rn rc, .int .i64 0]) (by simp [results, Tryz.results40, go_sem]) rfl (HP.out _ _ _ k2 ⟨_, _, _, rfl⟩ (.inl ⟨HV.out, rfl, HO.out⟩))
  · have HV := Lib.hid hv
    clear hv
    go_wp2
    exact bodyPost_ret (v := .tuple #[.slice none 0 0, .int .i64 2]) (by simp [results, Tryz.results40, go_sem]) rfl (HP.out _ _ _ k1 ⟨_, _, _, rfl⟩ (.inr ⟨HV.out, rfl, rfl⟩))
set_option maxHeartbeats 2000000 in
theorem border_any (s : SV) (v : Value) (w : World) (hn : s.nm.size ≤ maxLen) (h : Pts w v s.l) : Calls Tryz.prog 16 #[stv s v] w (PBo s w) := by
  obtain ⟨p, c, hv⟩ : ∃ p c, v = .slice p s.l.length c := ⟨_, _, h.2.choose_spec.choose_spec.1⟩
  subst hv
  have HC := Lib.hid (fun W B (k : Below w.heap.size w W) (hc : W.cell? ⟨B, 1, none⟩ = some (.slice p s.l.length c)) => askrow_any s (.slice p s.l.length c) B W hn hc (h.keep k))
  have HP : Hid (∀ W e W', Below w.heap.size w W → PBo s W e W' → PBo s w e W') := fun W e W' k hx => hx.thru k
  obtain ⟨nm, l, dp, dn, gx, gz⟩ := s
  unfold stv at *
  dsimp only at *
  clear h hn
  generalize l.length = n at *
  go_enter Tryz.func16, Tryz.ntmps16
  go_wp2_with fail
  refine (HC.out _ w.heap.size (bl1 w _) (by simp [go_sem])).mono ?_
  rintro e w1 hx
  have H1 := Lib.hid (HP.out _ _ _ (bl1 w _) hx)
  obtain ⟨⟨r, x, rfl, ⟨rp, rn, rc, rfl⟩, -⟩, -⟩ := hx
  go_wp2
  exact bodyPost_ret (v := .tuple #[.slice rp rn rc, .int .i64 x]) (by simp [results, Tryz.results16, go_sem]) rfl H1.out
end Go.Proofs.YtljmhejljpfaiaaGreat
