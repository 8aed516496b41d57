import Derived.Test.YtljmhejljpfaiaaBa
namespace Go.Proofs.Ytljmhejljpfaiaa
set_option maxRecDepth 100000
open Go.RowKit Go.Shelf

/-! Weight and Border -/
theorem Pl.apart {l : List Pt} (h : Pl l) : ∀ i, i < l.length → ¬ (px l (nx l.length i) = px l i ∧ pz l (nx l.length i) = pz l i) := fun i hi ⟨e1, e2⟩ => by
  have h1 := (h.2.2.2.2.2 i hi).1
  have e : pt l ((i + 1) % l.length) = pt l i := Prod.ext e1 e2
  rw [e] at h1
  unfold D3 at h1
  have a1 : (pt l i).1 - (pt l i).1 = 0 := by omega
  have a2 : (pt l i).2 - (pt l i).2 = 0 := by omega
  rw [a1, a2] at h1
  simp at h1
/-- a row that is not empty -/
theorem Pts.some {w : World} {v : Value} {l : List Pt} (h : Pts w v l) (h3 : 0 < l.length) : ∃ b o c, v = .slice (some ⟨b, o, none⟩) l.length c ∧ Row w b o l := by
  obtain ⟨_, p, c, rfl, rfl | ⟨b, o, rfl, hr, _⟩⟩ := h
  · simp at h3
  · exact ⟨b, o, c, rfl, hr⟩
/-- Weight -/
def PW (s : SV) (w : World) (e : Ending) (w' : World) : Prop := (∃ r x : Int, e = .returned (.tuple #[.int .i64 r, .int .i64 x]) ∧ ((Vld s ∧ x = 0 ∧ r = tw s.l * s.dp * s.dn) ∨ (¬ Vld s ∧ x = 2 ∧ r = 0))) ∧ Below w.heap.size w w'
theorem weightv_any (s : SV) (v : Value) (w : World) (h : Pts w v s.l) (hv : Vld s) : Calls Try.prog 57 #[stv s v] w fun e w' => e = .returned (.int .i64 (tw s.l * s.dp * s.dn)) ∧ Below w.heap.size w w' := by
  have h3 := hv.2.1.1
  obtain ⟨b, o, c, rfl, hr⟩ := h.some (by omega)
  exact weight_any s.nm b o c s.l s.dp s.dn s.gx s.gz w hr (by omega) (by omega) hv.2.1.2.1 hv.2.2
set_option maxHeartbeats 2000000 in
theorem ask64_any (s : SV) (v : Value) (w : World) (hn : s.nm.size ≤ maxLen) (h : Pts w v s.l) : Calls Try.prog 55 #[stv s v, .func (.func 57) #[stv s v] #[]] w (PW s w) := by
  obtain ⟨p, c, hv⟩ : ∃ p c, v = .slice p s.l.length c := ⟨_, _, h.2.choose_spec.choose_spec.1⟩
  subst hv
  have HC := Lib.hid (fun W (k : Below w.heap.size w W) => check_any s (.slice p s.l.length c) W hn (h.keep k))
  have HW := Lib.hid (fun W (k : Below w.heap.size w W) (hv : Vld s) => weightv_any s (.slice p s.l.length c) W (h.keep k) hv)
  obtain ⟨nm, l, dp, dn, gx, gz⟩ := s
  have HP : Hid (∀ W r x, Below w.heap.size w W → ((Vld ⟨nm, l, dp, dn, gx, gz⟩ ∧ x = 0 ∧ r = tw l * dp * dn) ∨ (¬ Vld ⟨nm, l, dp, dn, gx, gz⟩ ∧ x = 2 ∧ r = 0)) → PW ⟨nm, l, dp, dn, gx, gz⟩ w (.returned (.tuple #[.int .i64 r, .int .i64 x])) W) := fun W r x k hx => ⟨⟨r, x, rfl, hx⟩, k⟩
  unfold stv at *
  dsimp only at *
  clear h hn
  generalize l.length = n at *
  go_enter Try.func55, Try.ntmps55
  go_wp2_with fail
  refine (HC.out _ (bl1 w _)).mono ?_
  rintro e w1 ⟨⟨x, rfl, hx⟩, hb1⟩
  have k1 := Below.thru (bl1 w _) (by simp) hb1
  clear hb1
  rcases hx with ⟨rfl, hv⟩ | ⟨rfl, hv⟩
  · have HV := Lib.hid hv
    clear hv
    go_wp2_with fail
    refine (HW.out w1 k1 HV.out).mono ?_
    rintro e w2 ⟨rfl, hb2⟩
    have k2 := Below.thru k1 k1.size hb2
    clear hb2 k1
    go_wp2
    exact bodyPost_ret (v := .tuple #[.int .i64 (tw l * dp * dn), .int .i64 0]) (by simp [results, Try.results55, go_sem]) rfl (HP.out _ _ _ k2 (.inl ⟨HV.out, rfl, rfl⟩))
  · have HV := Lib.hid hv
    clear hv
    go_wp2
    exact bodyPost_ret (v := .tuple #[.int .i64 0, .int .i64 2]) (by simp [results, Try.results55, go_sem]) rfl (HP.out _ _ _ k1 (.inr ⟨HV.out, rfl, rfl⟩))
end Go.Proofs.Ytljmhejljpfaiaa
