import Derived.Test.YtljmhejljpfaiaaJa
namespace Go.Proofs.Ytljmhejljpfaiaa
set_option maxRecDepth 100000
open Go.RowKit Go.Shelf

/-! whether two stones are the same; a valid stone, laid in a way -/
theorem wayf_ne {k : Nat} (hk : k < 8) {gx gz : Int} (h : gx ≠ 0 ∨ gz ≠ 0) : (wayf k (gx, gz)).1 ≠ 0 ∨ (wayf k (gx, gz)).2 ≠ 0 := by
  rcases eight hk with rfl | rfl | rfl | rfl | rfl | rfl | rfl | rfl <;> simp only [wayf] <;> omega
theorem turn_vld {s : SV} {k : Nat} (hk : k < 8) (h : Vld s) : Vld (turnS s k) := by
  obtain ⟨h1, h2, h3, h4, h5, h6, h7⟩ := h
  have hw := wayf_sm k (p := (s.gx, s.gz)) (M := 100) h6 h7
  exact ⟨h1, tls_pl hk h2, h3, h4, wayf_ne hk h5, hw.1, hw.2⟩
theorem turnedV_any (s : SV) (v : Value) (k : Nat) (hk : k < 8) (w : World) (hv : Vld s) (h : Pts w v s.l) : Calls Try.prog 29 #[stv s v, .int .i64 k] w fun e w' =>
    (∃ g c, e = .returned (.tuple #[stv (turnS s k) (.slice (some ⟨g, 0, none⟩) s.l.length c), .int .i64 0]) ∧ Own w' w.heap.size (.slice (some ⟨g, 0, none⟩) s.l.length c) (turnS s k).l) ∧ Below w.heap.size w w' := by
  have h16 := hv.1.1.2
  have h3 := hv.2.1.1.1
  have hl : (turnS s k).l.length = s.l.length := by unfold turnS; dsimp only; rw [stl_len, tls_length]
  refine (turned_any s v k w (by unfold maxLen; omega) h).mono fun e w' ⟨hx, hb⟩ => ⟨?_, hb⟩
  rcases hx with ⟨h1, _⟩ | ⟨_, h1, _⟩ | ⟨_, _, v', he, ho⟩
  · exact absurd hv h1
  · exact absurd ⟨by omega, by omega⟩ h1
  · rw [Int.toNat_natCast] at he ho
    obtain ⟨g, c, rfl, _⟩ := ho.some (by rw [hl]; omega)
    rw [hl] at he ho
    exact ⟨g, c, he, ho⟩
set_option maxHeartbeats 8000000 in
theorem alike_any (nm : ByteArray) (b1 o1 c1 b2 o2 c2 : Nat) (l1 l2 : List Pt) (n : Nat) (dp dn gx1 gz1 gx2 gz2 : Int) (w : World) (hr1 : Row w b1 o1 l1) (hr2 : Row w b2 o2 l2) (hn1 : l1.length = n) (hn2 : l2.length = n) (h0 : 0 < n) (h12 : n ≤ 1000) :
    Calls Try.prog 44 #[.agg (c6 nm (.slice (some ⟨b1, o1, none⟩) n c1) dp dn gx1 gz1), .agg (c6 nm (.slice (some ⟨b2, o2, none⟩) n c2) dp dn gx2 gz2)] w fun e w' => (∃ bb : Bool, e = .returned (.bool bb) ∧ (l1 = l2 → gx1 = gx2 → gz1 = gz2 → bb = true)) ∧ Below w.heap.size w w' := by
  have HR1 := Lib.hid hr1; have HR2 := Lib.hid hr2
  have HN := Lib.hid (And.intro hn1 hn2)
  have hl1 := hr1.lt (by omega)
  have hl2 := hr2.lt (by omega)
  clear hr1 hr2 hn1 hn2
  have k0 := bl2 w (.cells (c6 nm (.slice (some ⟨b1, o1, none⟩) n c1) dp dn gx1 gz1) 34) (.cells (c6 nm (.slice (some ⟨b2, o2, none⟩) n c2) dp dn gx2 gz2) 34)
  have b0 : Blk w.heap.size (c6 nm (.slice (some ⟨b1, o1, none⟩) n c1) dp dn gx1 gz1) 34 ((w.alloc (.cells (c6 nm (.slice (some ⟨b1, o1, none⟩) n c1) dp dn gx1 gz1) 34)).alloc (.cells (c6 nm (.slice (some ⟨b2, o2, none⟩) n c2) dp dn gx2 gz2) 34)) ∧
      Blk (w.heap.size + 1) (c6 nm (.slice (some ⟨b2, o2, none⟩) n c2) dp dn gx2 gz2) 34 ((w.alloc (.cells (c6 nm (.slice (some ⟨b1, o1, none⟩) n c1) dp dn gx1 gz1) 34)).alloc (.cells (c6 nm (.slice (some ⟨b2, o2, none⟩) n c2) dp dn gx2 gz2) 34)) := by
    refine ⟨(Blk.new w _ 34).alloc _, ?_⟩
    have := Blk.new (w.alloc (.cells (c6 nm (.slice (some ⟨b1, o1, none⟩) n c1) dp dn gx1 gz1) 34)) (c6 nm (.slice (some ⟨b2, o2, none⟩) n c2) dp dn gx2 gz2) 34
    rw [World.size_alloc] at this
    exact this
  have K0 := Lib.hid k0
  have hcase : ¬ gx1 = gx2 ∨ (gx1 = gx2 ∧ ¬ gz1 = gz2) ∨ (gx1 = gx2 ∧ gz1 = gz2) := by
    by_cases e1 : gx1 = gx2
    · by_cases e2 : gz1 = gz2
      · exact .inr (.inr ⟨e1, e2⟩)
      · exact .inr (.inl ⟨e1, e2⟩)
    · exact .inl e1
  rcases hcase with h | ⟨rfl, h⟩ | ⟨rfl, rfl⟩
  · have HH := Lib.hid h
    clear b0 k0
    go_enter Try.func44, Try.ntmps44
    go_wp2
    go_ret
    exact ⟨⟨_, rfl, fun _ e _ => absurd e HH.out⟩, K0.out⟩
  · have HH := Lib.hid h
    clear b0 k0
    go_enter Try.func44, Try.ntmps44
    go_wp2
    go_ret
    exact ⟨⟨_, rfl, fun _ _ e => absurd e HH.out⟩, K0.out⟩
  · go_enter Try.func44, Try.ntmps44
    go_wp2
    generalize (w.alloc (.cells (c6 nm (.slice (some ⟨b1, o1, none⟩) n c1) dp dn gx1 gz1) 34)).alloc (.cells (c6 nm (.slice (some ⟨b2, o2, none⟩) n c2) dp dn gx1 gz1) 34) = w0 at *
    have HBS : Hid (∀ W, Below w0.heap.size w0 W → Blk w.heap.size (c6 nm (.slice (some ⟨b1, o1, none⟩) n c1) dp dn gx1 gz1) 34 W ∧ Blk (w.heap.size + 1) (c6 nm (.slice (some ⟨b2, o2, none⟩) n c2) dp dn gx1 gz1) 34 W ∧ Below w.heap.size w W) := fun W k => ⟨b0.1.below k, b0.2.below k, Below.thru k0 k0.size k⟩
    clear b0 k0
    go_loopw [5] (fun i wr => ∃ k : Nat, k ≤ n ∧ i = .int .i64 k ∧ Below w0.heap.size w0 wr) (fun i _ => n - (intOf i).toNat)
    case atStart => exact ⟨0, Nat.zero_le _, rfl, Below.refl _ _⟩
    case round =>
      obtain ⟨k, hk, rfl, hB⟩ := hrel
      have q9 := HBS.out _ hB
      have s1 := q9.1.cell (i := 1) rfl
      have t1 := q9.2.1.cell (i := 1) rfl
      by_cases hkn : k < n
      · obtain ⟨ckx, ckz⟩ := HR1.out.keep q9.2.2 k (by rw [HN.out.1]; exact hkn)
        obtain ⟨dkx, dkz⟩ := HR2.out.keep q9.2.2 k (by rw [HN.out.2]; exact hkn)
        have HNE : Hid (l1 = l2 → px l1 k = px l2 k ∧ pz l1 k = pz l2 k) := fun e => by rw [e]; exact ⟨rfl, rfl⟩
        have f1 := cell_regrown ckx
        have f2 := cell_regrown ckz
        have f3 := cell_regrown dkx
        have f4 := cell_regrown dkz
        have f5 := cell_regrown s1
        have f6 := cell_regrown t1
        have KB := Lib.hid hB
        clear ckx ckz dkx dkz q9
        generalize px l1 k = fx at *
        generalize pz l1 k = fz at *
        generalize px l2 k = ex at *
        generalize pz l2 k = ez at *
        have hcase : ¬ fx = ex ∨ (fx = ex ∧ ¬ fz = ez) ∨ (fx = ex ∧ fz = ez) := by
          by_cases e1 : fx = ex
          · by_cases e2 : fz = ez
            · exact .inr (.inr ⟨e1, e2⟩)
            · exact .inr (.inl ⟨e1, e2⟩)
          · exact .inl e1
        rcases hcase with h | ⟨rfl, h⟩ | ⟨rfl, rfl⟩
        · have HH : Hid (¬ l1 = l2) := fun e => h (HNE.out e).1
          go_wp2_with fail
          refine wp_region_quiet_below (by kernel_rfl) (by kernel_rfl) ?_
          repeat (any_goals (first | go_big_quiet_step (fail) | quiet_step (fail)))
          refine wpQuiet_nil ?_
          intro _ hw'
          obtain ⟨⟨dq1, osq1⟩, hw''⟩ := hw'
          subst hw''
          have KQ := Lib.hid (HBS.out _ (Below.thru KB.out KB.out.size (below_regrown wr dq1 osq1))).2.2
          clear f1 f2 f3 f4 f5 f6 s1 t1
          generalize Sort.grow (redrawn wr dq1) osq1 = w2 at *
          go_wp2
          go_ret
          exact ⟨⟨_, rfl, fun e _ _ => absurd e HH.out⟩, KQ.out⟩
        · have HH : Hid (¬ l1 = l2) := fun e => h (HNE.out e).2
          go_wp2_with fail
          refine wp_region_quiet_below (by kernel_rfl) (by kernel_rfl) ?_
          repeat (any_goals (first | go_big_quiet_step (fail) | quiet_step (fail)))
          refine wpQuiet_nil ?_
          intro _ hw'
          obtain ⟨⟨dq1, osq1⟩, hw''⟩ := hw'
          subst hw''
          have KQ := Lib.hid (HBS.out _ (Below.thru KB.out KB.out.size (below_regrown wr dq1 osq1))).2.2
          clear f1 f2 f3 f4 f5 f6 s1 t1
          generalize Sort.grow (redrawn wr dq1) osq1 = w2 at *
          go_wp2
          go_ret
          exact ⟨⟨_, rfl, fun e _ _ => absurd e HH.out⟩, KQ.out⟩
        · clear HNE
          go_wp2_with fail
          refine wp_region_quiet_below (by kernel_rfl) (by kernel_rfl) ?_
          repeat (any_goals (first | go_big_quiet_step (fail) | quiet_step (fail)))
          refine wpQuiet_nil ?_
          intro _ hw'
          obtain ⟨⟨dq1, osq1⟩, hw''⟩ := hw'
          subst hw''
          have hBq := Below.thru KB.out KB.out.size (below_regrown wr dq1 osq1)
          clear f1 f2 f3 f4 f5 f6 s1 t1
          generalize Sort.grow (redrawn wr dq1) osq1 = w2 at *
          go_wp2
          go_roundw
          case rel => exact ⟨k + 1, by omega, by go_num, hBq⟩
          case measure => simp [intOf]; omega
      · obtain rfl : k = n := by omega
        have KQ := Lib.hid q9.2.2
        clear q9
        go_wp2
        go_ret
        exact ⟨⟨_, rfl, fun _ _ _ => rfl⟩, KQ.out⟩
end Go.Proofs.Ytljmhejljpfaiaa
