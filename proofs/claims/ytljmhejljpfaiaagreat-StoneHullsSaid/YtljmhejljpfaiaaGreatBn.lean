import Derived.Test.YtljmhejljpfaiaaGreatBg
import Derived.Deep.RegionHeld3
namespace Go.Proofs.YtljmhejljpfaiaaGreat
set_option maxRecDepth 100000
set_option maxRecDepth 100000
open Go.RowKit Go.Shelf

/-! checkBlow -/
theorem isPointv_any (s : SV) (v : Value) (x z : Int) (w : World) (h : Pts w v s.l) (hv : Vld s) : Calls Tryz.prog 32 #[v, .agg #[.int .i64 x, .int .i64 z]] w (PBt (IsP s.l x z) w) := by
  have h3 := hv.2.1.1
  obtain ⟨b, o, c, rfl, hr⟩ := h.some (by omega)
  exact isPoint_any b o c s.l x z w hr (by omega) (by omega) hv.2.1.2.1
def BlowE (s : SV) (x z t er : Int) : Prop := (¬ Vld s ∧ er = 2) ∨ (Vld s ∧ ¬ IsP s.l x z ∧ er = 8) ∨ ((Vld s ∧ IsP s.l x z) ∧ ¬ (0 ≤ t ∧ t ≤ 100) ∧ er = 3) ∨ ((Vld s ∧ IsP s.l x z) ∧ (0 ≤ t ∧ t ≤ 100) ∧ er = 0)
set_option maxHeartbeats 2000000 in
theorem checkBlow_any (s : SV) (v : Value) (x z t : Int) (w : World) (hn : s.nm.size ≤ maxLen) (h : Pts w v s.l) :
    Calls Tryz.prog 36 #[stv s v, .agg #[.int .i64 x, .int .i64 z], .int .i64 t] w fun e w' => (∃ er, e = .returned (.int .i64 er) ∧ BlowE s x z t er) ∧ Below w.heap.size w w' := by
  obtain ⟨p, c, hv⟩ : ∃ p c, v = .slice p s.l.length c := ⟨_, _, h.2.choose_spec.choose_spec.1⟩
  subst hv
  have HC := Lib.hid (fun W (k : Below w.heap.size w W) => check_any s (.slice p s.l.length c) W hn (h.keep k))
  have HI := Lib.hid (fun W (k : Below w.heap.size w W) (hv : Vld s) => isPointv_any s (.slice p s.l.length c) x z W (h.keep k) hv)
  have HE : Hid (∀ er, BlowE s x z t er ↔ (¬ Vld s ∧ er = 2) ∨ (Vld s ∧ ¬ IsP s.l x z ∧ er = 8) ∨ ((Vld s ∧ IsP s.l x z) ∧ ¬ (0 ≤ t ∧ t ≤ 100) ∧ er = 3) ∨ ((Vld s ∧ IsP s.l x z) ∧ (0 ≤ t ∧ t ≤ 100) ∧ er = 0)) := fun er => Iff.rfl
  obtain ⟨nm, l, dp, dn, gx, gz⟩ := s
  unfold stv at *
  dsimp only at *
  clear h hn
  generalize hV : Vld ⟨nm, l, dp, dn, gx, gz⟩ = V at *
  clear hV
  generalize BlowE ⟨nm, l, dp, dn, gx, gz⟩ x z t = BE at *
  generalize IsP l x z = IP at *
  generalize l.length = n at *
  have s0 := (StB.new w nm (.slice p n c) dp dn gx gz 39).keep (bl1 _ (.cells #[.int .i64 x, .int .i64 z] 37))
  have s1 : B2 (w.heap.size + 1) x z ((w.alloc (.cells #[.string nm, .slice p n c, .int .i64 dp, .int .i64 dn, .int .i64 gx, .int .i64 gz] 39)).alloc (.cells #[.int .i64 x, .int .i64 z] 37)) := ⟨by simp [go_sem], by simp [go_sem], by simp [go_sem], by simp [go_sem]⟩
  have k0 := bl2 w (.cells #[.string nm, .slice p n c, .int .i64 dp, .int .i64 dn, .int .i64 gx, .int .i64 gz] 39) (.cells #[.int .i64 x, .int .i64 z] 37)
  go_enter Tryz.func36, Tryz.ntmps36
  go_wp2_with fail
  refine (HC.out _ k0).mono ?_
  rintro e w1 ⟨⟨er, rfl, hx⟩, hb1⟩
  have k1 := Below.thru k0 k0.size hb1
  replace s0 := s0.keep hb1
  replace s1 := s1.keep hb1
  clear hb1 k0
  obtain ⟨_, c1, _, _, _, _⟩ := s0
  obtain ⟨d0, d1, _, _⟩ := s1
  rcases hx with ⟨rfl, hv⟩ | ⟨rfl, hv⟩
  · have HV := Lib.hid hv
    clear hv
    go_wp2_with fail
    refine (HI.out w1 k1 HV.out).mono ?_
    rintro e w2 ⟨⟨bp, rfl, hbp⟩, hb2⟩
    have k2 := Below.thru k1 k1.size hb2
    have HB := Lib.hid hbp
    clear hb2 k1 hbp c1 d0 d1
    cases bp with
    | false =>
      go_wp2
      go_ret
      exact ⟨⟨8, rfl, (HE.out 8).2 (.inr (.inl ⟨HV.out, (by simpa using HB.out), rfl⟩))⟩, k2⟩
    | true =>
      have HT : Hid (inB t 0 100 = decide (0 ≤ t ∧ t ≤ 100)) := rfl
      have HW := Lib.hid (fun W => within_any t 0 100 W)
      go_wp2_with fail
      refine (HW.out _).mono ?_
      rintro e w3 ⟨rfl, rfl⟩
      cases q : inB t 0 100 with
      | false =>
        have Q := Lib.hid q
        clear q
        go_wp2
        go_ret
        exact ⟨⟨3, rfl, (HE.out 3).2 (.inr (.inr (.inl ⟨⟨HV.out, (by simpa using HB.out)⟩, (by have := Q.out; rw [HT.out] at this; simpa using this), rfl⟩)))⟩, k2⟩
      | true =>
        have Q := Lib.hid q
        clear q
        go_wp2
        go_ret
        exact ⟨⟨0, rfl, (HE.out 0).2 (.inr (.inr (.inr ⟨⟨HV.out, (by simpa using HB.out)⟩, (by have := Q.out; rw [HT.out] at this; simpa using this), rfl⟩)))⟩, k2⟩
  · have HV := Lib.hid hv
    clear hv
    go_wp2
    go_ret
    exact ⟨⟨2, rfl, (HE.out 2).2 (.inl ⟨HV.out, rfl⟩)⟩, k1⟩
end Go.Proofs.YtljmhejljpfaiaaGreat
namespace Go.Proofs.YtljmhejljpfaiaaGreat
set_option maxRecDepth 100000
set_option maxRecDepth 100000
open Go.RowKit Go.Shelf

/-! an iterator's own boxes beside its caller's -/
theorem ow_mono {Bs Bs' : List Nat} {W : World} {k : Nat} (h : ∀ b, b ∈ Bs → b ∈ Bs') : ow Bs W k → ow Bs' W k := fun ⟨⟨b, n, c, hb, hc⟩, r⟩ => ⟨⟨b, n, c, h b hb, hc⟩, r⟩
/-- what turns nothing but the caller's own turns nothing but that and the iterator's -/
theorem KO.widen {B T4 T5 base : Nat} {Bs : List Nat} {t4 t5 e : TypeId} {size : Nat} {v : Value} {bb : Bool} {n : Nat} {xs : List Value} {W W' : World} (h : KO B Bs W W')
    (h4 : Boxed W T4 t4 v) (hr : W.ownsRow base e size v n xs) (h5 : Boxed W T5 t5 (.bool bb)) (n4 : Nc Bs T4 W) (n5 : Nc Bs T5 W) : KO B (T4 :: T5 :: Bs) W W' := by
  have h4' := h.boxed h4 n4.b n4.o
  have h5' := h.boxed h5 n5.b n5.o
  have sub : ∀ b, b ∈ Bs → b ∈ T4 :: T5 :: Bs := fun b hb => by simp [hb]
  refine ⟨h.size, fun k cur T u h1 h2 h3 => h.cells k cur T u (fun hk => h1 (sub k hk)) (fun ho => h2 (ow_mono sub ho)) h3, fun k q h1 h2 h3 => h.objs k q h1 (fun ho => h2 (ow_mono sub ho)) h3, fun k hk hn ho => ?_, fun hs b hb => ?_⟩
  · obtain ⟨⟨b, m, c, hb, hc⟩, r⟩ := ho
    simp only [List.mem_cons] at hb
    rcases hb with rfl | rfl | hb
    · rw [h4'.cell] at hc
      have hv := Option.some.inj hc
      rcases hr.2 with ⟨h0, _⟩ | ⟨g, cap, cur, h0, _, hg, _⟩
      · rw [hv] at h0; cases h0
      · rw [hv] at h0; cases h0
        exact hn ⟨⟨b, _, _, by simp, h4.cell.trans (by rw [hv])⟩, cur, e, _, hg⟩
    · rw [h5'.cell] at hc; cases hc
    · exact h.own k hk (fun ho => hn (ow_mono sub ho)) ⟨⟨b, m, c, hb, hc⟩, r⟩
  · simp only [List.mem_cons] at hb
    rcases hb with rfl | rfl | hb
    · refine ⟨h4'.lt, fun k m c hc => ?_⟩
      rw [h4'.cell, ← h4.cell] at hc
      exact Nat.lt_of_lt_of_le ((hs b (by simp)).2 k m c hc) h.size
    · refine ⟨h5'.lt, fun k m c hc => ?_⟩
      rw [h5'.cell] at hc; cases hc
    · exact h.sane (fun b' hb' => hs b' (sub b' hb')) b hb
/-- an append to one of several own rows -/
theorem KO.appendB {B T : Nat} {Bs : List Nat} {base : Nat} {t e : TypeId} {size : Nat} {v v' : Value} {n m : Nat} {xs ys : List Value} {W w1 : World} {tmp : Obj} (hv : Boxed W T t v) (hte : t ≠ e) (hTs : T ∈ Bs) (hTB : T < B)
    (hrow : W.ownsRow base e size v n xs) (hown' : w1.ownsRow base e size v' m ys) (hgrow : (W.alloc tmp).grownBy w1 v.ownBlock) (hob : v'.ownBlock = v.ownBlock ∨ v'.ownBlock = some (W.alloc tmp).heap.size)
    (hs : Sane Bs W) (hne : ∀ b, b ∈ Bs → some b ≠ v.ownBlock) : KO B Bs W (w1.setCell ⟨T, 0, none⟩ v') := by
  have hb1 : Boxed w1 T t v := (hv.alloc tmp).kept hgrow (hv.not_row hte hrow)
  have hb2 := hb1.set v'
  have hgs := hgrow.size
  rw [World.size_alloc] at hgs
  have same : ∀ k, k ≠ T → k < W.heap.size → some k ≠ v.ownBlock → (w1.setCell ⟨T, 0, none⟩ v').heap[k]? = W.heap[k]? := fun k hk hl hne =>
    (Below.heap_setCell _ _ _ _ hk).trans ((hgrow.block k (by simp; omega) hne).trans (Below.heap_alloc _ _ _ hl))
  have gc : ∀ k, some k = v.ownBlock → ow Bs W k := fun k he => by
    rcases hrow.2 with ⟨rfl, _⟩ | ⟨g, cap, cur, rfl, _, hg, _⟩
    · cases he
    · have : k = g := Option.some.inj he
      subst this
      exact ⟨⟨T, n, cap, hTs, hv.cell⟩, cur, e, _, hg⟩
  have cs : ∀ b, b ∈ Bs → b ≠ T → (w1.setCell ⟨T, 0, none⟩ v').cell? ⟨b, 0, none⟩ = W.cell? ⟨b, 0, none⟩ := fun b hb hbT => cell_same (a := ⟨b, 0, none⟩) (same b hbT (hs b hb).1 (hne b hb))
  refine ⟨by simp; omega, fun k cur T' u h1 h2 h3 => ?_, fun k q h1 h2 h3 => ?_, fun k hk hn ho => ?_, fun _ b hb => ?_⟩
  · have hl := (Array.getElem?_eq_some_iff.1 h3).1
    exact (same k (fun e => h1 (e ▸ hTs)) hl (fun he => h2 (gc k he))).trans h3
  · have hl := (Array.getElem?_eq_some_iff.1 h3).1
    exact (same k (by omega) hl (fun he => h2 (gc k he))).trans h3
  · obtain ⟨⟨b, n', c', hb, hc⟩, cur, U, u, hu⟩ := ho
    by_cases hbT : b = T
    · subst hbT
      rw [hb2.cell] at hc
      have hvk := Option.some.inj hc
      have h9 : v'.ownBlock = some k := by rw [hvk]; rfl
      rcases hob with h | h
      · exact hn (gc k (h9.symm.trans h))
      · rw [h9] at h
        have := Option.some.inj h
        simp at this
        omega
    · rw [cs b hb hbT] at hc
      refine hn ⟨⟨b, n', c', hb, hc⟩, ?_⟩
      by_cases hkT : k = T
      · subst hkT; exact ⟨_, _, _, hv⟩
      · by_cases hkg : some k = v.ownBlock
        · exact (gc k hkg).2
        · exact ⟨cur, U, u, (same k hkT hk hkg).symm.trans hu⟩
  · by_cases hbT : b = T
    · subst hbT
      refine ⟨hb2.lt, fun k n' c' hc => ?_⟩
      rw [hb2.cell] at hc
      have hvk := Option.some.inj hc
      rcases hown'.2 with ⟨h0, _⟩ | ⟨g, cap, cur, h0, _, hg, _⟩
      · rw [hvk] at h0; cases h0
      · rw [hvk] at h0; cases h0
        have := (Array.getElem?_eq_some_iff.1 hg).1
        simpa using this
    · refine ⟨by have := (hs b hb).1; simp; omega, fun k n' c' hc => ?_⟩
      rw [cs b hb hbT] at hc
      have := (hs b hb).2 k n' c' hc
      simp; omega
/-- others: what a point does to the points before, to the mark, and to the points behind -/
def ostep (p : Pt) (st : List Pt × Bool × List Pt) (q : Pt) : List Pt × Bool × List Pt :=
  if q = p then (st.1, true, st.2.2) else if st.2.1 = false then (st.1 ++ [q], false, st.2.2) else (st.1, true, st.2.2 ++ [q])
def ost (p : Pt) (l : List Pt) : List Pt × Bool × List Pt := l.foldl (ostep p) ([], false, [])
theorem ost_snoc (p : Pt) (l : List Pt) (q : Pt) : ost p (l ++ [q]) = ostep p (ost p l) q := by simp [ost]
/-- the border points but p, from the one behind p on -/
def oth (l : List Pt) (p : Pt) : List Pt := (ost p (bp l)).2.2 ++ (ost p (bp l)).1
end Go.Proofs.YtljmhejljpfaiaaGreat
namespace Go.Proofs.YtljmhejljpfaiaaGreat
set_option maxRecDepth 100000
set_option maxRecDepth 100000
open Go.RowKit Go.Shelf

/-! comparisons -/
theorem isNaN_any (x : Int) (w : World) : Calls Tryz.prog 82 #[.int .i64 x] w fun e w' => e = .returned (.bool false) ∧ Below w.heap.size w w' := by
  go_enter Tryz.func82, Tryz.ntmps82
  go_wp2
  go_ret
  exact ⟨rfl, Below.refl _ _⟩
/-- -1, 0 or 1 -/
def cmpI (a b : Int) : Int := if a < b then -1 else if b < a then 1 else 0
set_option maxHeartbeats 1000000 in
theorem compare_any (a b : Int) (w : World) : Calls Tryz.prog 50 #[.int .i64 a, .int .i64 b] w fun e w' => e = .returned (.int .i64 (cmpI a b)) ∧ Below w.heap.size w w' := by
  have HA := Lib.hid (fun W => isNaN_any a W)
  have HB := Lib.hid (fun W => isNaN_any b W)
  by_cases h1 : a < b
  · have HC : Hid (cmpI a b = -1) := by show _ = _; unfold cmpI; rw [if_pos h1]
    go_enter Tryz.func50, Tryz.ntmps50
    go_wp2_with fail
    refine (HA.out _).mono ?_
    rintro e w1 ⟨rfl, hb1⟩
    go_wp2_with fail
    refine (HB.out _).mono ?_
    rintro e w2 ⟨rfl, hb2⟩
    have k2 := Below.thru hb1 hb1.size hb2
    clear hb1 hb2
    go_wp2
    go_ret
    exact ⟨by rw [HC.out]; rfl, k2⟩
  · by_cases h2 : b < a
    · have HC : Hid (cmpI a b = 1) := by show _ = _; unfold cmpI; rw [if_neg h1, if_pos h2]
      go_enter Tryz.func50, Tryz.ntmps50
      go_wp2_with fail
      refine (HA.out _).mono ?_
      rintro e w1 ⟨rfl, hb1⟩
      go_wp2_with fail
      refine (HB.out _).mono ?_
      rintro e w2 ⟨rfl, hb2⟩
      have k2 := Below.thru hb1 hb1.size hb2
      clear hb1 hb2
      go_wp2
      go_ret
      exact ⟨by rw [HC.out]; rfl, k2⟩
    · have HC : Hid (cmpI a b = 0) := by show _ = _; unfold cmpI; rw [if_neg h1, if_neg h2]
      go_enter Tryz.func50, Tryz.ntmps50
      go_wp2_with fail
      refine (HA.out _).mono ?_
      rintro e w1 ⟨rfl, hb1⟩
      go_wp2_with fail
      refine (HB.out _).mono ?_
      rintro e w2 ⟨rfl, hb2⟩
      have k2 := Below.thru hb1 hb1.size hb2
      clear hb1 hb2
      go_wp2
      go_ret
      exact ⟨by rw [HC.out]; rfl, k2⟩
end Go.Proofs.YtljmhejljpfaiaaGreat
namespace Go.Proofs.YtljmhejljpfaiaaGreat
set_option maxRecDepth 100000
set_option maxRecDepth 100000
open Go.RowKit Go.Shelf

/-! inOrder of two, lower -/
def ord2 (a b : Int) : Int := if a = 0 then b else a
set_option maxHeartbeats 1000000 in
theorem inOrder_any (B : Nat) (a b : Int) (w : World) (h0 : w.cell? ⟨B, 0, none⟩ = some (.int .i64 a)) (h1 : w.cell? ⟨B, 1, none⟩ = some (.int .i64 b)) : Calls Tryz.prog 49 #[.slice (some ⟨B, 0, none⟩) 2 2] w fun e w' => e = .returned (.int .i64 (ord2 a b)) ∧ Below w.heap.size w w' := by
  have HO : Hid (ord2 a b = if a = 0 then b else a) := rfl
  go_enter Tryz.func49, Tryz.ntmps49
  go_wp2
  go_loopw [7, 4] (fun i _ wr => ∃ k : Nat, k ≤ 2 ∧ i = .int .i64 k ∧ Hid ((1 ≤ k → a = 0) ∧ (2 ≤ k → b = 0)) ∧ wr = w) (fun i _ _ => 2 - (intOf i).toNat)
  case atStart => exact ⟨0, by omega, rfl, ⟨fun h => absurd h (by omega), fun h => absurd h (by omega)⟩, rfl⟩
  case round =>
    obtain ⟨k, hk, rfl, HK, rfl⟩ := hrel
    have hk3 : k = 0 ∨ k = 1 ∨ k = 2 := by omega
    clear hk
    rcases hk3 with rfl | rfl | rfl
    · by_cases ha : a = 0
      · have HA := Lib.hid ha
        have ga : (a != 0) = false := by simpa using ha
        clear ha
        go_wp2
        go_roundw
        case rel => exact ⟨1, by omega, by go_num, ⟨fun _ => HA.out, fun h => absurd h (by omega)⟩, trivial⟩
        case measure => decide
      · have ga : (a != 0) = true := by simpa using ha
        have HR : Hid (ord2 a b = a) := by show _ = _; rw [HO.out, if_neg ha]
        clear ha
        go_wp2
        go_ret
        exact ⟨by rw [HR.out]; rfl, Below.refl _ _⟩
    · have HA := Lib.hid (HK.out.1 (Nat.le_refl _))
      have HR : Hid (ord2 a b = b) := by show _ = _; rw [HO.out, if_pos HA.out]
      by_cases hb : b = 0
      · have HB := Lib.hid hb
        have gb : (b != 0) = false := by simpa using hb
        clear hb
        go_wp2
        go_roundw
        case rel => exact ⟨2, by omega, by go_num, ⟨fun _ => HA.out, fun _ => HB.out⟩, trivial⟩
        case measure => decide
      · have gb : (b != 0) = true := by simpa using hb
        clear hb
        go_wp2
        go_ret
        exact ⟨by rw [HR.out]; rfl, Below.refl _ _⟩
    · have HR : Hid (ord2 a b = 0) := by show _ = _; rw [HO.out, if_pos (HK.out.1 (by omega)), HK.out.2 (by omega)]
      go_wp2
      go_ret
      exact ⟨by rw [HR.out]; rfl, Below.refl _ _⟩
/-- the order of corners: by Z, then by X -/
def lowI (x1 z1 x2 z2 : Int) : Int := ord2 (cmpI z1 z2) (cmpI x1 x2)
set_option maxHeartbeats 2000000 in
theorem lower_any (x1 z1 x2 z2 : Int) (w : World) : Calls Tryz.prog 21 #[.agg #[.int .i64 x1, .int .i64 z1], .agg #[.int .i64 x2, .int .i64 z2]] w fun e w' => e = .returned (.int .i64 (lowI x1 z1 x2 z2)) ∧ Below w.heap.size w w' := by
  have HZ := Lib.hid (fun W => compare_any z1 z2 W)
  have HX := Lib.hid (fun W => compare_any x1 x2 W)
  have HO := Lib.hid (fun B W h0 h1 => inOrder_any B (cmpI z1 z2) (cmpI x1 x2) W h0 h1)
  have HR : Hid (lowI x1 z1 x2 z2 = ord2 (cmpI z1 z2) (cmpI x1 x2)) := rfl
  have s1 : B2 w.heap.size x1 z1 ((w.alloc (.cells #[.int .i64 x1, .int .i64 z1] 37)).alloc (.cells #[.int .i64 x2, .int .i64 z2] 37)) := ⟨by simp [go_sem], by simp [go_sem], by simp [go_sem], by simp [go_sem]⟩
  have s2 : B2 (w.heap.size + 1) x2 z2 ((w.alloc (.cells #[.int .i64 x1, .int .i64 z1] 37)).alloc (.cells #[.int .i64 x2, .int .i64 z2] 37)) := ⟨by simp [go_sem], by simp [go_sem], by simp [go_sem], by simp [go_sem]⟩
  have k0 := bl2 w (.cells #[.int .i64 x1, .int .i64 z1] 37) (.cells #[.int .i64 x2, .int .i64 z2] 37)
  go_enter Tryz.func21, Tryz.ntmps21
  go_wp2_with fail
  generalize (w.alloc (.cells #[.int .i64 x1, .int .i64 z1] 37)).alloc (.cells #[.int .i64 x2, .int .i64 z2] 37) = w0 at *
  generalize cmpI z1 z2 = u at *
  generalize cmpI x1 x2 = v at *
  have q0 : w0.drew.cell? ⟨w.heap.size, 0, none⟩ = some (.int .i64 x1) ∧ w0.drew.cell? ⟨w.heap.size, 1, none⟩ = some (.int .i64 z1) ∧ w0.drew.cell? ⟨w.heap.size + 1, 0, none⟩ = some (.int .i64 x2) ∧ w0.drew.cell? ⟨w.heap.size + 1, 1, none⟩ = some (.int .i64 z2) := ⟨s1.1, s1.2.1, s2.1, s2.2.1⟩
  have k0 := k0.drew
  clear s1 s2
  go_region_held3 (fun w' => w'.cell? ⟨w.heap.size, 0, none⟩ = some (.int .i64 x1) ∧ w'.cell? ⟨w.heap.size, 1, none⟩ = some (.int .i64 z1) ∧ w'.cell? ⟨w.heap.size + 1, 0, none⟩ = some (.int .i64 x2) ∧ w'.cell? ⟨w.heap.size + 1, 1, none⟩ = some (.int .i64 z2))
    (first | (with_reducible exact q4) | (with_reducible exact q3) | (with_reducible exact q2) | (with_reducible exact q1) | (with_reducible exact q0))
    (first
      | (go_at_call 50; first | (with_reducible refine (HZ.out w0.drew).mono ?_) | (with_reducible refine (HX.out w0.drew).mono ?_)
         rintro e w1 ⟨rfl, hb1⟩
         have q1 : w1.cell? ⟨w.heap.size, 0, none⟩ = some (.int .i64 x1) ∧ w1.cell? ⟨w.heap.size, 1, none⟩ = some (.int .i64 z1) ∧ w1.cell? ⟨w.heap.size + 1, 0, none⟩ = some (.int .i64 x2) ∧ w1.cell? ⟨w.heap.size + 1, 1, none⟩ = some (.int .i64 z2) := ⟨(hb1.cell (p := ⟨_, _, none⟩) (cell_lt q0.1)).trans q0.1, (hb1.cell (p := ⟨_, _, none⟩) (cell_lt q0.2.1)).trans q0.2.1, (hb1.cell (p := ⟨_, _, none⟩) (cell_lt q0.2.2.1)).trans q0.2.2.1, (hb1.cell (p := ⟨_, _, none⟩) (cell_lt q0.2.2.2)).trans q0.2.2.2⟩; have k1 := Below.thru k0 k0.size hb1)
      | (go_at_call 50; first | (with_reducible refine (HZ.out w1).mono ?_) | (with_reducible refine (HX.out w1).mono ?_)
         rintro e w2 ⟨rfl, hb2⟩
         have q2 : w2.cell? ⟨w.heap.size, 0, none⟩ = some (.int .i64 x1) ∧ w2.cell? ⟨w.heap.size, 1, none⟩ = some (.int .i64 z1) ∧ w2.cell? ⟨w.heap.size + 1, 0, none⟩ = some (.int .i64 x2) ∧ w2.cell? ⟨w.heap.size + 1, 1, none⟩ = some (.int .i64 z2) := ⟨(hb2.cell (p := ⟨_, _, none⟩) (cell_lt q1.1)).trans q1.1, (hb2.cell (p := ⟨_, _, none⟩) (cell_lt q1.2.1)).trans q1.2.1, (hb2.cell (p := ⟨_, _, none⟩) (cell_lt q1.2.2.1)).trans q1.2.2.1, (hb2.cell (p := ⟨_, _, none⟩) (cell_lt q1.2.2.2)).trans q1.2.2.2⟩; have k2 := Below.thru k1 k1.size hb2; have q3 : (w2.alloc (.cells #[.int .i64 u, .int .i64 v] 3)).cell? ⟨w.heap.size, 0, none⟩ = some (.int .i64 x1) ∧ (w2.alloc (.cells #[.int .i64 u, .int .i64 v] 3)).cell? ⟨w.heap.size, 1, none⟩ = some (.int .i64 z1) ∧ (w2.alloc (.cells #[.int .i64 u, .int .i64 v] 3)).cell? ⟨w.heap.size + 1, 0, none⟩ = some (.int .i64 x2) ∧ (w2.alloc (.cells #[.int .i64 u, .int .i64 v] 3)).cell? ⟨w.heap.size + 1, 1, none⟩ = some (.int .i64 z2) := ⟨((bl1 w2 (.cells #[.int .i64 u, .int .i64 v] 3)).cell (p := ⟨_, _, none⟩) (cell_lt q2.1)).trans q2.1, ((bl1 w2 (.cells #[.int .i64 u, .int .i64 v] 3)).cell (p := ⟨_, _, none⟩) (cell_lt q2.2.1)).trans q2.2.1, ((bl1 w2 (.cells #[.int .i64 u, .int .i64 v] 3)).cell (p := ⟨_, _, none⟩) (cell_lt q2.2.2.1)).trans q2.2.2.1, ((bl1 w2 (.cells #[.int .i64 u, .int .i64 v] 3)).cell (p := ⟨_, _, none⟩) (cell_lt q2.2.2.2)).trans q2.2.2.2⟩)
      | (go_at_call 49; (refine (HO.out w2.heap.size _ (by simp [go_sem]) (by simp [go_sem])).mono ?_); rintro e w3 ⟨rfl, hb3⟩; have q4 : w3.cell? ⟨w.heap.size, 0, none⟩ = some (.int .i64 x1) ∧ w3.cell? ⟨w.heap.size, 1, none⟩ = some (.int .i64 z1) ∧ w3.cell? ⟨w.heap.size + 1, 0, none⟩ = some (.int .i64 x2) ∧ w3.cell? ⟨w.heap.size + 1, 1, none⟩ = some (.int .i64 z2) := ⟨(hb3.cell (p := ⟨_, _, none⟩) (cell_lt q3.1)).trans q3.1, (hb3.cell (p := ⟨_, _, none⟩) (cell_lt q3.2.1)).trans q3.2.1, (hb3.cell (p := ⟨_, _, none⟩) (cell_lt q3.2.2.1)).trans q3.2.2.1, (hb3.cell (p := ⟨_, _, none⟩) (cell_lt q3.2.2.2)).trans q3.2.2.2⟩; have k3 := Below.thru (Below.thru k2 k2.size (bl1 w2 _)) (Below.thru k2 k2.size (bl1 w2 _)).size hb3))
  all_goals
    go_wp2
    go_ret
    exact ⟨by rw [HR.out]; rfl, k3⟩
end Go.Proofs.YtljmhejljpfaiaaGreat
namespace Go.Proofs.YtljmhejljpfaiaaGreat
set_option maxRecDepth 100000
set_option maxRecDepth 100000
open Go.RowKit Go.Shelf

/-! Brick -/
def brickL : List Pt := [(0, 0), (200, 0), (200, 80), (0, 80)]
def brickS : SV := ⟨⟨#[98, 114, 105, 99, 107]⟩, brickL, 100, 2400, 1, 0⟩
set_option maxHeartbeats 2000000 in
theorem brick_any (w : World) : Calls Tryz.prog 11 #[] w fun e w' => (∃ g, e = .returned (stv brickS (.slice (some ⟨g, 0, none⟩) 4 4)) ∧ Row w' g 0 brickL) ∧ Below w.heap.size w w' := by
  go_enter Tryz.func11, Tryz.ntmps11
  go_wp2_with fail
  refine bodyPost_ret (v := stv brickS (.slice (some ⟨w.heap.size + 1, 0, none⟩) 4 4)) (by simp [results, Tryz.results11, go_sem, stv, brickS]) rfl ⟨⟨w.heap.size + 1, rfl, fun i hi => ?_⟩, bl2 _ _ _⟩
  have h4 : i = 0 ∨ i = 1 ∨ i = 2 ∨ i = 3 := by
    have : i < 4 := hi
    omega
  rcases h4 with rfl | rfl | rfl | rfl
  all_goals exact ⟨by simp [go_sem, px, brickL], by simp [go_sem, pz, brickL]⟩
end Go.Proofs.YtljmhejljpfaiaaGreat
namespace Go.Proofs.YtljmhejljpfaiaaGreat
set_option maxRecDepth 100000
set_option maxRecDepth 100000
open Go.RowKit Go.Shelf

/-! Index -/
def PIx (l : List Pt) (x z : Int) (r : Int) : Prop := (∃ i : Nat, i < l.length ∧ r = i ∧ (px l i = x ∧ pz l i = z) ∧ ∀ j, j < i → ¬ (px l j = x ∧ pz l j = z)) ∨ (r = -1 ∧ ∀ j, j < l.length → ¬ (px l j = x ∧ pz l j = z))
set_option maxHeartbeats 4000000 in
theorem index_any (b o c : Nat) (l : List Pt) (x z : Int) (w : World) (hr : Row w b o l) (h3 : 0 < l.length) (h12 : l.length ≤ 1000000) :
    Calls Tryz.prog 52 #[.slice (some ⟨b, o, none⟩) l.length c, .agg #[.int .i64 x, .int .i64 z]] w fun e w' => (∃ r, e = .returned (.int .i64 r) ∧ PIx l x z r) ∧ Below w.heap.size w w' := by
  have HR := Lib.hid hr
  obtain ⟨n, hn⟩ : ∃ n, n = l.length := ⟨_, rfl⟩
  rw [← hn] at h3 h12 ⊢
  have HN := Lib.hid hn
  have hbw := hr.lt (by omega)
  clear hr hn
  go_enter Tryz.func52, Tryz.ntmps52
  go_wp2
  go_loopw [8, 5] (fun i _ wr => ∃ k : Nat, k ≤ n ∧ i = .int .i64 k ∧ Hid (∀ j, j < k → ¬ (px l j = x ∧ pz l j = z)) ∧ B2 w.heap.size x z wr ∧ Below w.heap.size w wr) (fun i _ _ => n - (intOf i).toNat)
  case atStart => exact ⟨0, Nat.zero_le _, rfl, fun j hj => absurd hj (by omega), ⟨by simp [go_sem], by simp [go_sem], by simp [go_sem], by simp [go_sem]⟩, bl1 _ _⟩
  case round =>
    obtain ⟨k, hk, rfl, HK, hB2, hB⟩ := hrel
    by_cases hlt : k < n
    · have hrow := HR.out.keep hB
      obtain ⟨ckx, ckz⟩ := hrow k (by rw [← HN.out]; exact hlt)
      clear hrow
      have HT : Hid ((px l k = x ∧ pz l k = z) → PIx l x z k) := fun h => .inl ⟨k, by rw [← HN.out]; exact hlt, rfl, h, HK.out⟩
      have HS : Hid (¬ (px l k = x ∧ pz l k = z) → ∀ j, j < k + 1 → ¬ (px l j = x ∧ pz l j = z)) := fun h j hj => by
        rcases Nat.lt_or_ge j k with q | q
        · exact HK.out j q
        · obtain rfl : j = k := by omega
          exact h
      have HL := Lib.hid hlt
      have c1 := cell_regrown ckx
      have c2 := cell_regrown ckz
      have c3 := cell_regrown hB2.1
      have c4 := cell_regrown hB2.2.1
      generalize px l k = fx at *
      generalize pz l k = fz at *
      have hcase : ¬ x = fx ∨ (x = fx ∧ ¬ z = fz) ∨ (x = fx ∧ z = fz) := by
        by_cases e1 : x = fx
        · by_cases e2 : z = fz
          · exact .inr (.inr ⟨e1, e2⟩)
          · exact .inr (.inl ⟨e1, e2⟩)
        · exact .inl e1
      have hN : (¬ x = fx ∨ (x = fx ∧ ¬ z = fz)) → ¬ (fx = x ∧ fz = z) := fun h ⟨a, b⟩ => by
        rcases h with h | ⟨_, h⟩
        · exact h a.symm
        · exact h b.symm
      rcases hcase with h | ⟨rfl, h⟩ | ⟨rfl, rfl⟩
      · have HS2 := Lib.hid (HS.out (hN (.inl h)))
        clear ckx ckz hN
        go_wp2_with fail
        refine wp_region_quiet_below (by kernel_rfl) (by kernel_rfl) ?_
        repeat (any_goals (first | go_big_quiet_step (fail) | quiet_step (fail)))
        refine wpQuiet_nil ?_
        intro _ hw'
        obtain ⟨⟨dq, osq⟩, hw''⟩ := hw'
        subst hw''
        have k2 := Below.thru hB hB.size (below_regrown wr dq osq)
        have S2 := Lib.hid (hB2.keep (below_regrown wr dq osq))
        clear c1 c2 c3 c4 hB hB2
        generalize Sort.grow (redrawn wr dq) osq = w1 at *
        go_wp2
        go_roundw
        case rel => exact ⟨k + 1, by have := HL.out; omega, by go_num, HS2.out, S2.out, k2⟩
        case measure =>
          have e9 : ((k : Int) + 1).toNat = k + 1 := by omega
          have := HL.out
          simp only [intOf, Int.toNat_natCast, e9]
          omega
      · have HS2 := Lib.hid (HS.out (hN (.inr ⟨rfl, h⟩)))
        clear ckx ckz hN
        go_wp2_with fail
        refine wp_region_quiet_below (by kernel_rfl) (by kernel_rfl) ?_
        repeat (any_goals (first | go_big_quiet_step (fail) | quiet_step (fail)))
        refine wpQuiet_nil ?_
        intro _ hw'
        obtain ⟨⟨dq, osq⟩, hw''⟩ := hw'
        subst hw''
        have k2 := Below.thru hB hB.size (below_regrown wr dq osq)
        have S2 := Lib.hid (hB2.keep (below_regrown wr dq osq))
        clear c1 c2 c3 c4 hB hB2
        generalize Sort.grow (redrawn wr dq) osq = w1 at *
        go_wp2
        go_roundw
        case rel => exact ⟨k + 1, by have := HL.out; omega, by go_num, HS2.out, S2.out, k2⟩
        case measure =>
          have e9 : ((k : Int) + 1).toNat = k + 1 := by omega
          have := HL.out
          simp only [intOf, Int.toNat_natCast, e9]
          omega
      · have HT2 := Lib.hid (HT.out ⟨rfl, rfl⟩)
        clear ckx ckz hN
        go_wp2_with fail
        refine wp_region_quiet_below (by kernel_rfl) (by kernel_rfl) ?_
        repeat (any_goals (first | go_big_quiet_step (fail) | quiet_step (fail)))
        refine wpQuiet_nil ?_
        intro _ hw'
        obtain ⟨⟨dq, osq⟩, hw''⟩ := hw'
        subst hw''
        have k2 := Below.thru hB hB.size (below_regrown wr dq osq)
        clear c1 c2 c3 c4 hB hB2
        generalize Sort.grow (redrawn wr dq) osq = w1 at *
        go_wp2
        go_ret
        exact ⟨⟨_, rfl, HT2.out⟩, k2⟩
    · obtain rfl : k = n := by omega
      go_wp2
      go_ret
      exact ⟨⟨_, rfl, .inr ⟨rfl, fun j hj => HK.out j (by rw [HN.out]; exact hj)⟩⟩, hB⟩
end Go.Proofs.YtljmhejljpfaiaaGreat
namespace Go.Proofs.YtljmhejljpfaiaaGreat
set_option maxRecDepth 100000
set_option maxRecDepth 100000
open Go.RowKit Go.Shelf

/-! MinFunc by lower -/
/-- the least of the first k + 1 corners -/
def mnL (l : List Pt) : Nat → Pt
  | 0 => (px l 0, pz l 0)
  | k + 1 => if lowI (px l (k + 1)) (pz l (k + 1)) (mnL l k).1 (mnL l k).2 < 0 then (px l (k + 1), pz l (k + 1)) else mnL l k
set_option maxHeartbeats 4000000 in
theorem minFunc_any (b o c : Nat) (l : List Pt) (w : World) (hr : Row w b o l) (h3 : 0 < l.length) (h12 : l.length ≤ 1000000) :
    Calls Tryz.prog 51 #[.slice (some ⟨b, o, none⟩) l.length c, .func (.func 21) #[] #[]] w fun e w' => e = .returned (.agg #[.int .i64 (mnL l (l.length - 1)).1, .int .i64 (mnL l (l.length - 1)).2]) ∧ Below w.heap.size w w' := by
  have HR := Lib.hid hr
  obtain ⟨n, hn⟩ : ∃ n, n = l.length := ⟨_, rfl⟩
  rw [← hn] at h3 h12 ⊢
  have HN := Lib.hid hn
  have hbw := hr.lt (by omega)
  obtain ⟨c0x, c0z⟩ := hr 0 (by omega)
  simp only [Nat.zero_mul, Nat.add_zero] at c0x c0z
  have H0 : Hid (mnL l 0 = (px l 0, pz l 0)) := rfl
  clear hr hn
  go_enter Tryz.func51, Tryz.ntmps51
  go_wp2
  go_loopw [6] (fun i wr => ∃ k : Nat, k + 1 ≤ n ∧ i = .int .i64 (k + 1 : Nat) ∧ B2 (w.heap.size + 1) (mnL l k).1 (mnL l k).2 wr ∧ B2 w.heap.size 0 0 wr ∧ Below w.heap.size w wr) (fun i _ => n - (intOf i).toNat)
  case atStart => exact ⟨0, by omega, rfl, ⟨by simp [go_sem, H0.out], by simp [go_sem, H0.out], by simp [go_sem], by simp [go_sem]⟩, ⟨by simp [go_sem], by simp [go_sem], by simp [go_sem], by simp [go_sem]⟩, bl2 _ _ _⟩
  case round =>
    obtain ⟨k, hk, rfl, hM, hZ, hB⟩ := hrel
    obtain ⟨m, hm⟩ : ∃ m, m = k + 1 := ⟨_, rfl⟩
    rw [← hm]
    rw [← hm] at hk
    have HMk := Lib.hid hm
    by_cases hlt : m < n
    · have hrow := HR.out.keep hB
      obtain ⟨ckx, ckz⟩ := hrow m (by rw [← HN.out]; exact hlt)
      clear hrow
      have HMS : Hid (mnL l m = if lowI (px l m) (pz l m) (mnL l k).1 (mnL l k).2 < 0 then (px l m, pz l m) else mnL l k) := by
        show _ = _
        rw [hm]; rfl
      have HL := Lib.hid (fun W => lower_any (px l m) (pz l m) (mnL l k).1 (mnL l k).2 W)
      have HLT := Lib.hid hlt
      generalize lowI (px l m) (pz l m) (mnL l k).1 (mnL l k).2 = lv at *
      generalize hcur : mnL l k = cur at *
      obtain ⟨mx, mz⟩ := cur
      dsimp only at *
      generalize px l m = fx at *
      generalize pz l m = fz at *
      have c1 := cell_regrown hM.1
      have c2 := cell_regrown hM.2.1
      have ckx' := cell_regrown ckx
      have ckz' := cell_regrown ckz
      clear hm hcur
      by_cases hl : lv < 0
      · have HR2 : Hid (mnL l m = (fx, fz)) := by show _ = _; rw [HMS.out, if_pos hl]
        go_wp2_with fail
        refine wp_region_quiet_below (by kernel_rfl) (by kernel_rfl) ?_
        repeat (any_goals (first | go_big_quiet_step (exact quiet_below HL.out wr _ _) | quiet_step (exact quiet_below HL.out wr _ _)))
        refine wpQuiet_nil ?_
        intro _ hw'
        obtain ⟨⟨dq, osq⟩, hw''⟩ := hw'
        subst hw''
        have k2 := Below.thru hB hB.size (below_regrown wr dq osq)
        have m2 := hM.keep (below_regrown wr dq osq)
        have z2 := hZ.keep (below_regrown wr dq osq)
        replace ckx := ckx' dq osq
        replace ckz := ckz' dq osq
        clear c1 c2 ckx' ckz' hB hM hZ
        generalize Sort.grow (redrawn wr dq) osq = w1 at *
        obtain ⟨g0, g1, g2, g3⟩ := id m2
        go_wp2
        go_roundw
        case rel => exact ⟨m, by have := HLT.out; omega, by go_num, by rw [HR2.out]; exact m2.put fx fz, z2.far (by omega) _ _, (k2.setCell (by simp) _).setCell (by simp) _⟩
        case measure =>
          have e9 : ((m : Int) + 1).toNat = m + 1 := by omega
          have := HLT.out
          simp only [intOf, Int.toNat_natCast, e9]
          omega
      · have HR2 : Hid (mnL l m = (mx, mz)) := by show _ = _; rw [HMS.out, if_neg hl]
        go_wp2_with fail
        refine wp_region_quiet_below (by kernel_rfl) (by kernel_rfl) ?_
        repeat (any_goals (first | go_big_quiet_step (exact quiet_below HL.out wr _ _) | quiet_step (exact quiet_below HL.out wr _ _)))
        refine wpQuiet_nil ?_
        intro _ hw'
        obtain ⟨⟨dq, osq⟩, hw''⟩ := hw'
        subst hw''
        have k2 := Below.thru hB hB.size (below_regrown wr dq osq)
        have m2 := hM.keep (below_regrown wr dq osq)
        have z2 := hZ.keep (below_regrown wr dq osq)
        replace ckx := ckx' dq osq
        replace ckz := ckz' dq osq
        clear c1 c2 ckx' ckz' hB hM hZ
        generalize Sort.grow (redrawn wr dq) osq = w1 at *
        obtain ⟨g0, g1, g2, g3⟩ := id m2
        go_wp2
        go_roundw
        case rel => exact ⟨m, by have := HLT.out; omega, by go_num, by rw [HR2.out]; exact m2, z2, k2⟩
        case measure =>
          have e9 : ((m : Int) + 1).toNat = m + 1 := by omega
          have := HLT.out
          simp only [intOf, Int.toNat_natCast, e9]
          omega
    · have hmn : m = n := by omega
      have hk9 : k = n - 1 := by omega
      subst hmn
      rw [hk9] at hM
      obtain ⟨g0, g1, g2, g3⟩ := hM
      obtain ⟨r0, r1, r2, r3⟩ := id hZ
      generalize hx1 : (mnL l (m - 1)).1 = mx at *
      generalize hx2 : (mnL l (m - 1)).2 = mz at *
      have X1 := Lib.hid hx1; have X2 := Lib.hid hx2
      have R9 := B2.put hZ mx mz
      have k9 := below_put hB (Nat.le_refl _) (.int .i64 mx) (.int .i64 mz)
      obtain ⟨q0, q1, _, _⟩ := R9
      clear hm hk9 hx1 hx2
      go_wp2
      exact bodyPost_ret (v := .agg #[.int .i64 mx, .int .i64 mz]) (by simp [results, Tryz.results51, go_sem, q0, q1]) rfl ⟨by rw [X1.out, X2.out], k9⟩
end Go.Proofs.YtljmhejljpfaiaaGreat
