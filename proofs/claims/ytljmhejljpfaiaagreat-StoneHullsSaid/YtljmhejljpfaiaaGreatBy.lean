import Derived.Test.YtljmhejljpfaiaaGreatBw
import Derived.Laws.EntriesVeiled
namespace Go.Proofs.YtljmhejljpfaiaaGreat
set_option maxRecDepth 100000
set_option maxRecDepth 100000
open Go.RowKit Go.Shelf

/-! laid, Reverse -/
/-- where a way takes a point -/
def wayf (k : Nat) (p : Pt) : Pt := match k with
  | 0 => (p.1, p.2)
  | 1 => (-p.2, p.1)
  | 2 => (-p.1, -p.2)
  | 3 => (p.2, -p.1)
  | 4 => (-p.1, p.2)
  | 5 => (-p.2, -p.1)
  | 6 => (p.1, -p.2)
  | _ => (p.2, p.1)
theorem laid0_any (x z : Int) (w : World) (h1 : Sm x) (h2 : Sm z) : Calls Tryz.prog 65 #[.agg #[.int .i64 x, .int .i64 z]] w fun e w' => e = .returned (.agg #[.int .i64 (x), .int .i64 (z)]) ∧ Below w.heap.size w w' := by
  unfold Sm at *
  have e1 := IntWalk.i64_in (-x) (by omega)
  have e2 := IntWalk.i64_in (-z) (by omega)
  clear h1 h2
  go_enter Tryz.func65, Tryz.ntmps65
  go_wp2
  exact bodyPost_ret (v := .agg #[.int .i64 (x), .int .i64 (z)]) (by simp [results, Tryz.results65, go_sem]) rfl ⟨rfl, bl2 w _ _⟩
theorem laid1_any (x z : Int) (w : World) (h1 : Sm x) (h2 : Sm z) : Calls Tryz.prog 66 #[.agg #[.int .i64 x, .int .i64 z]] w fun e w' => e = .returned (.agg #[.int .i64 (-z), .int .i64 (x)]) ∧ Below w.heap.size w w' := by
  unfold Sm at *
  have e1 := IntWalk.i64_in (-x) (by omega)
  have e2 := IntWalk.i64_in (-z) (by omega)
  clear h1 h2
  go_enter Tryz.func66, Tryz.ntmps66
  go_wp2
  exact bodyPost_ret (v := .agg #[.int .i64 (-z), .int .i64 (x)]) (by simp [results, Tryz.results66, go_sem]) rfl ⟨rfl, bl2 w _ _⟩
theorem laid2_any (x z : Int) (w : World) (h1 : Sm x) (h2 : Sm z) : Calls Tryz.prog 67 #[.agg #[.int .i64 x, .int .i64 z]] w fun e w' => e = .returned (.agg #[.int .i64 (-x), .int .i64 (-z)]) ∧ Below w.heap.size w w' := by
  unfold Sm at *
  have e1 := IntWalk.i64_in (-x) (by omega)
  have e2 := IntWalk.i64_in (-z) (by omega)
  clear h1 h2
  go_enter Tryz.func67, Tryz.ntmps67
  go_wp2
  exact bodyPost_ret (v := .agg #[.int .i64 (-x), .int .i64 (-z)]) (by simp [results, Tryz.results67, go_sem]) rfl ⟨rfl, bl2 w _ _⟩
theorem laid3_any (x z : Int) (w : World) (h1 : Sm x) (h2 : Sm z) : Calls Tryz.prog 68 #[.agg #[.int .i64 x, .int .i64 z]] w fun e w' => e = .returned (.agg #[.int .i64 (z), .int .i64 (-x)]) ∧ Below w.heap.size w w' := by
  unfold Sm at *
  have e1 := IntWalk.i64_in (-x) (by omega)
  have e2 := IntWalk.i64_in (-z) (by omega)
  clear h1 h2
  go_enter Tryz.func68, Tryz.ntmps68
  go_wp2
  exact bodyPost_ret (v := .agg #[.int .i64 (z), .int .i64 (-x)]) (by simp [results, Tryz.results68, go_sem]) rfl ⟨rfl, bl2 w _ _⟩
theorem laid4_any (x z : Int) (w : World) (h1 : Sm x) (h2 : Sm z) : Calls Tryz.prog 69 #[.agg #[.int .i64 x, .int .i64 z]] w fun e w' => e = .returned (.agg #[.int .i64 (-x), .int .i64 (z)]) ∧ Below w.heap.size w w' := by
  unfold Sm at *
  have e1 := IntWalk.i64_in (-x) (by omega)
  have e2 := IntWalk.i64_in (-z) (by omega)
  clear h1 h2
  go_enter Tryz.func69, Tryz.ntmps69
  go_wp2
  exact bodyPost_ret (v := .agg #[.int .i64 (-x), .int .i64 (z)]) (by simp [results, Tryz.results69, go_sem]) rfl ⟨rfl, bl2 w _ _⟩
theorem laid5_any (x z : Int) (w : World) (h1 : Sm x) (h2 : Sm z) : Calls Tryz.prog 70 #[.agg #[.int .i64 x, .int .i64 z]] w fun e w' => e = .returned (.agg #[.int .i64 (-z), .int .i64 (-x)]) ∧ Below w.heap.size w w' := by
  unfold Sm at *
  have e1 := IntWalk.i64_in (-x) (by omega)
  have e2 := IntWalk.i64_in (-z) (by omega)
  clear h1 h2
  go_enter Tryz.func70, Tryz.ntmps70
  go_wp2
  exact bodyPost_ret (v := .agg #[.int .i64 (-z), .int .i64 (-x)]) (by simp [results, Tryz.results70, go_sem]) rfl ⟨rfl, bl2 w _ _⟩
theorem laid6_any (x z : Int) (w : World) (h1 : Sm x) (h2 : Sm z) : Calls Tryz.prog 71 #[.agg #[.int .i64 x, .int .i64 z]] w fun e w' => e = .returned (.agg #[.int .i64 (x), .int .i64 (-z)]) ∧ Below w.heap.size w w' := by
  unfold Sm at *
  have e1 := IntWalk.i64_in (-x) (by omega)
  have e2 := IntWalk.i64_in (-z) (by omega)
  clear h1 h2
  go_enter Tryz.func71, Tryz.ntmps71
  go_wp2
  exact bodyPost_ret (v := .agg #[.int .i64 (x), .int .i64 (-z)]) (by simp [results, Tryz.results71, go_sem]) rfl ⟨rfl, bl2 w _ _⟩
theorem laid7_any (x z : Int) (w : World) (h1 : Sm x) (h2 : Sm z) : Calls Tryz.prog 72 #[.agg #[.int .i64 x, .int .i64 z]] w fun e w' => e = .returned (.agg #[.int .i64 (z), .int .i64 (x)]) ∧ Below w.heap.size w w' := by
  unfold Sm at *
  have e1 := IntWalk.i64_in (-x) (by omega)
  have e2 := IntWalk.i64_in (-z) (by omega)
  clear h1 h2
  go_enter Tryz.func72, Tryz.ntmps72
  go_wp2
  exact bodyPost_ret (v := .agg #[.int .i64 (z), .int .i64 (x)]) (by simp [results, Tryz.results72, go_sem]) rfl ⟨rfl, bl2 w _ _⟩
theorem way_any (k : Nat) (hk : k < 8) (x z : Int) (w : World) (h1 : Sm x) (h2 : Sm z) : Calls Tryz.prog (65 + k) #[.agg #[.int .i64 x, .int .i64 z]] w fun e w' => e = .returned (.agg #[.int .i64 (wayf k (x, z)).1, .int .i64 (wayf k (x, z)).2]) ∧ Below w.heap.size w w' := by
  have h8 : k = 0 ∨ k = 1 ∨ k = 2 ∨ k = 3 ∨ k = 4 ∨ k = 5 ∨ k = 6 ∨ k = 7 := by omega
  rcases h8 with rfl | rfl | rfl | rfl | rfl | rfl | rfl | rfl
  · exact laid0_any x z w h1 h2
  · exact laid1_any x z w h1 h2
  · exact laid2_any x z w h1 h2
  · exact laid3_any x z w h1 h2
  · exact laid4_any x z w h1 h2
  · exact laid5_any x z w h1 h2
  · exact laid6_any x z w h1 h2
  · exact laid7_any x z w h1 h2
theorem laidw0_any (w : World) : Calls Tryz.prog 38 #[.int .i64 0] w fun e w' => e = .returned (.func (.func 65) #[] #[]) ∧ Below w.heap.size w w' := by
  go_enter Tryz.func38, Tryz.ntmps38
  go_wp2
  go_ret
  exact ⟨rfl, bl1 _ _⟩
theorem laidw1_any (w : World) : Calls Tryz.prog 38 #[.int .i64 1] w fun e w' => e = .returned (.func (.func 66) #[] #[]) ∧ Below w.heap.size w w' := by
  go_enter Tryz.func38, Tryz.ntmps38
  go_wp2
  go_ret
  exact ⟨rfl, bl1 _ _⟩
theorem laidw2_any (w : World) : Calls Tryz.prog 38 #[.int .i64 2] w fun e w' => e = .returned (.func (.func 67) #[] #[]) ∧ Below w.heap.size w w' := by
  go_enter Tryz.func38, Tryz.ntmps38
  go_wp2
  go_ret
  exact ⟨rfl, bl1 _ _⟩
theorem laidw3_any (w : World) : Calls Tryz.prog 38 #[.int .i64 3] w fun e w' => e = .returned (.func (.func 68) #[] #[]) ∧ Below w.heap.size w w' := by
  go_enter Tryz.func38, Tryz.ntmps38
  go_wp2
  go_ret
  exact ⟨rfl, bl1 _ _⟩
theorem laidw4_any (w : World) : Calls Tryz.prog 38 #[.int .i64 4] w fun e w' => e = .returned (.func (.func 69) #[] #[]) ∧ Below w.heap.size w w' := by
  go_enter Tryz.func38, Tryz.ntmps38
  go_wp2
  go_ret
  exact ⟨rfl, bl1 _ _⟩
theorem laidw5_any (w : World) : Calls Tryz.prog 38 #[.int .i64 5] w fun e w' => e = .returned (.func (.func 70) #[] #[]) ∧ Below w.heap.size w w' := by
  go_enter Tryz.func38, Tryz.ntmps38
  go_wp2
  go_ret
  exact ⟨rfl, bl1 _ _⟩
theorem laidw6_any (w : World) : Calls Tryz.prog 38 #[.int .i64 6] w fun e w' => e = .returned (.func (.func 71) #[] #[]) ∧ Below w.heap.size w w' := by
  go_enter Tryz.func38, Tryz.ntmps38
  go_wp2
  go_ret
  exact ⟨rfl, bl1 _ _⟩
theorem laidw7_any (w : World) : Calls Tryz.prog 38 #[.int .i64 7] w fun e w' => e = .returned (.func (.func 72) #[] #[]) ∧ Below w.heap.size w w' := by
  go_enter Tryz.func38, Tryz.ntmps38
  go_wp2
  go_ret
  exact ⟨rfl, bl1 _ _⟩
theorem laid_any (k : Nat) (hk : k < 8) (w : World) : Calls Tryz.prog 38 #[.int .i64 k] w fun e w' => e = .returned (.func (.func (65 + k)) #[] #[]) ∧ Below w.heap.size w w' := by
  have h8 : k = 0 ∨ k = 1 ∨ k = 2 ∨ k = 3 ∨ k = 4 ∨ k = 5 ∨ k = 6 ∨ k = 7 := by omega
  rcases h8 with rfl | rfl | rfl | rfl | rfl | rfl | rfl | rfl
  · exact laidw0_any w
  · exact laidw1_any w
  · exact laidw2_any w
  · exact laidw3_any w
  · exact laidw4_any w
  · exact laidw5_any w
  · exact laidw6_any w
  · exact laidw7_any w
end Go.Proofs.YtljmhejljpfaiaaGreat
namespace Go.Proofs.YtljmhejljpfaiaaGreat
set_option maxRecDepth 100000
set_option maxRecDepth 100000
open Go.RowKit Go.Shelf

/-! Reverse -/
theorem cls_set (p : Pt) : ∀ (l : List Pt) (i : Nat), cls (l.set i p) = ((cls l).set (i * 2) (.int .i64 p.1)).set (i * 2 + 1) (.int .i64 p.2)
  | [], i => by simp [cls]
  | q :: l, 0 => rfl
  | q :: l, i + 1 => by
    have e : ∀ r, cls (q :: r) = .int .i64 q.1 :: .int .i64 q.2 :: cls r := fun _ => rfl
    rw [List.set_cons_succ, e, e, cls_set p l i, show (i + 1) * 2 = i * 2 + 1 + 1 by omega]
    rfl
theorem Own.put {w : World} {base g n c : Nat} {l : List Pt} (h : Own w base (.slice (some ⟨g, 0, none⟩) n c) l) (i : Nat) (x z : Int) :
    Own ((w.setCell ⟨g, i * 2, none⟩ (.int .i64 x)).setCell ⟨g, i * 2 + 1, none⟩ (.int .i64 z)) base (.slice (some ⟨g, 0, none⟩) n c) (l.set i (x, z)) := by
  obtain ⟨h1, h2 | ⟨g', cap, cur, e1, hb, hg, hc, hm, hs, ht⟩⟩ := h
  · cases h2.1
  · cases e1
    refine ⟨by rw [cls_length], .inr ⟨g, c, (cur.setIfInBounds (i * 2) (.int .i64 x)).setIfInBounds (i * 2 + 1) (.int .i64 z), by rw [List.length_set], hb, ?_, by rw [List.length_set]; exact hc, hm, by simpa using hs, ?_⟩⟩
    · exact Blk.set (i := i * 2 + 1) (.int .i64 z) (Blk.set (B := g) (i := i * 2) (.int .i64 x) hg)
    · rw [cls_set, List.length_set, ← ht]
      simp [List.take_set]
theorem px_set (l : List Pt) (i : Nat) (p : Pt) (t : Nat) (hi : i < l.length) : px (l.set i p) t = if t = i then p.1 else px l t := by
  unfold px
  rw [List.getD_eq_getElem?_getD, List.getD_eq_getElem?_getD, List.getElem?_set]
  by_cases h : i = t
  · subst h; simp [hi]
  · rw [if_neg h, if_neg (fun e => h e.symm)]
theorem pz_set (l : List Pt) (i : Nat) (p : Pt) (t : Nat) (hi : i < l.length) : pz (l.set i p) t = if t = i then p.2 else pz l t := by
  unfold pz
  rw [List.getD_eq_getElem?_getD, List.getD_eq_getElem?_getD, List.getElem?_set]
  by_cases h : i = t
  · subst h; simp [hi]
  · rw [if_neg h, if_neg (fun e => h e.symm)]
theorem pts_ext {a b : List Pt} (hl : a.length = b.length) (h : ∀ t, t < a.length → px a t = px b t ∧ pz a t = pz b t) : a = b := by
  refine List.ext_getElem hl fun t h1 h2 => ?_
  obtain ⟨e1, e2⟩ := h t h1
  unfold px at e1
  unfold pz at e2
  rw [List.getD_eq_getElem?_getD, List.getD_eq_getElem?_getD, List.getElem?_eq_getElem h1, List.getElem?_eq_getElem h2] at e1 e2
  exact Prod.ext e1 e2
theorem px_reverse (l : List Pt) (t : Nat) (h : t < l.length) : px l.reverse t = px l (l.length - 1 - t) ∧ pz l.reverse t = pz l (l.length - 1 - t) := by
  unfold px pz
  simp only [List.getD_eq_getElem?_getD]
  rw [List.getElem?_reverse h]
  exact ⟨rfl, rfl⟩
/-- what stands at t when k pairs have changed places -/
def rvi (n k t : Nat) : Nat := if t < k ∨ n - k ≤ t then n - 1 - t else t
set_option maxHeartbeats 4000000 in
theorem reverse_any (g c base : Nat) (l : List Pt) (w : World) (h : Own w base (.slice (some ⟨g, 0, none⟩) l.length c) l) (h3 : 0 < l.length) (h12 : l.length ≤ 1000) :
    Calls Tryz.prog 39 #[.slice (some ⟨g, 0, none⟩) l.length c] w fun e w' => (∃ v, e = .returned v) ∧ Own w' base (.slice (some ⟨g, 0, none⟩) l.length c) l.reverse ∧ Below base w w' := by
  have HO := Lib.hid h
  obtain ⟨n, hn⟩ : ∃ n, n = l.length := ⟨_, rfl⟩
  have HN := Lib.hid hn
  rw [← hn] at h3 h12 HO ⊢
  clear h hn
  have hge : Hid (base ≤ g) := (own_cells HO.out rfl).1
  go_enter Tryz.func39, Tryz.ntmps39
  go_wp2
  go_loopw [2, 3] (fun i j wr => ∃ k : Nat, k ≤ n ∧ i = .int .i64 k ∧ j = .int .i64 ((n : Int) - 1 - k) ∧ Hid (∃ l', Own wr base (.slice (some ⟨g, 0, none⟩) n c) l' ∧ l'.length = n ∧ ∀ t, t < n → px l' t = px l (rvi n k t) ∧ pz l' t = pz l (rvi n k t)) ∧ Hid (Below base w wr)) (fun i _ _ => n - (intOf i).toNat)
  case atStart => exact ⟨0, Nat.zero_le _, rfl, by simp, ⟨l, HO.out, HN.out.symm, fun t ht => by unfold rvi; rw [if_neg (by omega)]; exact ⟨rfl, rfl⟩⟩, Below.refl _ _⟩
  case round =>
    obtain ⟨k, hk, rfl, rfl, HC, HB⟩ := hrel
    by_cases hlt : k < n - 1 - k
    · obtain ⟨l', ho, hl, ht⟩ := HC.out
      have hrow : Row wr g 0 l' := by
        rcases ho.row with ⟨h, _⟩ | ⟨g', c', h, hr, _⟩
        · cases h
        · cases h; exact hr
      obtain ⟨a0, a1⟩ := hrow k (by omega)
      obtain ⟨j, hj⟩ : ∃ j : Nat, j = n - 1 - k := ⟨_, rfl⟩
      have hji : (n : Int) - 1 - k = (j : Int) := by omega
      obtain ⟨b0, b1⟩ := hrow j (by omega)
      simp only [Nat.zero_add] at a0 a1 b0 b1
      rw [hji]
      have hkj : k < j := by omega
      have hjn : j < n := by omega
      have HJ := Lib.hid (And.intro hj hji)
      have HO2 := Lib.hid (And.intro ho (And.intro hl ht))
      have hb : Blk g _ 37 wr := (own_cells ho rfl).2.choose_spec
      have f0 := hb.frozen (k * 2)
      have f1 := hb.frozen (k * 2 + 1)
      have f2 := hb.frozen (j * 2)
      have f3 := hb.frozen (j * 2 + 1)
      have hgl := hb.lt
      have HE : Hid (px l' j = px l (rvi n k j) ∧ pz l' j = pz l (rvi n k j) ∧ px l' k = px l (rvi n k k) ∧ pz l' k = pz l (rvi n k k)) := ⟨(ht j hjn).1, (ht j hjn).2, (ht k (by omega)).1, (ht k (by omega)).2⟩
      clear hrow ho hl ht hb hji hj
      generalize px l' k = xk at *
      generalize pz l' k = zk at *
      generalize px l' j = xj at *
      generalize pz l' j = zj at *
      go_wp2_with fail
      go_region
      go_wp2
      go_roundw
      case rel =>
        obtain ⟨ho, hl, ht⟩ := HO2.out
        obtain ⟨e1, e2, e3, e4⟩ := HE.out
        obtain ⟨hj, hji⟩ := HJ.out
        refine ⟨k + 1, by omega, by go_num, by congr 1; omega, ⟨(l'.set k (xj, zj)).set j (xk, zk), World.ownsRow.drew ((ho.put k xj zj).put j xk zk), by rw [List.length_set, List.length_set]; exact hl, fun t htn => ?_⟩, (((((HB.out.setCell hge.out _).setCell hge.out _).setCell hge.out _).setCell hge.out _).drew)⟩
        rw [px_set _ _ _ _ (by rw [List.length_set]; omega), px_set _ _ _ _ (by omega), pz_set _ _ _ _ (by rw [List.length_set]; omega), pz_set _ _ _ _ (by omega)]
        by_cases q1 : t = j
        · subst q1
          rw [if_pos rfl, if_pos rfl]
          have r1 : rvi n k k = k := by unfold rvi; rw [if_neg (by omega)]
          have r2 : rvi n (k + 1) t = k := by unfold rvi; rw [if_pos (by omega)]; omega
          rw [r2]
          rw [r1] at e3 e4
          exact ⟨e3, e4⟩
        · rw [if_neg q1, if_neg q1]
          by_cases q2 : t = k
          · subst q2
            rw [if_pos rfl, if_pos rfl]
            have r1 : rvi n t j = j := by unfold rvi; rw [if_neg (by omega)]
            have r2 : rvi n (t + 1) t = j := by unfold rvi; rw [if_pos (by omega)]; omega
            rw [r2]
            rw [r1] at e1 e2
            exact ⟨e1, e2⟩
          · rw [if_neg q2, if_neg q2]
            have r : rvi n (k + 1) t = rvi n k t := by unfold rvi; split <;> split <;> omega
            rw [r]
            exact ht t htn
      case measure => simp [intOf]; omega
    · have hlt2 : ¬ ((k : Int) < (n : Int) - 1 - k) := by omega
      have H1 : Hid (Own wr base (.slice (some ⟨g, 0, none⟩) n c) l.reverse) := by
        obtain ⟨l', ho, hl, ht⟩ := HC.out
        have e : l' = l.reverse := by
          have hN := HN.out
          refine pts_ext (by rw [hl, List.length_reverse]; exact hN) fun t h => ?_
          have h9 := px_reverse l t (by omega)
          rw [h9.1, h9.2]
          have := ht t (by omega)
          rw [this.1, this.2, ← hN]
          have e2 : rvi n k t = n - 1 - t := by unfold rvi; split <;> omega
          rw [e2]
          exact ⟨rfl, rfl⟩
        rw [← e]
        exact ho
      have hB := HB.out
      go_wp2
      go_end0
      exact ⟨⟨_, rfl⟩, H1.out, hB⟩
end Go.Proofs.YtljmhejljpfaiaaGreat
