import Derived.Test.YtljmhejljpfaiaaIf
import Derived.Test.YtljmhejljpfaiaaDc
namespace Go.Proofs.Ytljmhejljpfaiaa
open Go.RowKit Go.Shelf

/-! plain mathematics: shapes that are moved, turned, and listed from elsewhere -/
/-- the same shape, listed from r on, moved -/
structure Sim (l l' : List Pt) (r : Nat) (dx dz : Int) : Prop where
  len : l'.length = l.length
  pt : ∀ i, i < l.length → pt l' i = ((pc l (i + r)).1 + dx, (pc l (i + r)).2 + dz)
theorem Sim.pc {l l' : List Pt} {r : Nat} {dx dz : Int} (h : Sim l l' r dx dz) (h0 : 0 < l.length) (i : Nat) : pc l' i = ((pc l (i + r)).1 + dx, (pc l (i + r)).2 + dz) := by
  have e : Go.Proofs.Ytljmhejljpfaiaa.pc l' i = Go.Proofs.Ytljmhejljpfaiaa.pt l' (i % l.length) := by unfold Go.Proofs.Ytljmhejljpfaiaa.pc; rw [h.len]
  rw [e, h.pt _ (Nat.mod_lt _ h0)]
  have e2 : Go.Proofs.Ytljmhejljpfaiaa.pc l (i % l.length + r) = Go.Proofs.Ytljmhejljpfaiaa.pc l (i + r) := by unfold Go.Proofs.Ytljmhejljpfaiaa.pc; rw [Nat.mod_add_mod]
  rw [e2]
theorem D3_move (a b c : Pt) (dx dz : Int) : D3 (a.1 + dx, a.2 + dz) (b.1 + dx, b.2 + dz) (c.1 + dx, c.2 + dz) = D3 a b c := by
  unfold D3
  dsimp only
  rw [show b.1 + dx - (a.1 + dx) = b.1 - a.1 by omega, show c.2 + dz - (a.2 + dz) = c.2 - a.2 by omega, show c.1 + dx - (a.1 + dx) = c.1 - a.1 by omega, show b.2 + dz - (a.2 + dz) = b.2 - a.2 by omega]
theorem pt_pc {l : List Pt} {i : Nat} (h : i < l.length) : pt l i = pc l i := by unfold pc; rw [Nat.mod_eq_of_lt h]
theorem Sim.tr {l l' : List Pt} {r : Nat} {dx dz : Int} (h : Sim l l' r dx dz) (ht : Tr l) : Tr l' := fun i j k hij hjk hk => by
  rw [h.len] at hk
  rw [h.pt i (by omega), h.pt j (by omega), h.pt k hk, D3_move]
  exact ht.cyc _ _ _ (by omega) (by omega) (by omega)
theorem Tr.nodup {l : List Pt} (h : Tr l) (h3 : 3 ≤ l.length) : l.Nodup := by
  refine List.pairwise_iff_getElem.2 fun i j hi hj hij e => ?_
  have e1 : ∀ k (hk : k < l.length), pc l k = l[k] := fun k hk => by
    rw [← pt_pc hk]; unfold pt; simp [hk]
  have := h.inj h3 hij (by omega)
  rw [e1 i hi, e1 j hj] at this
  exact this e
theorem stl_at {l : List Pt} {i : Nat} (hi : i < l.length) : pt (stl l) i = stp l i := by
  unfold pt stl
  rw [List.getD_eq_getElem?_getD, List.getElem?_map, List.getElem?_range hi]
  rfl
theorem stl_len (l : List Pt) : (stl l).length = l.length := by unfold stl; simp
theorem pt_eta (l : List Pt) (i : Nat) : pt l i = (px l i, pz l i) := rfl
/-- a shape in its place is the shape, moved -/
theorem stl_sim (l : List Pt) : Sim l (stl l) (fst l l.length) (-mnx l l.length) (-mnz l l.length) :=
  ⟨stl_len l, fun i hi => by
    rw [stl_at hi, Nat.add_comm i]
    unfold stp pc
    rfl⟩
theorem nodup_pt {l : List Pt} (hu : l.Nodup) {i j : Nat} (hi : i < l.length) (hj : j < l.length) (h1 : px l i = px l j) (h2 : pz l i = pz l j) : i = j := by
  have e3 : l.getD i (0, 0) = l.getD j (0, 0) := Prod.ext h1 h2
  have eg : ∀ i (hi : i < l.length), l.getD i (0, 0) = l[i] := fun i hi => by simp [hi]
  rw [eg _ hi, eg _ hj] at e3
  exact nodup_inj hu _ _ e3
theorem Sim.stl {l l' : List Pt} {r : Nat} {dx dz : Int} (h : Sim l l' r dx dz) (h0 : 0 < l.length) (hu : l.Nodup) : stl l' = stl l := by
  obtain ⟨n, hn⟩ : ∃ n, n = l.length := ⟨_, rfl⟩
  have n2 : l'.length = n := by rw [h.len, hn]
  have hpx : ∀ i, i < n → px l' i = px l ((i + r) % n) + dx := fun i hi => by
    have := congrArg Prod.fst (h.pt i (by omega)); rw [hn]; exact this
  have hpz : ∀ i, i < n → pz l' i = pz l ((i + r) % n) + dz := fun i hi => by
    have := congrArg Prod.snd (h.pt i (by omega)); rw [hn]; exact this
  obtain ⟨a1, _, a3⟩ := fst_least l n
  obtain ⟨b1, _, b3⟩ := fst_least l' n
  have a3 := a3 (by omega); have b3 := b3 (by omega)
  have hg : (fst l' n + r) % n < n := Nat.mod_lt _ (by omega)
  have back : ∀ j, j < n → ∃ k, k < n ∧ (k + r) % n = j := fun j hj => by
    have hr : r % n < n := Nat.mod_lt _ (by omega)
    rcases Nat.lt_or_ge j (r % n) with q | q
    · refine ⟨j + n - r % n, by omega, ?_⟩
      rw [Nat.add_mod, Nat.mod_eq_of_lt (show j + n - r % n < n by omega), show j + n - r % n + r % n = j + n by omega, Nat.add_mod_right, Nat.mod_eq_of_lt hj]
    · refine ⟨j - r % n, by omega, ?_⟩
      rw [Nat.add_mod, Nat.mod_eq_of_lt (show j - r % n < n by omega), show j - r % n + r % n = j by omega, Nat.mod_eq_of_lt hj]
  have hf : (fst l' n + r) % n = fst l n := by
    have h1 := a1 _ hg
    obtain ⟨k, hk, ek⟩ := back _ a3
    have h2 := b1 k hk
    unfold Lx at h1 h2
    rw [hpx k hk, hpz k hk, hpx _ b3, hpz _ b3, ek] at h2
    exact nodup_pt hu (by omega) (by omega) (by omega) (by omega)
  have hmz : mnz l' n = mnz l n + dz := by
    have e1 := mnz_fst l (n - 1); have e2 := mnz_fst l' (n - 1)
    rw [show n - 1 + 1 = n by omega] at e1 e2
    rw [e1, e2, hpz _ b3, hf]
  have hmx : mnx l' n = mnx l n + dx := by
    obtain ⟨c1, c2, c3⟩ := mnx_le l n
    obtain ⟨d1, d2, d3⟩ := mnx_le l' n
    have h1 : mnx l n + dx ≤ mnx l' n := by
      rcases d3 with e | ⟨j, hj, e⟩
      · have := c2 ((0 + r) % n) (Nat.mod_lt _ (by omega)); rw [e, hpx 0 (by omega)]; omega
      · have := c2 ((j + r) % n) (Nat.mod_lt _ (by omega)); rw [e, hpx j hj]; omega
    have h2 : ∀ j, j < n → mnx l' n ≤ px l j + dx := fun j hj => by
      obtain ⟨k, hk, ek⟩ := back j hj
      have := d2 k hk
      rw [hpx k hk, ek] at this
      exact this
    rcases c3 with e | ⟨j, hj, e⟩
    · have := h2 0 (by omega); omega
    · have := h2 j hj; omega
  unfold Go.Proofs.Ytljmhejljpfaiaa.stl
  rw [n2, ← hn]
  refine List.map_congr_left fun i _ => ?_
  unfold stp
  rw [n2, ← hn, hmz, hmx, hpx _ (Nat.mod_lt _ (by omega)), hpz _ (Nat.mod_lt _ (by omega))]
  have e : ((fst l' n + i) % n + r) % n = (fst l n + i) % n := by
    rw [← hf, Nat.mod_add_mod, Nat.mod_add_mod, show fst l' n + i + r = fst l' n + r + i by omega]
  rw [e]
  refine Prod.ext ?_ ?_ <;> dsimp only <;> omega
/-- put in its place, a convex shape that is small enough is one in its place -/
theorem Tr.pl {l : List Pt} (ht : Tr l) (h3 : 3 ≤ l.length) (h12 : l.length ≤ 12) {a b : Int} (hb : ∀ i, i < l.length → (a ≤ px l i ∧ px l i ≤ a + 2000) ∧ (b ≤ pz l i ∧ pz l i ≤ b + 2000)) : Pl (stl l) := by
  obtain ⟨n, hn⟩ : ∃ n, n = l.length := ⟨_, rfl⟩
  have hsl := stl_len l
  have hs := stl_sim l
  have hst := hs.tr ht
  obtain ⟨c1, c2, c3⟩ := mnx_le l l.length
  have ez := mnz_fst l (l.length - 1)
  rw [show l.length - 1 + 1 = l.length by omega] at ez
  obtain ⟨f1, _, f3⟩ := fst_least l l.length
  have f3 := f3 (by omega)
  have hx : ∀ i, i < l.length → px (stl l) i = px l ((fst l l.length + i) % l.length) - mnx l l.length := fun i hi => congrArg Prod.fst (stl_at hi)
  have hz : ∀ i, i < l.length → pz (stl l) i = pz l ((fst l l.length + i) % l.length) - mnz l l.length := fun i hi => congrArg Prod.snd (stl_at hi)
  have hm : ∀ i, (fst l l.length + i) % l.length < l.length := fun i => Nat.mod_lt _ (by omega)
  have hzl : ∀ j, j < l.length → pz l (fst l l.length) ≤ pz l j := fun j hj => by
    have := f1 j hj
    unfold Lx at this
    omega
  have hma : a ≤ mnx l l.length := by
    rcases c3 with e | ⟨j, hj, e⟩
    · rw [e]; exact (hb 0 (by omega)).1.1
    · rw [e]; exact (hb j hj).1.1
  refine ⟨by omega, fun i hi => ?_, ?_, ?_, ?_, ?_⟩
  · rw [hsl] at hi
    have e1 := hb _ (hm i)
    have e2 := c2 _ (hm i)
    have e3 := hzl _ (hm i)
    have e4 := (hb _ f3).2
    rw [hx i hi, hz i hi, ez]
    omega
  · rw [hsl]
    obtain ⟨d1, d2, d3⟩ := mnx_le (stl l) l.length
    have h1 : 0 ≤ mnx (stl l) l.length := by
      rcases d3 with e | ⟨j, hj, e⟩
      · rw [e, hx 0 (by omega)]; have := c2 _ (hm 0); omega
      · rw [e, hx j hj]; have := c2 _ (hm j); omega
    have h2 : ∀ j, j < l.length → mnx (stl l) l.length ≤ px l j - mnx l l.length := fun j hj => by
      obtain ⟨k, hk, ek⟩ : ∃ k, k < l.length ∧ (fst l l.length + k) % l.length = j := by
        rcases Nat.lt_or_ge j (fst l l.length) with q | q
        · exact ⟨j + l.length - fst l l.length, by omega, by rw [show fst l l.length + (j + l.length - fst l l.length) = j + l.length by omega, Nat.add_mod_right, Nat.mod_eq_of_lt hj]⟩
        · exact ⟨j - fst l l.length, by omega, by rw [show fst l l.length + (j - fst l l.length) = j by omega, Nat.mod_eq_of_lt hj]⟩
      have := d2 k hk
      rw [hx k hk, ek] at this
      exact this
    rcases c3 with e | ⟨j, hj, e⟩
    · have := h2 0 (by omega); omega
    · have := h2 j hj; omega
  · rw [hz 0 (by omega), Nat.add_zero, Nat.mod_eq_of_lt f3, ez]; omega
  · rw [hsl, hz _ (by omega), ez]
    have hge := hzl _ (hm (l.length - 1))
    rcases Int.lt_or_le (pz l (fst l l.length)) (pz l ((fst l l.length + (l.length - 1)) % l.length)) with q | q
    · omega
    · exfalso
      have hnl := f1 _ (hm (l.length - 1))
      unfold Lx at hnl
      have hD := ht.cyc (fst l l.length + (l.length - 1)) (fst l l.length + l.length) (fst l l.length + l.length + 1) (by omega) (by omega) (by omega)
      rw [pc_add, show fst l l.length + l.length + 1 = fst l l.length + 1 + l.length by omega, pc_add] at hD
      have ea : pc l (fst l l.length + (l.length - 1)) = (px l ((fst l l.length + (l.length - 1)) % l.length), pz l ((fst l l.length + (l.length - 1)) % l.length)) := rfl
      have eb : pc l (fst l l.length) = (px l (fst l l.length), pz l (fst l l.length)) := pc_lt f3
      have ec : pc l (fst l l.length + 1) = (px l ((fst l l.length + 1) % l.length), pz l ((fst l l.length + 1) % l.length)) := rfl
      have hc := hzl _ (hm 1)
      rw [ea, eb, ec] at hD
      unfold D3 at hD
      dsimp only at hD
      generalize px l ((fst l l.length + (l.length - 1)) % l.length) = xa at *
      generalize pz l ((fst l l.length + (l.length - 1)) % l.length) = za at *
      generalize px l (fst l l.length) = xb at *
      generalize pz l (fst l l.length) = zb at *
      generalize px l ((fst l l.length + 1) % l.length) = xc at *
      generalize pz l ((fst l l.length + 1) % l.length) = zc at *
      obtain rfl : za = zb := by omega
      have e0 : za - za = 0 := by omega
      rw [e0, Int.mul_zero, Int.sub_zero] at hD
      have : (xb - xa) * (zc - za) ≤ 0 := Int.mul_nonpos_of_nonpos_of_nonneg (by omega) (by omega)
      omega
  · exact (hst.cr (by omega)).cv (by omega)
/-! ways -/
theorem eight {k : Nat} (hk : k < 8) : k = 0 ∨ k = 1 ∨ k = 2 ∨ k = 3 ∨ k = 4 ∨ k = 5 ∨ k = 6 ∨ k = 7 := by omega
theorem wayf_D3 {k : Nat} (hk : k < 8) (a b c : Pt) : D3 (wayf k a) (wayf k b) (wayf k c) = if 4 ≤ k then -D3 a b c else D3 a b c := by
  rcases eight hk with rfl | rfl | rfl | rfl | rfl | rfl | rfl | rfl <;> simp only [wayf, D3, Nat.reduceLeDiff, if_true, if_false] <;> grind
theorem wayf_add {k : Nat} (hk : k < 8) (a : Pt) (dx dz : Int) : wayf k (a.1 + dx, a.2 + dz) = ((wayf k a).1 + (wayf k (dx, dz)).1, (wayf k a).2 + (wayf k (dx, dz)).2) := by
  rcases eight hk with rfl | rfl | rfl | rfl | rfl | rfl | rfl | rfl <;> simp only [wayf] <;> refine Prod.ext ?_ ?_ <;> dsimp only <;> omega
theorem tls_pt (k : Nat) {l : List Pt} {i : Nat} (hi : i < l.length) : pt (tls k l) i = wayf k (pt l (tix k l.length i)) := Prod.ext (tls_at k l i hi).1 (tls_at k l i hi).2
theorem tls_tr {k : Nat} (hk : k < 8) {l : List Pt} (ht : Tr l) : Tr (tls k l) := fun i j m hij hjm hm => by
  rw [tls_length] at hm
  rw [tls_pt k (by omega), tls_pt k (by omega), tls_pt k hm, wayf_D3 hk]
  unfold tix
  by_cases h4 : 4 ≤ k
  · rw [if_pos h4, if_pos h4, if_pos h4, if_pos h4, ← D3_swap]
    have := ht (l.length - 1 - m) (l.length - 1 - j) (l.length - 1 - i) (by omega) (by omega) (by omega)
    rw [D3_rot] at this
    rw [D3_rot, D3_rot] at this
    have e : D3 (pt l (l.length - 1 - i)) (pt l (l.length - 1 - m)) (pt l (l.length - 1 - j)) = D3 (pt l (l.length - 1 - m)) (pt l (l.length - 1 - j)) (pt l (l.length - 1 - i)) := D3_rot _ _ _
    rw [e]
    exact ht _ _ _ (by omega) (by omega) (by omega)
  · rw [if_neg h4, if_neg h4, if_neg h4, if_neg h4]
    exact ht i j m hij hjm hm
theorem tls_bd {k : Nat} (hk : k < 8) {l : List Pt} (hx : Bx l) : ∃ a b : Int, ∀ i, i < (tls k l).length → (a ≤ px (tls k l) i ∧ px (tls k l) i ≤ a + 2000) ∧ (b ≤ pz (tls k l) i ∧ pz (tls k l) i ≤ b + 2000) := by
  have gen : ∃ a b : Int, ∀ p : Pt, ((0 ≤ p.1 ∧ p.1 ≤ 2000) ∧ (0 ≤ p.2 ∧ p.2 ≤ 2000)) → (a ≤ (wayf k p).1 ∧ (wayf k p).1 ≤ a + 2000) ∧ (b ≤ (wayf k p).2 ∧ (wayf k p).2 ≤ b + 2000) := by
    rcases eight hk with rfl | rfl | rfl | rfl | rfl | rfl | rfl | rfl
    · exact ⟨0, 0, fun p h => by simp only [wayf]; omega⟩
    · exact ⟨-2000, 0, fun p h => by simp only [wayf]; omega⟩
    · exact ⟨-2000, -2000, fun p h => by simp only [wayf]; omega⟩
    · exact ⟨0, -2000, fun p h => by simp only [wayf]; omega⟩
    · exact ⟨-2000, 0, fun p h => by simp only [wayf]; omega⟩
    · exact ⟨-2000, -2000, fun p h => by simp only [wayf]; omega⟩
    · exact ⟨0, -2000, fun p h => by simp only [wayf]; omega⟩
    · exact ⟨0, 0, fun p h => by simp only [wayf]; omega⟩
  obtain ⟨a, b, h⟩ := gen
  refine ⟨a, b, fun i hi => ?_⟩
  rw [tls_length] at hi
  have e := tls_at k l i hi
  rw [e.1, e.2]
  refine h _ (hx _ ?_)
  unfold tix
  split <;> omega
theorem tls_pl {k : Nat} (hk : k < 8) {l : List Pt} (h : Pl l) : Pl (stl (tls k l)) := by
  obtain ⟨a, b, hb⟩ := tls_bd hk h.2.1
  exact (tls_tr hk h.tr).pl (by rw [tls_length]; exact h.1.1) (by rw [tls_length]; exact h.1.2) hb
/-- a way does not see where a list begins -/
theorem Sim.tls {l l' : List Pt} {r : Nat} {dx dz : Int} (h : Sim l l' r dx dz) {k : Nat} (hk : k < 8) : ∃ r' dx' dz', Sim (tls k l) (tls k l') r' dx' dz' := by
  by_cases h4 : 4 ≤ k
  · refine ⟨l.length - r % l.length, (wayf k (dx, dz)).1, (wayf k (dx, dz)).2, by rw [tls_length, tls_length]; exact h.len, fun i hi => ?_⟩
    rw [tls_length] at hi
    have hr : r % l.length < l.length := Nat.mod_lt _ (by omega)
    have hj : (i + (l.length - r % l.length)) % l.length < l.length := Nat.mod_lt _ (by omega)
    rw [tls_pt k (by rw [h.len]; exact hi)]
    unfold tix
    rw [if_pos h4, h.len, h.pt _ (by omega), wayf_add hk]
    have e : Go.Proofs.Ytljmhejljpfaiaa.pc (Go.Proofs.Ytljmhejljpfaiaa.tls k l) (i + (l.length - r % l.length)) = wayf k (Go.Proofs.Ytljmhejljpfaiaa.pc l (l.length - 1 - i + r)) := by
      unfold Go.Proofs.Ytljmhejljpfaiaa.pc
      rw [tls_length, tls_pt k hj]
      unfold tix
      rw [if_pos h4]
      congr 2
      rw [Nat.add_mod (l.length - 1 - i) r, Nat.mod_eq_of_lt (show l.length - 1 - i < l.length by omega)]
      generalize r % l.length = r0 at *
      rcases Nat.lt_or_ge i r0 with q | q
      · have e1 : (i + (l.length - r0)) % l.length = i + (l.length - r0) := Nat.mod_eq_of_lt (by omega)
        have e2 : (l.length - 1 - i + r0) % l.length = r0 - 1 - i := by
          rw [show l.length - 1 - i + r0 = (r0 - 1 - i) + l.length by omega, Nat.add_mod_right]
          exact Nat.mod_eq_of_lt (by omega)
        rw [e1, e2]; omega
      · have e1 : (i + (l.length - r0)) % l.length = i - r0 := by
          rw [show i + (l.length - r0) = (i - r0) + l.length by omega, Nat.add_mod_right]
          exact Nat.mod_eq_of_lt (by omega)
        have e2 : (l.length - 1 - i + r0) % l.length = l.length - 1 - i + r0 := Nat.mod_eq_of_lt (by omega)
        rw [e1, e2]; omega
    rw [e]
  · refine ⟨r, (wayf k (dx, dz)).1, (wayf k (dx, dz)).2, by rw [tls_length, tls_length]; exact h.len, fun i hi => ?_⟩
    rw [tls_length] at hi
    have hj : (i + r) % l.length < l.length := Nat.mod_lt _ (by omega)
    rw [tls_pt k (by rw [h.len]; exact hi)]
    unfold tix
    rw [if_neg h4, h.pt _ hi, wayf_add hk]
    have e : Go.Proofs.Ytljmhejljpfaiaa.pc (Go.Proofs.Ytljmhejljpfaiaa.tls k l) (i + r) = wayf k (Go.Proofs.Ytljmhejljpfaiaa.pc l (i + r)) := by
      unfold Go.Proofs.Ytljmhejljpfaiaa.pc
      rw [tls_length, tls_pt k hj]
      unfold tix
      rw [if_neg h4]
    rw [e]
/-- one way behind another one -/
def cmpW (v w : Nat) : Nat := if w < 4 then (if v < 4 then (v + w) % 4 else 4 + (v + w) % 4) else (if v < 4 then 4 + (w - v) % 4 else (w + 4 - v) % 4)
theorem cmpW_lt {v w : Nat} : cmpW v w < 8 := by unfold cmpW; split <;> split <;> omega
theorem wayf_comp {v w : Nat} (hv : v < 8) (hw : w < 8) (p : Pt) : wayf w (wayf v p) = wayf (cmpW v w) p := by
  rcases eight hv with rfl | rfl | rfl | rfl | rfl | rfl | rfl | rfl <;> rcases eight hw with rfl | rfl | rfl | rfl | rfl | rfl | rfl | rfl <;> simp [wayf, cmpW]
theorem cmpW_four {v w : Nat} (hv : v < 8) (hw : w < 8) : 4 ≤ cmpW v w ↔ (4 ≤ v ∧ ¬ 4 ≤ w ∨ ¬ 4 ≤ v ∧ 4 ≤ w) := by unfold cmpW; split <;> split <;> omega
theorem tls_comp {v w : Nat} (hv : v < 8) (hw : w < 8) (l : List Pt) : tls w (tls v l) = tls (cmpW v w) l := by
  have e : (wayf w ∘ wayf v) = wayf (cmpW v w) := funext fun p => wayf_comp hv hw p
  have h4 := cmpW_four hv hw
  unfold tls
  by_cases a : 4 ≤ v <;> by_cases b : 4 ≤ w
  · rw [if_pos a, if_pos b, if_neg (by omega), List.map_reverse, List.reverse_reverse, List.map_map, e]
  · rw [if_pos a, if_neg b, if_pos (by omega), List.map_reverse, List.map_map, e]
  · rw [if_neg a, if_pos b, if_pos (by omega), List.map_map, e]
  · rw [if_neg a, if_neg b, if_neg (by omega), List.map_map, e]
theorem turn_comp {s : SV} {v w : Nat} (hs : Pl s.l) (hv : v < 8) (hw : w < 8) : turnS (turnS s v) w = turnS s (cmpW v w) := by
  have h1 := stl_sim (tls v s.l)
  obtain ⟨r', dx', dz', h2⟩ := h1.tls hw
  have hl : (tls w (tls v s.l)).length = s.l.length := by rw [tls_length, tls_length]
  have h3 := h2.stl (by rw [hl]; have := hs.1.1; omega) ((tls_tr hw (tls_tr hv hs.tr)).nodup (by rw [hl]; exact hs.1.1))
  have e2 := wayf_comp hv hw (s.gx, s.gz)
  unfold turnS
  dsimp only
  rw [h3, tls_comp hv hw, ← e2]
theorem stl_self {l : List Pt} (h : Pl l) : stl l = l := by
  have hf := h.pr.2.2.2.2
  have hz := mnz_zero (fun i hi => (h.2.1 i hi).2.1) h.2.2.2.1 l.length (Nat.le_refl _)
  refine List.ext_getElem (stl_len l) fun i h1 h2 => ?_
  have e := stl_at (l := l) h2
  unfold stp at e
  rw [hf, hz, h.2.2.1, Nat.zero_add, Nat.mod_eq_of_lt h2, Int.sub_zero, Int.sub_zero] at e
  unfold pt at e
  have eg : ∀ (m : List Pt) (hi : i < m.length), m.getD i (0, 0) = m[i] := fun m hi => by simp [hi]
  rw [eg _ h1] at e
  rw [e, ← eg l h2]
  rfl
theorem turn_zero {s : SV} (hs : Pl s.l) : turnS s 0 = s := by
  obtain ⟨nm, l, dp, dn, gx, gz⟩ := s
  have e : tls 0 l = l := by
    unfold tls
    rw [if_neg (by omega)]
    have : wayf 0 = id := funext fun p => rfl
    rw [this, List.map_id]
  unfold turnS
  dsimp only at hs ⊢
  rw [e, stl_self hs]
  rfl
/-! areas do not change -/
theorem tw_fan_at (l : List Pt) (a : Nat) : ∀ j, pI l a j + cr2 (pc l (a + j)) (pc l a) = rsm (fun k => D3 (pc l a) (pc l (a + k)) (pc l (a + k + 1))) j
  | 0 => by show 0 + cr2 (pc l a) (pc l a) = 0; rw [cr2_self]; rfl
  | j + 1 => by
    have ih := tw_fan_at l a j
    have e1 := pI_add l a j 1
    rw [pI_one] at e1
    have e2 : D3 (pc l a) (pc l (a + j)) (pc l (a + j + 1)) = cr2 (pc l (a + j)) (pc l (a + j + 1)) + cr2 (pc l (a + j + 1)) (pc l a) - cr2 (pc l (a + j)) (pc l a) := by unfold D3 cr2; grind
    show _ = rsm (fun k => D3 (pc l a) (pc l (a + k)) (pc l (a + k + 1))) j + D3 (pc l a) (pc l (a + j)) (pc l (a + j + 1))
    rw [e1, e2, show a + (j + 1) = a + j + 1 by omega]
    omega
theorem tw_D3 (l : List Pt) (a : Nat) : tw l = rsm (fun k => D3 (pc l a) (pc l (a + k)) (pc l (a + k + 1))) l.length := by
  have h := tw_fan_at l a l.length
  rw [pc_add, cr2_self] at h
  rw [tw_at l a]
  omega
theorem Sim.tw {l l' : List Pt} {r : Nat} {dx dz : Int} (h : Sim l l' r dx dz) (h0 : 0 < l.length) : tw l' = tw l := by
  rw [tw_D3 l' 0, tw_D3 l r, h.len]
  refine rsm_congr _ fun k _ => ?_
  rw [h.pc h0, h.pc h0, h.pc h0, D3_move, Nat.zero_add, Nat.zero_add, show k + r = r + k by omega, show k + 1 + r = r + k + 1 by omega]
theorem rsm_rev (f : Nat → Int) : ∀ m, rsm f m = rsm (fun i => f (m - 1 - i)) m
  | 0 => rfl
  | m + 1 => by
    rw [rsm_shift (fun i => f (m + 1 - 1 - i)) m]
    show rsm f m + f m = f m + rsm (fun i => f (m + 1 - 1 - (i + 1))) m
    rw [rsm_rev f m]
    have : rsm (fun i => f (m - 1 - i)) m = rsm (fun i => f (m + 1 - 1 - (i + 1))) m := rsm_congr m fun i hi => by rw [show m - 1 - i = m + 1 - 1 - (i + 1) by omega]
    omega
theorem tls_tw {k : Nat} (hk : k < 8) {l : List Pt} (h3 : 3 ≤ l.length) : tw (tls k l) = tw l := by
  by_cases h4 : 4 ≤ k
  · have ep : ∀ i, i < l.length → pc (tls k l) i = wayf k (pc l (l.length - 1 - i)) := fun i hi => by
      rw [← pt_pc (by rw [tls_length]; exact hi), tls_pt k hi]
      unfold tix
      rw [if_pos h4, pt_pc (by omega)]
    have en : pc (tls k l) l.length = pc (tls k l) 0 := by have := pc_add (tls k l) 0; rw [tls_length, Nat.zero_add] at this; exact this
    obtain ⟨n, hn⟩ : ∃ n, l.length = n + 1 := ⟨l.length - 1, by omega⟩
    rw [tw_D3 (tls k l) 0, tw_D3 l n, tls_length, hn]
    -- the last term on the left and the first one on the right are 0
    have a1 : rsm (fun j => D3 (pc (tls k l) 0) (pc (tls k l) (0 + j)) (pc (tls k l) (0 + j + 1))) (n + 1) = rsm (fun j => D3 (pc (tls k l) 0) (pc (tls k l) (0 + j)) (pc (tls k l) (0 + j + 1))) n := by
      show _ + D3 (pc (tls k l) 0) (pc (tls k l) (0 + n)) (pc (tls k l) (0 + n + 1)) = _
      rw [show 0 + n + 1 = l.length by omega, en, D3_same1]; omega
    have a2 := rsm_shift (fun j => D3 (pc l n) (pc l (n + j)) (pc l (n + j + 1))) n
    rw [a1, a2, Nat.add_zero, D3_same0, Int.zero_add, rsm_rev (fun i => D3 (pc l n) (pc l (n + (i + 1))) (pc l (n + (i + 1) + 1))) n]
    refine rsm_congr n fun i hi => ?_
    rw [ep 0 (by omega), ep (0 + i) (by omega), ep (0 + i + 1) (by omega), wayf_D3 hk, if_pos h4, ← D3_swap]
    have b1 : pc l (n + (n - 1 - i + 1)) = pc l (l.length - 1 - (0 + i + 1)) := by
      rw [show n + (n - 1 - i + 1) = (l.length - 1 - (0 + i + 1)) + l.length by omega, pc_add]
    have b2 : pc l (n + (n - 1 - i + 1) + 1) = pc l (l.length - 1 - (0 + i)) := by
      rw [show n + (n - 1 - i + 1) + 1 = (l.length - 1 - (0 + i)) + l.length by omega, pc_add]
    rw [b1, b2, show l.length - 1 - 0 = n by omega]
  · rw [tw_D3 (tls k l) 0, tw_D3 l 0, tls_length]
    have ep : ∀ i, pc (tls k l) i = wayf k (pc l i) := fun i => by
      have hi : i % l.length < l.length := Nat.mod_lt _ (by omega)
      unfold pc
      rw [tls_length, tls_pt k hi]
      unfold tix
      rw [if_neg h4]
    refine rsm_congr _ fun j _ => ?_
    rw [ep, ep, ep, wayf_D3 hk, if_neg h4]
theorem turn_tw {k : Nat} (hk : k < 8) {l : List Pt} (h3 : 3 ≤ l.length) : tw (stl (tls k l)) = tw l := by
  rw [(stl_sim (tls k l)).tw (by rw [tls_length]; omega), tls_tw hk h3]
end Go.Proofs.Ytljmhejljpfaiaa
