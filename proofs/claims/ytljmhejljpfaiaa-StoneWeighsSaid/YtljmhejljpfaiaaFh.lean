import Derived.Test.YtljmhejljpfaiaaFg
namespace Go.Proofs.Ytljmhejljpfaiaa
set_option maxRecDepth 100000
open Go.RowKit Go.Shelf

/-! the reference's Bed -/
def blo (l : List Pt) : Nat → Int
  | 0 => 2001
  | k + 1 => if pz l k = 0 then (if px l k < blo l k then px l k else blo l k) else blo l k
def bhi (l : List Pt) : Nat → Int
  | 0 => -1
  | k + 1 => if pz l k = 0 then (if bhi l k < px l k then px l k else bhi l k) else bhi l k
theorem Pl.upr {l : List Pt} (h : Pl l) : Up l := ⟨fun i hi => by
  have := (h.2.1 i hi).2.1
  have e : (pt l 0).2 = 0 := h.2.2.2.1
  rw [e]; exact this, by
  have e : (pt l 0).2 = 0 := h.2.2.2.1
  rw [e]; exact h.2.2.2.2.1⟩
theorem Pl.bed {l : List Pt} (h : Pl l) : blo l l.length = bdl l ∧ bhi l l.length = bdr l := by
  have hup : ∀ k, 2 ≤ k → k < l.length → 0 < pz l k := fun k h2 hk => by
    have := Cv.up h.2.2.2.2.2 h.upr h2 hk
    have e : (pt l 0).2 = 0 := h.2.2.2.1
    rw [e] at this
    exact this
  have z0 : pz l 0 = 0 := h.2.2.2.1
  have b0 := h.2.1 0 (by have := h.1; omega)
  have b1 := h.2.1 1 (by have := h.1; omega)
  have hx1 : pz l 1 = 0 → px l 0 < px l 1 := fun z1 => by
    have hd := (h.2.2.2.2.2 0 (by have := h.1; omega)).1
    have e1 : (0 + 1) % l.length = 1 := Nat.mod_eq_of_lt (by have := h.1; omega)
    have e2 : (1 + 1) % l.length = 2 := Nat.mod_eq_of_lt (by have := h.1; omega)
    rw [e1, e2] at hd
    unfold D3 at hd
    have z0' : (pt l 0).2 = 0 := z0
    have z1' : (pt l 1).2 = 0 := z1
    have hz2 := hup 2 (Nat.le_refl _) (by have := h.1; omega)
    rw [z0', z1'] at hd
    have hz2' : 0 < (pt l 2).2 := hz2
    simp only [Int.sub_zero, Int.mul_zero] at hd
    have : 0 < (pt l 1).1 - (pt l 0).1 := by
      rcases Int.lt_or_le 0 ((pt l 1).1 - (pt l 0).1) with k | k
      · exact k
      · exfalso
        have := Int.mul_nonneg (show 0 ≤ -((pt l 1).1 - (pt l 0).1) by omega) (show 0 ≤ (pt l 2).2 by omega)
        rw [Int.neg_mul] at this
        omega
    show (pt l 0).1 < (pt l 1).1
    omega
  have l1 : blo l 1 = px l 0 := by show (if pz l 0 = 0 then (if px l 0 < 2001 then px l 0 else 2001) else 2001) = _; rw [if_pos z0, if_pos (by omega)]
  have h1 : bhi l 1 = px l 0 := by show (if pz l 0 = 0 then (if -1 < px l 0 then px l 0 else -1) else -1) = _; rw [if_pos z0, if_pos (by omega)]
  have l2 : blo l 2 = px l 0 := by
    show (if pz l 1 = 0 then (if px l 1 < blo l 1 then px l 1 else blo l 1) else blo l 1) = _
    rw [l1]
    by_cases z1 : pz l 1 = 0
    · have := hx1 z1
      rw [if_pos z1, if_neg (by omega)]
    · rw [if_neg z1]
  have h2 : bhi l 2 = bdr l := by
    show (if pz l 1 = 0 then (if bhi l 1 < px l 1 then px l 1 else bhi l 1) else bhi l 1) = _
    rw [h1]
    unfold bdr
    by_cases z1 : pz l 1 = 0
    · have := hx1 z1
      rw [if_pos z1, if_pos z1, if_pos (by omega)]
    · rw [if_neg z1, if_neg z1]
  have key : ∀ m, m + 2 ≤ l.length → blo l (m + 2) = px l 0 ∧ bhi l (m + 2) = bdr l := by
    intro m
    induction m with
    | zero => intro _; exact ⟨l2, h2⟩
    | succ m ih =>
      intro hm
      obtain ⟨i1, i2⟩ := ih (by omega)
      have hz := hup (m + 2) (by omega) (by omega)
      refine ⟨?_, ?_⟩
      · show (if pz l (m + 2) = 0 then _ else blo l (m + 2)) = _
        rw [if_neg (by omega), i1]
      · show (if pz l (m + 2) = 0 then _ else bhi l (m + 2)) = _
        rw [if_neg (by omega), i2]
  have := key (l.length - 2) (by have := h.1; omega)
  rw [show l.length - 2 + 2 = l.length by have := h.1; omega] at this
  exact this
set_option maxHeartbeats 4000000 in
theorem rbed_any (b o c : Nat) (l : List Pt) (w : World) (hr : Row w b o l) (h3 : 0 < l.length) (h12 : l.length ≤ 1000000) :
    Calls Try.prog 24 #[.slice (some ⟨b, o, none⟩) l.length c] w fun e w' => e = .returned (.tuple #[.int .i64 (blo l l.length), .int .i64 (bhi l l.length)]) ∧ Below w.heap.size w w' := by
  have HR := Lib.hid hr
  obtain ⟨n, hn⟩ : ∃ n, n = l.length := ⟨_, rfl⟩
  rw [← hn] at h3 h12 ⊢
  have HN := Lib.hid hn
  have hbw := hr.lt (by omega)
  have HLO : Hid (∀ k, (pz l k = 0 → blo l (k + 1) = if px l k < blo l k then px l k else blo l k) ∧ (¬ pz l k = 0 → blo l (k + 1) = blo l k)) := fun k => ⟨fun h => by show (if _ then _ else _) = _; rw [if_pos h], fun h => by show (if _ then _ else _) = _; rw [if_neg h]⟩
  have HHI : Hid (∀ k, (pz l k = 0 → bhi l (k + 1) = if bhi l k < px l k then px l k else bhi l k) ∧ (¬ pz l k = 0 → bhi l (k + 1) = bhi l k)) := fun k => ⟨fun h => by show (if _ then _ else _) = _; rw [if_pos h], fun h => by show (if _ then _ else _) = _; rw [if_neg h]⟩
  have HZ : Hid (blo l 0 = 2001 ∧ bhi l 0 = -1) := ⟨rfl, rfl⟩
  clear hr hn
  go_enter Try.func24, Try.ntmps24
  go_wp2
  go_loopw [6, 4, 5] (fun i x y wr => ∃ k : Nat, k ≤ n ∧ i = .int .i64 k ∧ x = .int .i64 (blo l k) ∧ y = .int .i64 (bhi l k) ∧ Hid (Below w.heap.size w wr)) (fun i _ _ _ => n - (intOf i).toNat)
  case atStart => exact ⟨0, Nat.zero_le _, rfl, by rw [HZ.out.1], by rw [HZ.out.2], Below.refl _ _⟩
  case round =>
    obtain ⟨k, hk, rfl, rfl, rfl, HB⟩ := hrel
    by_cases hlt : k < n
    · have hrow := HR.out.keep HB.out
      obtain ⟨ck, cz⟩ := hrow k (by rw [← HN.out]; exact hlt)
      have hbr := hrow.lt (by rw [← HN.out]; omega)
      have HL := Lib.hid (HLO.out k)
      have HH := Lib.hid (HHI.out k)
      generalize hgl : blo l (k + 1) = lo2 at HL
      generalize hgh : bhi l (k + 1) = hi2 at HH
      have HGL := Lib.hid hgl
      have HGH := Lib.hid hgh
      clear hrow hgl hgh
      generalize blo l k = lo at *
      generalize bhi l k = hi at *
      generalize px l k = ax at *
      generalize pz l k = az at *
      by_cases hz : az = 0
      · have h1 := HL.out.1 hz
        have h2 := HH.out.1 hz
        have H1 := Lib.hid h1
        have H2 := Lib.hid h2
        clear h1 h2
        go_wp2_with fail
        go_region
        go_wp2
        go_roundw
        case rel => exact ⟨k + 1, by omega, by go_num, by rw [HGL.out, H1.out], by rw [HGH.out, H2.out], HB.out.drew⟩
        case measure => simp [intOf]; omega
      · have H1 := Lib.hid (HL.out.2 hz)
        have H2 := Lib.hid (HH.out.2 hz)
        go_wp2
        go_roundw
        case rel => exact ⟨k + 1, by omega, by go_num, by rw [HGL.out, H1.out], by rw [HGH.out, H2.out], HB.out⟩
        case measure => simp [intOf]; omega
    · obtain rfl : k = n := by omega
      have hB := HB.out
      go_wp2
      exact bodyPost_ret (v := .tuple #[.int .i64 (blo l k), .int .i64 (bhi l k)]) (by simp [results, Try.results24, go_sem]) rfl ⟨rfl, hB⟩
end Go.Proofs.Ytljmhejljpfaiaa
