import Derived.Test.YtljmhejljpfaiaaBd
namespace Go.Proofs.Ytljmhejljpfaiaa
set_option maxRecDepth 100000
open Go.RowKit Go.Shelf

/-! edgeOf, isPoint -/
/-- edge i is that of the point -/
def hit (l : List Pt) (x z : Int) (i : Nat) : Bool := (x != px l (nx l.length i) || z != pz l (nx l.length i)) && oe x z (px l i) (pz l i) (px l (nx l.length i)) (pz l (nx l.length i))
def PEo (l : List Pt) (x z : Int) (r : Int) : Prop := (∃ i : Nat, i < l.length ∧ r = i ∧ hit l x z i = true ∧ ∀ j, j < i → hit l x z j = false) ∨ (r = -1 ∧ ∀ j, j < l.length → hit l x z j = false)
set_option maxHeartbeats 4000000 in
theorem edgeOf_any (b o c : Nat) (l : List Pt) (x z : Int) (w : World) (hr : Row w b o l) (h3 : 0 < l.length) (h12 : l.length ≤ 1000) (hx : Bx l) :
    Calls Try.prog 104 #[.slice (some ⟨b, o, none⟩) l.length c, .agg #[.int .i64 x, .int .i64 z]] w fun e w' => (∃ r, e = .returned (.int .i64 r) ∧ PEo l x z r) ∧ Below w.heap.size w w' := by
  have HR := Lib.hid hr; have HX := Lib.hid hx
  obtain ⟨n, hn⟩ : ∃ n, n = l.length := ⟨_, rfl⟩
  rw [← hn] at h3 h12 ⊢
  have HN := Lib.hid hn
  have hbw := hr.lt (by omega)
  clear hr hx hn
  go_enter Try.func104, Try.ntmps104
  go_wp2
  go_loopw [10] (fun i wr => ∃ k : Nat, k ≤ n ∧ i = .int .i64 k ∧ Hid (∀ j, j < k → hit l x z j = false) ∧ B2 w.heap.size x z wr ∧ Below w.heap.size w wr) (fun i _ => n - (intOf i).toNat)
  case atStart => exact ⟨0, Nat.zero_le _, rfl, fun j hj => absurd hj (by omega), ⟨by simp [go_sem], by simp [go_sem], by simp [go_sem], by simp [go_sem]⟩, bl1 _ _⟩
  case round =>
    obtain ⟨k, hk, rfl, HK, hB2, hB⟩ := hrel
    by_cases hlt : k < n
    · have hrow := HR.out.keep hB
      have hj := nx_lt hlt
      obtain ⟨ckx, ckz⟩ := hrow k (by rw [← HN.out]; exact hlt)
      obtain ⟨cjx, cjz⟩ := hrow (nx n k) (by rw [← HN.out]; exact hj)
      have hbr := hrow.lt (by rw [← HN.out]; omega)
      clear hrow
      obtain ⟨p0, p1, _, _⟩ := id hB2
      have hlw := cell_lt p0
      have HNX := Lib.hid (fun W => next_any (some ⟨b, o, none⟩) n c k W hlt (by omega))
      have hxk := HX.out k (by rw [← HN.out]; exact hlt)
      have hxj := HX.out (nx n k) (by rw [← HN.out]; exact hj)
      have HE := Lib.hid (fun W => onEdge_any x z (px l k) (pz l k) (px l (nx n k)) (pz l (nx n k)) W hxk.1 hxk.2 hxj.1 hxj.2)
      clear hxk hxj
      have HH : Hid (hit l x z k = ((x != px l (nx n k) || z != pz l (nx n k)) && oe x z (px l k) (pz l k) (px l (nx n k)) (pz l (nx n k)))) := by
        show _ = _
        unfold hit
        rw [← HN.out]
      have HS : Hid (hit l x z k = false → ∀ j, j < k + 1 → hit l x z j = false) := fun h j hj => by
        rcases Nat.lt_or_ge j k with q | q
        · exact HK.out j q
        · obtain rfl : j = k := by omega
          exact h
      have HT : Hid (hit l x z k = true → PEo l x z k) := fun h => .inl ⟨k, by rw [← HN.out]; exact hlt, rfl, h, HK.out⟩
      generalize hit l x z k = hk' at *
      generalize oe x z (px l k) (pz l k) (px l (nx n k)) (pz l (nx n k)) = ov at *
      generalize px l k = fx at *
      generalize pz l k = fz at *
      generalize px l (nx n k) = tx at *
      generalize pz l (nx n k) = tz at *
      have hlt9 := Lib.hid hlt
      by_cases hne : ¬ x = tx ∨ ¬ z = tz
      · have HH2 : Hid (hk' = ov) := by
          show hk' = ov
          rw [HH.out]
          rcases hne with h | h
          · have : (x != tx) = true := by simpa using h
            rw [this]; simp
          · have : (z != tz) = true := by simpa using h
            rw [this]; simp
        clear HH
        have hne2 : ¬ x = tx ∨ (x = tx ∧ ¬ z = tz) := by
          by_cases e : x = tx
          · exact .inr ⟨e, hne.resolve_left (fun h => h e)⟩
          · exact .inl e
        clear hne
        cases ov with
        | true =>
          have HT := Lib.hid (HT.out HH2.out)
          rcases hne2 with h | ⟨rfl, h⟩
          all_goals
            go_wp2_with (go_at_call 106; refine (HNX.out _).mono ?_; rintro e w1 ⟨rfl, rfl⟩)
            refine (HE.out _).mono ?_
            rintro e w2 ⟨rfl, hb2⟩
            have k2 := Below.thru (Below.thru hB hB.size (bl2 wr _ _)) (Below.thru hB hB.size (bl2 wr _ _)).size hb2
            clear hb2 hB2 p0 p1 ckx ckz cjx cjz hB
            go_wp2
            go_ret
            exact ⟨⟨_, rfl, HT.out⟩, k2⟩
        | false =>
          have HS := Lib.hid (HS.out HH2.out)
          rcases hne2 with h | ⟨rfl, h⟩
          all_goals
            have S9 := Lib.hid hB2
            go_wp2_with (go_at_call 106; refine (HNX.out _).mono ?_; rintro e w1 ⟨rfl, rfl⟩)
            refine (HE.out _).mono ?_
            rintro e w2 ⟨rfl, hb2⟩
            have k2 := Below.thru (Below.thru hB hB.size (bl2 wr _ _)) (Below.thru hB hB.size (bl2 wr _ _)).size hb2
            have S9 := Lib.hid ((S9.out.keep (bl2 wr _ _)).keep hb2)
            clear hb2 hB2 p0 p1 ckx ckz cjx cjz hB
            go_wp2
            go_roundw
            case rel => exact ⟨k + 1, by have := hlt9.out; omega, by go_num, HS.out, S9.out, k2⟩
            case measure =>
              have e9 : ((k : Int) + 1).toNat = k + 1 := by omega
              have := hlt9.out
              simp only [intOf, Int.toNat_natCast, e9]
              omega
      · have ex : x = tx := Decidable.byContradiction fun h => hne (.inl h)
        have ez : z = tz := Decidable.byContradiction fun h => hne (.inr h)
        subst ex ez
        have HS := Lib.hid (HS.out (by rw [HH.out]; simp))
        have S9 := Lib.hid (hB2.keep (bl2 wr (.cells #[.int .i64 fx, .int .i64 fz] 32) (.cells #[.int .i64 x, .int .i64 z] 32)))
        have k2 := Below.thru hB hB.size (bl2 wr (.cells #[.int .i64 fx, .int .i64 fz] 32) (.cells #[.int .i64 x, .int .i64 z] 32))
        clear HH hne
        go_wp2_with (go_at_call 106; refine (HNX.out _).mono ?_; rintro e w1 ⟨rfl, rfl⟩)
        go_roundw
        case rel => exact ⟨k + 1, by have := hlt9.out; omega, by go_num, HS.out, S9.out, k2⟩
        case measure =>
          have e9 : ((k : Int) + 1).toNat = k + 1 := by omega
          have := hlt9.out
          simp only [intOf, Int.toNat_natCast, e9]
          omega
    · obtain rfl : k = n := by omega
      go_wp2
      go_ret
      exact ⟨⟨_, rfl, .inr ⟨rfl, fun j hj => HK.out j (by rw [HN.out]; exact hj)⟩⟩, hB⟩
end Go.Proofs.Ytljmhejljpfaiaa
