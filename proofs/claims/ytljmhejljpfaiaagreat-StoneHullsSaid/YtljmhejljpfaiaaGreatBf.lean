import Derived.Test.YtljmhejljpfaiaaGreatBc
namespace Go.Proofs.YtljmhejljpfaiaaGreat
set_option maxRecDepth 100000
set_option maxRecDepth 100000
open Go.RowKit Go.Shelf

/-! whether a point lies on an edge -/
def btw (n a b : Int) : Bool := inB n (min a b) (max a b)
set_option maxHeartbeats 1000000 in
theorem between_any (n a b : Int) (w : World) : Calls Tryz.prog 86 #[.int .i64 n, .int .i64 a, .int .i64 b] w fun e w' => e = .returned (.bool (btw n a b)) ∧ w = w' := by
  have H : Hid (∀ x y, x = min a b → y = max a b → Calls Tryz.prog 17 #[.int .i64 n, .int .i64 x, .int .i64 y] w fun e w' => e = .returned (.bool (btw n a b)) ∧ w = w') := fun x y hx hy => by
    subst hx hy
    exact within_any n _ _ w
  go_enter Tryz.func86, Tryz.ntmps86
  go_wp2_with fail
  all_goals
    refine (H.out _ _ (by omega) (by omega)).mono ?_
    rintro e w1 ⟨rfl, rfl⟩
    go_wp2
    go_ret
    exact ⟨rfl, rfl⟩
def oe (x z ax az bx bz : Int) : Bool := btw x ax bx && (btw z az bz && (trn ax az bx bz x z == 0))
theorem btw_in {n a b : Int} (h : btw n a b = true) (ha : 0 ≤ a ∧ a ≤ 2000) (hb : 0 ≤ b ∧ b ≤ 2000) : 0 ≤ n ∧ n ≤ 2000 := by
  simp [btw, inB] at h
  omega
set_option maxHeartbeats 2000000 in
theorem onEdge_any (x z ax az bx bz : Int) (w : World) (h1 : 0 ≤ ax ∧ ax ≤ 2000) (h2 : 0 ≤ az ∧ az ≤ 2000) (h3 : 0 ≤ bx ∧ bx ≤ 2000) (h4 : 0 ≤ bz ∧ bz ≤ 2000) :
    Calls Tryz.prog 60 #[.agg #[.int .i64 x, .int .i64 z], .agg #[.int .i64 ax, .int .i64 az], .agg #[.int .i64 bx, .int .i64 bz]] w fun e w' => e = .returned (.bool (oe x z ax az bx bz)) ∧ Below w.heap.size w w' := by
  have H1 := Lib.hid (fun W => between_any x ax bx W)
  have H2 := Lib.hid (fun W => between_any z az bz W)
  have H3 : Hid (btw x ax bx = true → btw z az bz = true → ∀ W, Calls Tryz.prog 76 #[.agg #[.int .i64 ax, .int .i64 az], .agg #[.int .i64 bx, .int .i64 bz], .agg #[.int .i64 x, .int .i64 z]] W fun e w' => e = .returned (.int .i64 (trn ax az bx bz x z)) ∧ Below W.heap.size W w') := fun e1 e2 W => by
    have p1 := btw_in e1 h1 h3
    have p2 := btw_in e2 h2 h4
    exact turn_any ax az bx bz x z W (by unfold Sm; omega) (by unfold Sm; omega) (by unfold Sm; omega) (by unfold Sm; omega) (by unfold Sm; omega) (by unfold Sm; omega)
  have HO : Hid (oe x z ax az bx bz = (btw x ax bx && (btw z az bz && (trn ax az bx bz x z == 0)))) := rfl
  have KB := Lib.hid (bl3 w (.cells #[.int .i64 x, .int .i64 z] 37) (.cells #[.int .i64 ax, .int .i64 az] 37) (.cells #[.int .i64 bx, .int .i64 bz] 37))
  have S1 : Hid (B2 w.heap.size x z (((w.alloc (.cells #[.int .i64 x, .int .i64 z] 37)).alloc (.cells #[.int .i64 ax, .int .i64 az] 37)).alloc (.cells #[.int .i64 bx, .int .i64 bz] 37))) := ⟨by simp [go_sem], by simp [go_sem], by simp [go_sem], by simp [go_sem]⟩
  have S2 : Hid (B2 (w.heap.size + 1) ax az (((w.alloc (.cells #[.int .i64 x, .int .i64 z] 37)).alloc (.cells #[.int .i64 ax, .int .i64 az] 37)).alloc (.cells #[.int .i64 bx, .int .i64 bz] 37))) := ⟨by simp [go_sem], by simp [go_sem], by simp [go_sem], by simp [go_sem]⟩
  have S3 : Hid (B2 (w.heap.size + 1 + 1) bx bz (((w.alloc (.cells #[.int .i64 x, .int .i64 z] 37)).alloc (.cells #[.int .i64 ax, .int .i64 az] 37)).alloc (.cells #[.int .i64 bx, .int .i64 bz] 37))) := ⟨by simp [go_sem], by simp [go_sem], by simp [go_sem], by simp [go_sem]⟩
  generalize oe x z ax az bx bz = r at *
  generalize trn ax az bx bz x z = tn at *
  clear h1 h2 h3 h4
  go_enter Tryz.func60, Tryz.ntmps60
  go_wp2_with fail
  refine (H1.out _).mono ?_
  rintro e w1 ⟨rfl, rfl⟩
  generalize (((w.alloc (.cells #[.int .i64 x, .int .i64 z] 37)).alloc (.cells #[.int .i64 ax, .int .i64 az] 37)).alloc (.cells #[.int .i64 bx, .int .i64 bz] 37)) = w3 at *
  obtain ⟨a0, a1, _, _⟩ := S1.out
  obtain ⟨b0, b1, _, _⟩ := S2.out
  obtain ⟨c0, c1, _, _⟩ := S3.out
  clear S1 S2 S3
  cases q1 : btw x ax bx with
  | false =>
    rw [q1] at HO
    clear q1
    go_wp2
    go_ret
    exact ⟨by rw [HO.out]; rfl, KB.out⟩
  | true =>
    have H3 := Lib.hid (H3.out q1)
    rw [q1] at HO
    clear q1
    go_wp2_with fail
    refine (H2.out _).mono ?_
    rintro e w1 ⟨rfl, rfl⟩
    cases q2 : btw z az bz with
    | false =>
      rw [q2] at HO
      clear q2
      go_wp2
      go_ret
      exact ⟨by rw [HO.out]; rfl, KB.out⟩
    | true =>
      have H3 := Lib.hid (H3.out q2)
      rw [q2] at HO
      clear q2
      go_wp2_with fail
      refine (H3.out _).mono ?_
      rintro e w1 ⟨rfl, hb⟩
      have k1 := Below.thru KB.out KB.out.size hb
      clear hb a0 a1 b0 b1 c0 c1
      go_wp2
      go_ret
      exact ⟨by rw [HO.out]; rfl, k1⟩
end Go.Proofs.YtljmhejljpfaiaaGreat
namespace Go.Proofs.YtljmhejljpfaiaaGreat
set_option maxRecDepth 100000
set_option maxRecDepth 100000
open Go.RowKit Go.Shelf

/-! edgeOf, isPoint -/
/-- edge i is that of the point -/
def hit (l : List Pt) (x z : Int) (i : Nat) : Bool := (x != px l (nx l.length i) || z != pz l (nx l.length i)) && oe x z (px l i) (pz l i) (px l (nx l.length i)) (pz l (nx l.length i))
def PEo (l : List Pt) (x z : Int) (r : Int) : Prop := (∃ i : Nat, i < l.length ∧ r = i ∧ hit l x z i = true ∧ ∀ j, j < i → hit l x z j = false) ∨ (r = -1 ∧ ∀ j, j < l.length → hit l x z j = false)
set_option maxHeartbeats 4000000 in
theorem edgeOf_any (b o c : Nat) (l : List Pt) (x z : Int) (w : World) (hr : Row w b o l) (h3 : 0 < l.length) (h12 : l.length ≤ 1000) (hx : Bx l) :
    Calls Tryz.prog 58 #[.slice (some ⟨b, o, none⟩) l.length c, .agg #[.int .i64 x, .int .i64 z]] w fun e w' => (∃ r, e = .returned (.int .i64 r) ∧ PEo l x z r) ∧ Below w.heap.size w w' := by
  have HR := Lib.hid hr; have HX := Lib.hid hx
  obtain ⟨n, hn⟩ : ∃ n, n = l.length := ⟨_, rfl⟩
  rw [← hn] at h3 h12 ⊢
  have HN := Lib.hid hn
  have hbw := hr.lt (by omega)
  clear hr hx hn
  go_enter Tryz.func58, Tryz.ntmps58
  go_wp2
  go_loopw [10] (fun i wr => ∃ k : Nat, k ≤ n ∧ i = .int .i64 k ∧ Hid (∀ j, j < k → hit l x z j = false) ∧ B2 w.heap.size x z wr ∧ Below w.heap.size w wr) (fun i _ => n - (intOf i).toNat)
  case atStart => exact ⟨0, Nat.zero_le _, rfl, fun j hj => absurd hj (by omega), ⟨by simp [go_sem], by simp [go_sem], by simp [go_sem], by simp [go_sem]⟩, bl1 _ _⟩
  case round =>
    obtain ⟨k, hk, rfl, HK, hB2, hB⟩ := hrel
    by_cases hlt : k < n
    · have hrow := HR.out.keep hB
      have hj := nx_lt hlt
      obtain ⟨ckx, ckz⟩ := hrow k (by rw [← HN.out]; exact hlt)
      obtain ⟨cjx, cjz⟩ := hrow (nx n k) (by rw [← HN.out]; exact hj)
      have hbr := hrow.lt (by rw [← HN.out]; omega)
      clear hrow
      obtain ⟨p0, p1, _, _⟩ := id hB2
      have hlw := cell_lt p0
      have HNX := Lib.hid (fun W => next_any (some ⟨b, o, none⟩) n c k W hlt (by omega))
      have hxk := HX.out k (by rw [← HN.out]; exact hlt)
      have hxj := HX.out (nx n k) (by rw [← HN.out]; exact hj)
      have HE := Lib.hid (fun W => onEdge_any x z (px l k) (pz l k) (px l (nx n k)) (pz l (nx n k)) W hxk.1 hxk.2 hxj.1 hxj.2)
      clear hxk hxj
      have HH : Hid (hit l x z k = ((x != px l (nx n k) || z != pz l (nx n k)) && oe x z (px l k) (pz l k) (px l (nx n k)) (pz l (nx n k)))) := by
        show _ = _
        unfold hit
        rw [← HN.out]
      have HS : Hid (hit l x z k = false → ∀ j, j < k + 1 → hit l x z j = false) := fun h j hj => by
        rcases Nat.lt_or_ge j k with q | q
        · exact HK.out j q
        · obtain rfl : j = k := by omega
          exact h
      have HT : Hid (hit l x z k = true → PEo l x z k) := fun h => .inl ⟨k, by rw [← HN.out]; exact hlt, rfl, h, HK.out⟩
      generalize hit l x z k = hk' at *
      generalize oe x z (px l k) (pz l k) (px l (nx n k)) (pz l (nx n k)) = ov at *
      generalize px l k = fx at *
      generalize pz l k = fz at *
      generalize px l (nx n k) = tx at *
      generalize pz l (nx n k) = tz at *
      have hlt9 := Lib.hid hlt
      by_cases hne : ¬ x = tx ∨ ¬ z = tz
      · have HH2 : Hid (hk' = ov) := by
          show hk' = ov
          rw [HH.out]
          rcases hne with h | h
          · have : (x != tx) = true := by simpa using h
            rw [this]; simp
          · have : (z != tz) = true := by simpa using h
            rw [this]; simp
        clear HH
        have hne2 : ¬ x = tx ∨ (x = tx ∧ ¬ z = tz) := by
          by_cases e : x = tx
          · exact .inr ⟨e, hne.resolve_left (fun h => h e)⟩
          · exact .inl e
        clear hne
        cases ov with
        | true =>
          have HT := Lib.hid (HT.out HH2.out)
          rcases hne2 with h | ⟨rfl, h⟩
          all_goals
            go_wp2_with (go_at_call 61; refine (HNX.out _).mono ?_; rintro e w1 ⟨rfl, rfl⟩)
            refine (HE.out _).mono ?_
            rintro e w2 ⟨rfl, hb2⟩
            have k2 := Below.thru (Below.thru hB hB.size (bl2 wr _ _)) (Below.thru hB hB.size (bl2 wr _ _)).size hb2
            clear hb2 hB2 p0 p1 ckx ckz cjx cjz hB
            go_wp2
            go_ret
            exact ⟨⟨_, rfl, HT.out⟩, k2⟩
        | false =>
          have HS := Lib.hid (HS.out HH2.out)
          rcases hne2 with h | ⟨rfl, h⟩
          all_goals
            have S9 := Lib.hid hB2
            go_wp2_with (go_at_call 61; refine (HNX.out _).mono ?_; rintro e w1 ⟨rfl, rfl⟩)
            refine (HE.out _).mono ?_
            rintro e w2 ⟨rfl, hb2⟩
            have k2 := Below.thru (Below.thru hB hB.size (bl2 wr _ _)) (Below.thru hB hB.size (bl2 wr _ _)).size hb2
            have S9 := Lib.hid ((S9.out.keep (bl2 wr _ _)).keep hb2)
            clear hb2 hB2 p0 p1 ckx ckz cjx cjz hB
            go_wp2
            go_roundw
            case rel => exact ⟨k + 1, by have := hlt9.out; omega, by go_num, HS.out, S9.out, k2⟩
            case measure =>
              have e9 : ((k : Int) + 1).toNat = k + 1 := by omega
              have := hlt9.out
              simp only [intOf, Int.toNat_natCast, e9]
              omega
      · have ex : x = tx := Decidable.byContradiction fun h => hne (.inl h)
        have ez : z = tz := Decidable.byContradiction fun h => hne (.inr h)
        subst ex ez
        have HS := Lib.hid (HS.out (by rw [HH.out]; simp))
        have S9 := Lib.hid (hB2.keep (bl2 wr (.cells #[.int .i64 fx, .int .i64 fz] 37) (.cells #[.int .i64 x, .int .i64 z] 37)))
        have k2 := Below.thru hB hB.size (bl2 wr (.cells #[.int .i64 fx, .int .i64 fz] 37) (.cells #[.int .i64 x, .int .i64 z] 37))
        clear HH hne
        go_wp2_with (go_at_call 61; refine (HNX.out _).mono ?_; rintro e w1 ⟨rfl, rfl⟩)
        go_roundw
        case rel => exact ⟨k + 1, by have := hlt9.out; omega, by go_num, HS.out, S9.out, k2⟩
        case measure =>
          have e9 : ((k : Int) + 1).toNat = k + 1 := by omega
          have := hlt9.out
          simp only [intOf, Int.toNat_natCast, e9]
          omega
    · obtain rfl : k = n := by omega
      go_wp2
      go_ret
      exact ⟨⟨_, rfl, .inr ⟨rfl, fun j hj => HK.out j (by rw [HN.out]; exact hj)⟩⟩, hB⟩
end Go.Proofs.YtljmhejljpfaiaaGreat
namespace Go.Proofs.YtljmhejljpfaiaaGreat
set_option maxRecDepth 100000
set_option maxRecDepth 100000
open Go.RowKit Go.Shelf

/-! isPoint, alongGrain -/
def IsP (l : List Pt) (x z : Int) : Prop := ∃ i, i < l.length ∧ hit l x z i = true
set_option maxHeartbeats 1000000 in
theorem isPoint_any (b o c : Nat) (l : List Pt) (x z : Int) (w : World) (hr : Row w b o l) (h3 : 0 < l.length) (h12 : l.length ≤ 1000) (hx : Bx l) :
    Calls Tryz.prog 32 #[.slice (some ⟨b, o, none⟩) l.length c, .agg #[.int .i64 x, .int .i64 z]] w (PBt (IsP l x z) w) := by
  have HE := Lib.hid (fun W (k : Below w.heap.size w W) => edgeOf_any b o c l x z W (hr.keep k) h3 h12 hx)
  have HP : Hid (∀ r W, PEo l x z r → Below w.heap.size w W → PBt (IsP l x z) w (.returned (.bool (decide (0 ≤ r)))) W) := fun r W h k => by
    refine ⟨⟨_, rfl, ?_⟩, k⟩
    rcases h with ⟨i, hi, rfl, h1, _⟩ | ⟨rfl, h⟩
    · simp only [decide_eq_true_eq]
      exact ⟨fun _ => ⟨i, hi, h1⟩, fun _ => by omega⟩
    · simp only [decide_eq_true_eq]
      refine ⟨fun h0 => by omega, fun ⟨i, hi, h1⟩ => ?_⟩
      rw [h i hi] at h1
      cases h1
  clear hr hx
  generalize l.length = n at *
  go_enter Tryz.func32, Tryz.ntmps32
  go_wp2_with fail
  refine (HE.out _ (bl1 w _)).mono ?_
  rintro e w1 ⟨⟨r, rfl, hp⟩, hb⟩
  have H1 := Lib.hid (HP.out r w1 hp (Below.thru (bl1 w _) (by simp) hb))
  clear hp hb
  by_cases h0 : 0 ≤ r
  · have g1 : decide (0 ≤ r) = true := by simpa using h0
    rw [g1] at H1
    go_wp2
    go_ret
    exact H1.out
  · have g1 : decide (0 ≤ r) = false := by simpa using h0
    rw [g1] at H1
    go_wp2
    go_ret
    exact H1.out
/-- along the grain -/
def agr (gx gz x1 z1 x2 z2 t : Int) : Bool := decide (100 * (((x2 - x1) * gz - (z2 - z1) * gx).natAbs : Int) ≤ t * (((x2 - x1) * gx + (z2 - z1) * gz).natAbs : Int))
theorem mul_sm {a b A B : Int} (ha : -A ≤ a ∧ a ≤ A) (hb : -B ≤ b ∧ b ≤ B) (hA : 0 ≤ A) : -(A * B) ≤ a * b ∧ a * b ≤ A * B := by
  have h : a.natAbs * b.natAbs ≤ A.natAbs * B.natAbs := Nat.mul_le_mul (by omega) (by omega)
  rw [← Int.natAbs_mul, ← Int.natAbs_mul] at h
  have : 0 ≤ A * B := Int.mul_nonneg hA (by omega)
  omega
set_option maxHeartbeats 2000000 in
theorem alongGrain_any (nm : ByteArray) (p : Option Addr) (n c : Nat) (dp dn gx gz x1 z1 x2 z2 t : Int) (w : World) (hg1 : -100 ≤ gx ∧ gx ≤ 100) (hg2 : -100 ≤ gz ∧ gz ≤ 100)
    (b1 : 0 ≤ x1 ∧ x1 ≤ 2000) (b2 : 0 ≤ z1 ∧ z1 ≤ 2000) (b3 : 0 ≤ x2 ∧ x2 ≤ 2000) (b4 : 0 ≤ z2 ∧ z2 ≤ 2000) (ht : 0 ≤ t ∧ t ≤ 1000) :
    Calls Tryz.prog 64 #[.agg #[.string nm, .slice p n c, .int .i64 dp, .int .i64 dn, .int .i64 gx, .int .i64 gz], .agg #[.int .i64 x1, .int .i64 z1], .agg #[.int .i64 x2, .int .i64 z2], .int .i64 t] w fun e w' => e = .returned (.bool (agr gx gz x1 z1 x2 z2 t)) ∧ Below w.heap.size w w' := by
  have e1 := IntWalk.i64_in (x2 - x1) (by omega)
  have e2 := IntWalk.i64_in (z2 - z1) (by omega)
  have HA : Hid (agr gx gz x1 z1 x2 z2 t = decide (100 * (((x2 - x1) * gz - (z2 - z1) * gx).natAbs : Int) ≤ t * (((x2 - x1) * gx + (z2 - z1) * gz).natAbs : Int))) := rfl
  have d1 : -2000 ≤ x2 - x1 ∧ x2 - x1 ≤ 2000 := by omega
  have d2 : -2000 ≤ z2 - z1 ∧ z2 - z1 ≤ 2000 := by omega
  have m1 := mul_sm (A := 2000) (B := 100) d1 hg2 (by omega)
  have m2 := mul_sm (A := 2000) (B := 100) d2 hg1 (by omega)
  have m3 := mul_sm (A := 2000) (B := 100) d1 hg1 (by omega)
  have m4 := mul_sm (A := 2000) (B := 100) d2 hg2 (by omega)
  have e3 := IntWalk.i64_in ((x2 - x1) * gz) (by omega)
  have e4 := IntWalk.i64_in ((z2 - z1) * gx) (by omega)
  have e5 := IntWalk.i64_in ((x2 - x1) * gx) (by omega)
  have e6 := IntWalk.i64_in ((z2 - z1) * gz) (by omega)
  have e7 := IntWalk.i64_in ((x2 - x1) * gz - (z2 - z1) * gx) (by omega)
  have e8 := IntWalk.i64_in ((x2 - x1) * gx + (z2 - z1) * gz) (by omega)
  have HX := Lib.hid (fun W => size_any ((x2 - x1) * gz - (z2 - z1) * gx) W (by omega))
  have HY := Lib.hid (fun W => size_any ((x2 - x1) * gx + (z2 - z1) * gz) W (by omega))
  have hn1 : (((x2 - x1) * gz - (z2 - z1) * gx).natAbs : Int) ≤ 400000 := by omega
  have hn2 : (((x2 - x1) * gx + (z2 - z1) * gz).natAbs : Int) ≤ 400000 := by omega
  have m5 := mul_sm (A := 1000) (B := 400000) (a := t) (b := (((x2 - x1) * gx + (z2 - z1) * gz).natAbs : Int)) (by omega) (by omega) (by omega)
  have e9 := IntWalk.i64_in (100 * (((x2 - x1) * gz - (z2 - z1) * gx).natAbs : Int)) (by omega)
  have e10 := IntWalk.i64_in (t * (((x2 - x1) * gx + (z2 - z1) * gz).natAbs : Int)) (by omega)
  generalize ((x2 - x1) * gz - (z2 - z1) * gx).natAbs = na at *
  generalize ((x2 - x1) * gx + (z2 - z1) * gz).natAbs = nb at *
  generalize agr gx gz x1 z1 x2 z2 t = r at *
  clear hg1 hg2 b1 b2 b3 b4 ht d1 d2 m1 m2 m3 m4 m5 hn1 hn2
  have hB0 := bl3 w (.cells #[.string nm, .slice p n c, .int .i64 dp, .int .i64 dn, .int .i64 gx, .int .i64 gz] 39) (.cells #[.int .i64 x1, .int .i64 z1] 37) (.cells #[.int .i64 x2, .int .i64 z2] 37)
  have s1 := (StB.new w nm (.slice p n c) dp dn gx gz 39).keep (bl2 _ (.cells #[.int .i64 x1, .int .i64 z1] 37) (.cells #[.int .i64 x2, .int .i64 z2] 37))
  have s2 : B2 (w.heap.size + 1) x1 z1 (((w.alloc (.cells #[.string nm, .slice p n c, .int .i64 dp, .int .i64 dn, .int .i64 gx, .int .i64 gz] 39)).alloc (.cells #[.int .i64 x1, .int .i64 z1] 37)).alloc (.cells #[.int .i64 x2, .int .i64 z2] 37)) := ⟨by simp [go_sem], by simp [go_sem], by simp [go_sem], by simp [go_sem]⟩
  have s3 : B2 (w.heap.size + 1 + 1) x2 z2 (((w.alloc (.cells #[.string nm, .slice p n c, .int .i64 dp, .int .i64 dn, .int .i64 gx, .int .i64 gz] 39)).alloc (.cells #[.int .i64 x1, .int .i64 z1] 37)).alloc (.cells #[.int .i64 x2, .int .i64 z2] 37)) := ⟨by simp [go_sem], by simp [go_sem], by simp [go_sem], by simp [go_sem]⟩
  go_enter Tryz.func64, Tryz.ntmps64
  go_wp2_with fail
  generalize ((w.alloc (.cells #[.string nm, .slice p n c, .int .i64 dp, .int .i64 dn, .int .i64 gx, .int .i64 gz] 39)).alloc (.cells #[.int .i64 x1, .int .i64 z1] 37)).alloc (.cells #[.int .i64 x2, .int .i64 z2] 37) = w0 at *
  have f1 := cell_regrown s2.1
  have f2 := cell_regrown s2.2.1
  have f3 := cell_regrown s3.1
  have f4 := cell_regrown s3.2.1
  refine wp_region_quiet_below (by kernel_rfl) (by kernel_rfl) ?_
  repeat (any_goals (first | go_big_quiet_step (fail) | quiet_step (fail)))
  refine wpQuiet_nil ?_
  intro _ hw'
  obtain ⟨⟨dq, osq⟩, hw''⟩ := hw'
  subst hw''
  clear f1 f2 f3 f4 s2 s3
  replace s1 := s1.keep (below_regrown w0 dq osq)
  have hBq := Below.thru hB0 hB0.size (below_regrown w0 dq osq)
  generalize Sort.grow (redrawn w0 dq) osq = w1 at *
  clear hB0
  obtain ⟨_, _, _, _, c4, c5⟩ := s1
  go_wp2_with (go_at_call 88; first | (refine (HX.out _).mono ?_; rintro e w2 ⟨rfl, rfl⟩) | (refine (HY.out _).mono ?_; rintro e w2 ⟨rfl, rfl⟩))
  go_ret
  exact ⟨by rw [HA.out]; rfl, hBq⟩
end Go.Proofs.YtljmhejljpfaiaaGreat
