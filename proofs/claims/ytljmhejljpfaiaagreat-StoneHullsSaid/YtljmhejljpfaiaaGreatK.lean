import Derived.Test.YtljmhejljpfaiaaGreatG
namespace Go.Proofs.YtljmhejljpfaiaaGreat
set_option maxRecDepth 100000
set_option maxRecDepth 100000
open Go.RowKit

/-- the index of the corner with which a shape begins, among the first k -/
def fst (l : List Pt) : Nat → Nat
  | 0 => 0
  | k + 1 => if pz l k < pz l (fst l k) ∨ (pz l k = pz l (fst l k) ∧ px l k < px l (fst l k)) then k else fst l k
theorem fst_lt (l : List Pt) (k : Nat) (n : Nat) (hn : 0 < n) (hk : k ≤ n) : fst l k < n := by
  induction k with
  | zero => exact hn
  | succ k ih => unfold fst; split; omega; exact ih (by omega)
set_option maxHeartbeats 2000000 in
theorem first_any (b o c : Nat) (l : List Pt) (w : World) (hr : Row w b o l) (h3 : 1 ≤ l.length) (h12 : l.length ≤ 1000000) :
    Calls Tryz.prog 25 #[.slice (some ⟨b, o, none⟩) l.length c] w fun e w' => e = .returned (.int .i64 (fst l l.length : Nat)) ∧ Below w.heap.size w w' := by
  have HR := Lib.hid hr
  obtain ⟨n, hn⟩ : ∃ n, n = l.length := ⟨_, rfl⟩
  rw [← hn] at h3 h12 ⊢
  have HN := Lib.hid hn
  clear hr hn
  go_enter Tryz.func25, Tryz.ntmps25
  go_wp2
  go_loopw [4, 3] (fun i t wr => ∃ k : Nat, k ≤ n ∧ i = .int .i64 k ∧ t = .int .i64 (fst l k : Nat) ∧ Below w.heap.size w wr) (fun i _ _ => n - (intOf i).toNat)
  case atStart => exact ⟨0, Nat.zero_le _, rfl, rfl, Below.refl _ _⟩
  case round =>
    obtain ⟨k, hk, rfl, rfl, hB⟩ := hrel
    by_cases hlt : k < n
    · have hrow := HR.out.keep hB
      have hat : fst l k < n := fst_lt l k n (by omega) hk
      obtain ⟨ckx, ckz⟩ := hrow k (by rw [← HN.out]; exact hlt)
      obtain ⟨cax, caz⟩ := hrow (fst l k) (by rw [← HN.out]; exact hat)
      have HF0 : Hid (fst l (k + 1) = if pz l k < pz l (fst l k) ∨ (pz l k = pz l (fst l k) ∧ px l k < px l (fst l k)) then k else fst l k) := rfl
      have kkx := cell_regrown ckx
      have kkz := cell_regrown ckz
      have kax := cell_regrown cax
      have kaz := cell_regrown caz
      clear hrow ckx ckz cax caz
      generalize fst l k = a at *
      go_wp2_with fail
      by_cases g1 : pz l k < pz l a
      · have HF : Hid (fst l (k + 1) = k) := by show _ = _; rw [HF0.out, if_pos (.inl g1)]
        clear HF0
        refine wp_region_quiet_below (by kernel_rfl) (by kernel_rfl) ?_
        repeat (any_goals (first | go_big_quiet_step (fail) | quiet_step (fail)))
        refine wpQuiet_nil ?_
        intro _ hw'
        obtain ⟨⟨dq1, osq1⟩, hw''⟩ := hw'
        subst hw''
        replace kkx := upq kkx dq1 osq1
        replace kkz := upq kkz dq1 osq1
        replace kax := upq kax dq1 osq1
        replace kaz := upq kaz dq1 osq1
        have hBq := Below.thru hB hB.size (below_regrown wr dq1 osq1)
        generalize Sort.grow (redrawn wr dq1) osq1 = w2 at *
        go_wp2
        go_roundw
        case rel => exact ⟨k + 1, by omega, by go_num, by rw [HF.out], hBq⟩
        case measure => simp [intOf]; omega
      · by_cases g2 : pz l k = pz l a
        · by_cases g3 : px l k < px l a
          · have HF : Hid (fst l (k + 1) = k) := by show _ = _; rw [HF0.out, if_pos (.inr ⟨g2, g3⟩)]
            have g2' : (pz l k == pz l a) = true := by simpa using g2
            clear HF0 g2
            refine wp_region_quiet_below (by kernel_rfl) (by kernel_rfl) ?_
            repeat (any_goals (first | go_big_quiet_step (fail) | quiet_step (fail)))
            refine wpQuiet_nil ?_
            intro _ hw'
            obtain ⟨⟨dq1, osq1⟩, hw''⟩ := hw'
            subst hw''
            replace kkx := upq kkx dq1 osq1
            replace kkz := upq kkz dq1 osq1
            replace kax := upq kax dq1 osq1
            replace kaz := upq kaz dq1 osq1
            have hBq := Below.thru hB hB.size (below_regrown wr dq1 osq1)
            generalize Sort.grow (redrawn wr dq1) osq1 = w2 at *
            go_wp2
            go_roundw
            case rel => exact ⟨k + 1, by omega, by go_num, by rw [HF.out], hBq⟩
            case measure => simp [intOf]; omega
          · have HF : Hid (fst l (k + 1) = a) := by show _ = _; rw [HF0.out, if_neg (by omega)]
            have g2' : (pz l k == pz l a) = true := by simpa using g2
            clear HF0 g2
            refine wp_region_quiet_below (by kernel_rfl) (by kernel_rfl) ?_
            repeat (any_goals (first | go_big_quiet_step (fail) | quiet_step (fail)))
            refine wpQuiet_nil ?_
            intro _ hw'
            obtain ⟨⟨dq1, osq1⟩, hw''⟩ := hw'
            subst hw''
            replace kkx := upq kkx dq1 osq1
            replace kkz := upq kkz dq1 osq1
            replace kax := upq kax dq1 osq1
            replace kaz := upq kaz dq1 osq1
            have hBq := Below.thru hB hB.size (below_regrown wr dq1 osq1)
            generalize Sort.grow (redrawn wr dq1) osq1 = w2 at *
            go_wp2
            go_roundw
            case rel => exact ⟨k + 1, by omega, by go_num, by rw [HF.out], hBq⟩
            case measure => simp [intOf]; omega
        · have HF : Hid (fst l (k + 1) = a) := by show _ = _; rw [HF0.out, if_neg (by omega)]
          have g2' : (pz l k == pz l a) = false := by simpa using g2
          clear HF0 g2
          refine wp_region_quiet_below (by kernel_rfl) (by kernel_rfl) ?_
          repeat (any_goals (first | go_big_quiet_step (fail) | quiet_step (fail)))
          refine wpQuiet_nil ?_
          intro _ hw'
          obtain ⟨⟨dq1, osq1⟩, hw''⟩ := hw'
          subst hw''
          replace kkx := upq kkx dq1 osq1
          replace kkz := upq kkz dq1 osq1
          replace kax := upq kax dq1 osq1
          replace kaz := upq kaz dq1 osq1
          have hBq := Below.thru hB hB.size (below_regrown wr dq1 osq1)
          generalize Sort.grow (redrawn wr dq1) osq1 = w2 at *
          go_wp2
          go_roundw
          case rel => exact ⟨k + 1, by omega, by go_num, by rw [HF.out], hBq⟩
          case measure => simp [intOf]; omega
    · obtain rfl : k = n := by omega
      go_wp2
      go_ret
      exact ⟨rfl, hB⟩
end Go.Proofs.YtljmhejljpfaiaaGreat
namespace Go.Proofs.YtljmhejljpfaiaaGreat
set_option maxRecDepth 100000
set_option maxRecDepth 100000
open Go.RowKit

/-- the reference's test of a shape -/
def Pr (l : List Pt) : Prop := Bx l ∧ (3 ≤ l.length ∧ l.length ≤ 12 ∧ Cr l) ∧ mnx l l.length = 0 ∧ mnz l l.length = 0 ∧ fst l l.length = 0
end Go.Proofs.YtljmhejljpfaiaaGreat
namespace Go.Proofs.YtljmhejljpfaiaaGreat
set_option maxRecDepth 100000
set_option maxRecDepth 100000
open Go.RowKit

/-- a stone in a box -/
structure StB (B : Nat) (nm : ByteArray) (v : Value) (dp dn gx gz : Int) (w : World) : Prop where
  c0 : w.cell? ⟨B, 0, none⟩ = some (.string nm)
  c1 : w.cell? ⟨B, 1, none⟩ = some v
  c2 : w.cell? ⟨B, 2, none⟩ = some (.int .i64 dp)
  c3 : w.cell? ⟨B, 3, none⟩ = some (.int .i64 dn)
  c4 : w.cell? ⟨B, 4, none⟩ = some (.int .i64 gx)
  c5 : w.cell? ⟨B, 5, none⟩ = some (.int .i64 gz)
theorem StB.keep {B : Nat} {nm : ByteArray} {v : Value} {dp dn gx gz : Int} {w w' : World} (h : StB B nm v dp dn gx gz w) (hb : Below w.heap.size w w') : StB B nm v dp dn gx gz w' := by
  have hl := cell_lt h.c0
  exact ⟨(hb.cell (p := ⟨B, _, none⟩) hl).trans h.c0, (hb.cell (p := ⟨B, _, none⟩) hl).trans h.c1, (hb.cell (p := ⟨B, _, none⟩) hl).trans h.c2, (hb.cell (p := ⟨B, _, none⟩) hl).trans h.c3, (hb.cell (p := ⟨B, _, none⟩) hl).trans h.c4, (hb.cell (p := ⟨B, _, none⟩) hl).trans h.c5⟩
theorem StB.new (w : World) (nm : ByteArray) (v : Value) (dp dn gx gz : Int) (T : TypeId) : StB w.heap.size nm v dp dn gx gz (w.alloc (.cells #[.string nm, v, .int .i64 dp, .int .i64 dn, .int .i64 gx, .int .i64 gz] T)) :=
  ⟨by simp [go_sem], by simp [go_sem], by simp [go_sem], by simp [go_sem], by simp [go_sem], by simp [go_sem]⟩
/-- a stone that is valid, for the reference -/
def VldR (s : SV) : Prop := Nm s.nm ∧ Pr s.l ∧ Bd s.dp s.dn s.gx s.gz
end Go.Proofs.YtljmhejljpfaiaaGreat
namespace Go.Proofs.YtljmhejljpfaiaaGreat
set_option maxRecDepth 100000

theorem pt_1 (l : List Pt) (i : Nat) : (pt l i).1 = px l i := rfl
theorem pt_2 (l : List Pt) (i : Nat) : (pt l i).2 = pz l i := rfl
theorem Pl.up {l : List Pt} (h : Pl l) : Up l := ⟨fun i hi => by rw [pt_2, pt_2, h.2.2.2.1]; exact (h.2.1 i hi).2.1, by rw [pt_2, pt_2, h.2.2.2.1]; exact h.2.2.2.2.1⟩
theorem Pl.tr {l : List Pt} (h : Pl l) : Tr l := h.2.2.2.2.2.tr h.up
theorem mnz_zero {l : List Pt} (h : ∀ i, i < l.length → 0 ≤ pz l i) (h0 : pz l 0 = 0) : ∀ k, k ≤ l.length → mnz l k = 0 := by
  intro k
  induction k with
  | zero => intro _; exact h0
  | succ k ih => intro hk; unfold mnz; rw [ih (by omega), if_neg (by have := h k (by omega); omega)]
theorem fst_zero {l : List Pt} (h : ∀ i, i < l.length → ¬ (pz l i < pz l 0 ∨ (pz l i = pz l 0 ∧ px l i < px l 0))) : ∀ k, k ≤ l.length → fst l k = 0 := by
  intro k
  induction k with
  | zero => intro _; rfl
  | succ k ih => intro hk; unfold fst; rw [ih (by omega), if_neg (h k (by omega))]
theorem zero_fst {l : List Pt} {n : Nat} (h : fst l n = 0) : ∀ k, k < n → ¬ (pz l k < pz l 0 ∨ (pz l k = pz l 0 ∧ px l k < px l 0)) := by
  have back : ∀ k, fst l (k + 1) = 0 → fst l k = 0 := fun k hk => by
    unfold fst at hk
    split at hk
    · subst hk; rfl
    · exact hk
  have all : ∀ d, d ≤ n → fst l (n - d) = 0 := by
    intro d
    induction d with
    | zero => intro _; exact h
    | succ d ih => intro hd; exact back _ (by rw [show n - (d + 1) + 1 = n - d by omega]; exact ih (by omega))
  intro k hk hc
  have h1 := all (n - (k + 1)) (by omega)
  have h2 := all (n - k) (by omega)
  rw [show n - (n - (k + 1)) = k + 1 by omega] at h1
  rw [show n - (n - k) = k by omega] at h2
  unfold fst at h1
  rw [h2, if_pos hc] at h1
  subst h1
  omega
theorem Pl.pr {l : List Pt} (h : Pl l) : Pr l := by
  have hz : ∀ i, i < l.length → 0 ≤ pz l i := fun i hi => (h.2.1 i hi).2.1
  refine ⟨h.2.1, ⟨h.1.1, h.1.2, h.tr.cr h.1.1⟩, h.2.2.1, mnz_zero hz h.2.2.2.1 _ (Nat.le_refl _), fst_zero (fun i hi hc => ?_) _ (Nat.le_refl _)⟩
  have h0 := h.2.2.2.1
  rw [h0] at hc
  have hi0 := hz i hi
  rcases hc with hc | ⟨hc, hx⟩
  · omega
  · rcases Nat.lt_or_ge i 2 with q | q
    · obtain rfl : i = 1 := by
        rcases Nat.eq_zero_or_pos i with e | e
        · subst e; omega
        · omega
      have h12 := h.tr 0 1 2 (by omega) (by omega) (by have := h.1.1; omega)
      have h2 := hz 2 (by have := h.1.1; omega)
      unfold D3 at h12
      rw [pt_1, pt_1, pt_1, pt_2, pt_2, pt_2, h0, hc] at h12
      simp only [Int.sub_zero, Int.mul_zero] at h12
      have := Int.mul_nonneg (show 0 ≤ -(px l 1 - px l 0) by omega) h2
      rw [Int.neg_mul] at this
      omega
    · have := h.2.2.2.2.2.up h.up q hi
      rw [pt_2, pt_2] at this
      omega
theorem Pr.pl {l : List Pt} (h : Pr l) : Pl l := by
  obtain ⟨hb, ⟨h3, h12, hc⟩, hx, hz, hf⟩ := h
  have hf' := zero_fst hf
  have h0 : pz l 0 = 0 := by
    have : ∀ k, k ≤ l.length → mnz l k = pz l 0 := by
      intro k
      induction k with
      | zero => intro _; rfl
      | succ k ih => intro hk; unfold mnz; rw [ih (by omega), if_neg (by have := hf' k (by omega); omega)]
    rw [this _ (Nat.le_refl _)] at hz
    exact hz
  refine ⟨⟨h3, h12⟩, hb, hx, h0, ?_, hc.cv h3⟩
  have hl := (hb (l.length - 1) (by omega)).2.1
  rcases Int.lt_or_le 0 (pz l (l.length - 1)) with q | q
  · exact q
  · exfalso
    have e : pz l (l.length - 1) = 0 := by omega
    have hle := hf' (l.length - 1) (by omega)
    rw [h0, e] at hle
    have e1 : (l.length - 1 + 1) % l.length = 0 := by rw [show l.length - 1 + 1 = l.length by omega, Nat.mod_self]
    have h1 := hc (l.length - 1) 1 (by omega) (by omega) (by omega) (by omega)
    rw [e1] at h1
    have hz1 := (hb 1 (by omega)).2.1
    unfold D3 at h1
    rw [pt_1, pt_1, pt_1, pt_2, pt_2, pt_2, h0, e] at h1
    simp only [Int.sub_zero, Int.mul_zero] at h1
    have := Int.mul_nonneg (show 0 ≤ -(px l 0 - px l (l.length - 1)) by omega) hz1
    rw [Int.neg_mul] at this
    omega
theorem pl_pr {l : List Pt} : Pl l ↔ Pr l := ⟨Pl.pr, Pr.pl⟩
theorem vld_vldR {s : SV} : Vld s ↔ VldR s := by unfold Vld VldR; rw [pl_pr]
end Go.Proofs.YtljmhejljpfaiaaGreat
