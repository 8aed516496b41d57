import Derived.Test.YtljmhejljpfaiaaFb
namespace Go.Proofs.Ytljmhejljpfaiaa
set_option maxRecDepth 100000
open Go.RowKit Go.Shelf

/-! Extent -/
theorem B2.cells {B : Nat} {x z : Int} {w : World} (h : B2 B x z w) : (w.cell? ⟨B, 0, none⟩ = some (.int .i64 x) ∧ w.cell? ⟨B, 1, none⟩ = some (.int .i64 z)) ∧ w.frozen? ⟨B, 0, none⟩ = false ∧ w.frozen? ⟨B, 1, none⟩ = false := ⟨⟨h.1, h.2.1⟩, h.2.2⟩
theorem B2.new (w : World) (x z : Int) (T : TypeId) : B2 w.heap.size x z (w.alloc (.cells #[.int .i64 x, .int .i64 z] T)) := ⟨by simp [go_sem], by simp [go_sem], by simp [go_sem], by simp [go_sem]⟩
set_option maxHeartbeats 4000000 in
theorem farthest_any (b o c : Nat) (l : List Pt) (w : World) (hr : Row w b o l) (h3 : 1 ≤ l.length) (h12 : l.length ≤ 1000000) :
    Calls Try.prog 61 #[.slice (some ⟨b, o, none⟩) l.length c] w fun e w' => e = .returned (.agg #[.int .i64 (mxx l l.length), .int .i64 (mxz l l.length)]) ∧ Below w.heap.size w w' := by
  have HR := Lib.hid hr
  obtain ⟨n, hn⟩ : ∃ n, n = l.length := ⟨_, rfl⟩
  rw [← hn] at h3 h12 ⊢
  have HN := Lib.hid hn
  obtain ⟨c0x, c0z⟩ := hr 0 (by omega)
  simp only [Nat.zero_mul, Nat.add_zero] at c0x c0z
  have hbw := hr.lt (by omega)
  have HSX : Hid (∀ k, mxx l (k + 1) = if mxx l k < px l k then px l k else mxx l k) := fun _ => rfl
  have HSZ : Hid (∀ k, mxz l (k + 1) = if mxz l k < pz l k then pz l k else mxz l k) := fun _ => rfl
  clear hr hn
  go_enter Try.func61, Try.ntmps61
  go_wp2
  go_loopw [11, 5] (fun i _ wr => ∃ k : Nat, k ≤ n ∧ i = .int .i64 k ∧ Hid (B2 (w.heap.size + 1) (mxx l k) (mxz l k) wr ∧ B2 w.heap.size 0 0 wr ∧ Below w.heap.size w wr)) (fun i _ _ => n - (intOf i).toNat)
  case atStart => exact ⟨0, Nat.zero_le _, rfl, ⟨by simp [go_sem]; rfl, by simp [go_sem]; rfl, by simp [go_sem], by simp [go_sem]⟩, ⟨by simp [go_sem], by simp [go_sem], by simp [go_sem], by simp [go_sem]⟩, bl2 _ _ _⟩
  case round =>
    obtain ⟨k, hk, rfl, HS⟩ := hrel
    by_cases hlt : k < n
    · have hrow := HR.out.keep HS.out.2.2
      obtain ⟨ck, cz⟩ := hrow k (by rw [← HN.out]; exact hlt)
      have hbr := hrow.lt (by rw [← HN.out]; omega)
      have hsx := HSX.out k
      have hsz := HSZ.out k
      have HS5 : Hid (B2 (w.heap.size + 1) (mxx l k) (mxz l k) (wr.alloc (.cells #[.int .i64 (px l k), .int .i64 (pz l k)] 32)) ∧ B2 w.heap.size 0 0 (wr.alloc (.cells #[.int .i64 (px l k), .int .i64 (pz l k)] 32)) ∧ Below w.heap.size w (wr.alloc (.cells #[.int .i64 (px l k), .int .i64 (pz l k)] 32))) :=
        ⟨HS.out.1.keep (bl1 _ _), HS.out.2.1.keep (bl1 _ _), Below.thru HS.out.2.2 HS.out.2.2.size (bl1 _ _)⟩
      obtain ⟨⟨b0, b1⟩, f0, f1⟩ := HS5.out.1.cells
      obtain ⟨⟨d0, d1⟩, g0, g1⟩ := (B2.new wr (px l k) (pz l k) 32).cells
      generalize mxx l k = mx at *
      generalize mxz l k = mz at *
      generalize px l k = ax at *
      generalize pz l k = az at *
      clear hrow HS
      go_wp2
      all_goals
        go_roundw
        case rel =>
          refine ⟨k + 1, by omega, by go_num, ?_, B2.far HS5.out.2.1 (by omega) _ _, below_put HS5.out.2.2 (Nat.le_succ _) _ _⟩
          rw [hsx, hsz]
          exact B2.put HS5.out.1 _ _
        case measure => simp [intOf]; omega
    · obtain rfl : k = n := by omega
      obtain ⟨⟨b0, b1⟩, f0, f1⟩ := HS.out.1.cells
      obtain ⟨⟨r0, r1⟩, q0, q1⟩ := HS.out.2.1.cells
      go_wp2
      exact bodyPost_ret (v := .agg #[.int .i64 (mxx l k), .int .i64 (mxz l k)]) (by simp [results, Try.results61, go_sem, r0, r1]) rfl ⟨rfl, below_put HS.out.2.2 (Nat.le_refl _) _ _⟩
end Go.Proofs.Ytljmhejljpfaiaa
