import Derived.Test.YtljmhejljpfaiaaGreatF
import Derived.RegionTactic
import Derived.BigRegion
namespace Go.Proofs.YtljmhejljpfaiaaGreat
set_option maxRecDepth 100000
set_option maxRecDepth 100000
open Go.RowKit

/-- a box of two numbers of one's own -/
def B2 (B : Nat) (x z : Int) (w : World) : Prop := w.cell? ⟨B, 0, none⟩ = some (.int .i64 x) ∧ w.cell? ⟨B, 1, none⟩ = some (.int .i64 z) ∧ w.frozen? ⟨B, 0, none⟩ = false ∧ w.frozen? ⟨B, 1, none⟩ = false
theorem B2.put {B : Nat} {x z : Int} {w : World} (h : B2 B x z w) (x' z' : Int) : B2 B x' z' ((w.setCell ⟨B, 0, none⟩ (.int .i64 x')).setCell ⟨B, 1, none⟩ (.int .i64 z')) := by
  obtain ⟨h1, h2, h3, h4⟩ := h
  refine ⟨?_, ?_, ?_, ?_⟩
  · rw [World.cell?_setCell_other _ _ _ _ (by simp)]
    exact World.cell?_setCell_same _ _ _ h1
  · exact World.cell?_setCell_same _ _ _ ((World.cell?_setCell_other _ _ _ _ (by simp)).trans h2)
  · rw [World.frozen?_setCell, World.frozen?_setCell]; exact h3
  · rw [World.frozen?_setCell, World.frozen?_setCell]; exact h4
theorem B2.far {B C : Nat} {x z : Int} {w : World} (h : B2 C x z w) (hn : B ≠ C) (x' z' : Int) : B2 C x z ((w.setCell ⟨B, 0, none⟩ (.int .i64 x')).setCell ⟨B, 1, none⟩ (.int .i64 z')) := by
  obtain ⟨h1, h2, h3, h4⟩ := h
  have e : ∀ {o q : Nat}, (⟨B, o, none⟩ : Addr) ≠ ⟨C, q, none⟩ := fun h => by cases h; exact hn rfl
  refine ⟨?_, ?_, ?_, ?_⟩
  · rw [World.cell?_setCell_other _ _ _ _ e, World.cell?_setCell_other _ _ _ _ e]; exact h1
  · rw [World.cell?_setCell_other _ _ _ _ e, World.cell?_setCell_other _ _ _ _ e]; exact h2
  · rw [World.frozen?_setCell, World.frozen?_setCell]; exact h3
  · rw [World.frozen?_setCell, World.frozen?_setCell]; exact h4
theorem B2.drew {B : Nat} {x z : Int} {w : World} (h : B2 B x z w) : B2 B x z w.drew := h
theorem B2.keep {B : Nat} {x z : Int} {w w' : World} (h : B2 B x z w) (hb : Below w.heap.size w w') : B2 B x z w' := by
  have hl := cell_lt h.1
  exact ⟨(hb.cell (p := ⟨B, _, none⟩) hl).trans h.1, (hb.cell (p := ⟨B, _, none⟩) hl).trans h.2.1, (hb.frozen (p := ⟨B, _, none⟩) hl).trans h.2.2.1, (hb.frozen (p := ⟨B, _, none⟩) hl).trans h.2.2.2⟩
theorem below_put {A B : Nat} {a w : World} (h : Below A a w) (hB : A ≤ B) (v v' : Value) : Below A a ((w.setCell ⟨B, 0, none⟩ v).setCell ⟨B, 1, none⟩ v') := (h.setCell hB _).setCell hB _
def mnz (l : List Pt) : Nat → Int
  | 0 => pz l 0
  | k + 1 => if pz l k < mnz l k then pz l k else mnz l k
set_option maxHeartbeats 2000000 in
theorem low_any (b o c : Nat) (l : List Pt) (w : World) (hr : Row w b o l) (h3 : 1 ≤ l.length) (h12 : l.length ≤ 1000000) :
    Calls Tryz.prog 53 #[.slice (some ⟨b, o, none⟩) l.length c] w fun e w' => e = .returned (.agg #[.int .i64 (mnx l l.length), .int .i64 (mnz l l.length)]) ∧ Below w.heap.size w w' := by
  have HR := Lib.hid hr
  obtain ⟨n, hn⟩ : ∃ n, n = l.length := ⟨_, rfl⟩
  rw [← hn] at h3 h12 ⊢
  have HN := Lib.hid hn
  obtain ⟨c0x, c0z⟩ := hr 0 (by omega)
  simp only [Nat.zero_mul, Nat.add_zero] at c0x c0z
  have hbw := hr.lt (by omega)
  clear hr hn
  go_enter Tryz.func53, Tryz.ntmps53
  go_wp2
  go_loopw [4] (fun i wr => ∃ k : Nat, k ≤ n ∧ i = .int .i64 k ∧ B2 (w.heap.size + 1) (mnx l k) (mnz l k) wr ∧ B2 w.heap.size 0 0 wr ∧ Below w.heap.size w wr) (fun i _ => n - (intOf i).toNat)
  case atStart => exact ⟨0, Nat.zero_le _, rfl, ⟨by simp [go_sem]; rfl, by simp [go_sem]; rfl, by simp [go_sem], by simp [go_sem]⟩, ⟨by simp [go_sem], by simp [go_sem], by simp [go_sem], by simp [go_sem]⟩, bl2 _ _ _⟩
  case round =>
    obtain ⟨k, hk, rfl, ⟨b0, b1, f0, f1⟩, ⟨r0, r1, q0, q1⟩, hB⟩ := hrel
    by_cases hlt : k < n
    · have hrow := HR.out.keep hB
      obtain ⟨ck, cz⟩ := hrow k (by rw [← HN.out]; exact hlt)
      have hbr := hrow.lt (by rw [← HN.out]; omega)
      clear hrow
      go_wp2_with fail
      go_region
      go_wp2
      go_roundw
      case rel => exact ⟨k + 1, by omega, by go_num, (B2.put ⟨b0, b1, f0, f1⟩ _ _).drew, (B2.far ⟨r0, r1, q0, q1⟩ (by omega) _ _).drew, (below_put hB (Nat.le_succ _) _ _).drew⟩
      case measure => simp [intOf]; omega
    · obtain rfl : k = n := by omega
      go_wp2
      exact bodyPost_ret (v := .agg #[.int .i64 (mnx l k), .int .i64 (mnz l k)]) (by simp [results, Tryz.results53, go_sem, r0, r1]) rfl ⟨rfl, below_put hB (Nat.le_refl _) _ _⟩
def mxx (l : List Pt) : Nat → Int
  | 0 => px l 0
  | k + 1 => if mxx l k < px l k then px l k else mxx l k
def mxz (l : List Pt) : Nat → Int
  | 0 => pz l 0
  | k + 1 => if mxz l k < pz l k then pz l k else mxz l k
set_option maxHeartbeats 2000000 in
theorem high_any (b o c : Nat) (l : List Pt) (w : World) (hr : Row w b o l) (h3 : 1 ≤ l.length) (h12 : l.length ≤ 1000000) :
    Calls Tryz.prog 9 #[.slice (some ⟨b, o, none⟩) l.length c] w fun e w' => e = .returned (.agg #[.int .i64 (mxx l l.length), .int .i64 (mxz l l.length)]) ∧ Below w.heap.size w w' := by
  have HR := Lib.hid hr
  obtain ⟨n, hn⟩ : ∃ n, n = l.length := ⟨_, rfl⟩
  rw [← hn] at h3 h12 ⊢
  have HN := Lib.hid hn
  obtain ⟨c0x, c0z⟩ := hr 0 (by omega)
  simp only [Nat.zero_mul, Nat.add_zero] at c0x c0z
  have hbw := hr.lt (by omega)
  clear hr hn
  go_enter Tryz.func9, Tryz.ntmps9
  go_wp2
  go_loopw [4] (fun i wr => ∃ k : Nat, k ≤ n ∧ i = .int .i64 k ∧ B2 (w.heap.size + 1) (mxx l k) (mxz l k) wr ∧ B2 w.heap.size 0 0 wr ∧ Below w.heap.size w wr) (fun i _ => n - (intOf i).toNat)
  case atStart => exact ⟨0, Nat.zero_le _, rfl, ⟨by simp [go_sem]; rfl, by simp [go_sem]; rfl, by simp [go_sem], by simp [go_sem]⟩, ⟨by simp [go_sem], by simp [go_sem], by simp [go_sem], by simp [go_sem]⟩, bl2 _ _ _⟩
  case round =>
    obtain ⟨k, hk, rfl, ⟨b0, b1, f0, f1⟩, ⟨r0, r1, q0, q1⟩, hB⟩ := hrel
    by_cases hlt : k < n
    · have hrow := HR.out.keep hB
      obtain ⟨ck, cz⟩ := hrow k (by rw [← HN.out]; exact hlt)
      have hbr := hrow.lt (by rw [← HN.out]; omega)
      clear hrow
      go_wp2_with fail
      go_region
      go_wp2
      go_roundw
      case rel => exact ⟨k + 1, by omega, by go_num, (B2.put ⟨b0, b1, f0, f1⟩ _ _).drew, (B2.far ⟨r0, r1, q0, q1⟩ (by omega) _ _).drew, (below_put hB (Nat.le_succ _) _ _).drew⟩
      case measure => simp [intOf]; omega
    · obtain rfl : k = n := by omega
      go_wp2
      exact bodyPost_ret (v := .agg #[.int .i64 (mxx l k), .int .i64 (mxz l k)]) (by simp [results, Tryz.results9, go_sem, r0, r1]) rfl ⟨rfl, below_put hB (Nat.le_refl _) _ _⟩
end Go.Proofs.YtljmhejljpfaiaaGreat
