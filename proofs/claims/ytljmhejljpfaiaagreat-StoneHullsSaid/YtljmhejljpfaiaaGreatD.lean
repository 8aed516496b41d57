import Derived.Test.YtljmhejljpfaiaaGreatC
import Derived.Laws.IdiomStrings
namespace Go.Proofs.YtljmhejljpfaiaaGreat
set_option maxRecDepth 100000
set_option maxRecDepth 100000
open Go.RowKit

/-- byte i of a text -/
def byteAt (s : ByteArray) (i : Nat) : Nat := (s.data.toList.getD i 0).toNat
theorem bytesRow_get (s : ByteArray) (c i : Nat) (h : i < s.size) : (bytesRow s c)[i]? = some (.int .u8 ((byteAt s i : Nat) : Int)) := by
  have h' : i < s.data.size := h
  unfold bytesRow byteAt
  rw [Array.getElem?_append_left (by simpa using h')]
  simp [List.getD_eq_getElem?_getD, Array.getElem?_eq_getElem h']
theorem bytes_conv (s : ByteArray) (w : World) : ∃ (c : Nat) (W : World), (convert 9 113 (.string s)).run Tryz.prog w = .ok (.slice (some ⟨w.heap.size, 0, none⟩) s.size c) W ∧ Below w.heap.size w W ∧ w.heap.size < W.heap.size ∧
    ∀ i, i < s.size → W.cell? ⟨w.heap.size, i, none⟩ = some (.int .u8 ((byteAt s i : Nat) : Int)) := by
  refine ⟨_, _, run_bytes_of_string w 9 113 5 s Tryz.underlying9 Tryz.underlying113 Tryz.underlying5, ?_, ?_, ?_⟩
  · exact (Below.refl _ _).drew.alloc (Nat.le_refl _) _
  · show w.heap.size < (w.drew.alloc _).heap.size
    rw [World.size_alloc]
    exact Nat.lt_succ_self _
  · intro i hi
    have h := Go.Deep.blk_alloc_new w.drew (.cells (bytesRow s (grownCap w s.size 0 5)) 5 ((bytesRow s (grownCap w s.size 0 5)).size, (bytesRow s (grownCap w s.size 0 5)).size + 1))
    have h' : (w.drew.alloc (.cells (bytesRow s (grownCap w s.size 0 5)) 5 ((bytesRow s (grownCap w s.size 0 5)).size, (bytesRow s (grownCap w s.size 0 5)).size + 1))).heap[w.heap.size]? = _ := h
    unfold World.cell?
    dsimp only
    rw [h']
    exact bytesRow_get s _ i hi
theorem byteAt_get {s : ByteArray} {i : Nat} (h : i < s.size) : byteAt s i = (s[i]).toNat := by
  have h' : i < s.data.size := h
  unfold byteAt
  simp [List.getD_eq_getElem?_getD, Array.getElem?_eq_getElem h']
  rfl
/-- a letter from a to z, or a digit -/
def Lt (x : Nat) : Prop := (97 ≤ x ∧ x ≤ 122) ∨ (48 ≤ x ∧ x ≤ 57)
/-- a name -/
def Nm (s : ByteArray) : Prop := (1 ≤ s.size ∧ s.size ≤ 16) ∧ ∀ i, i < s.size → Lt (byteAt s i)
set_option maxHeartbeats 1000000 in
theorem validName_any (s : ByteArray) (w : World) (hs : s.size ≤ maxLen) : Calls Tryz.prog 55 #[.string s] w (PBt (Nm s) w) := by
  unfold maxLen at hs
  obtain ⟨c, W, hconv, hbel, hsz, hcell⟩ := bytes_conv s w
  have HC := Lib.hid hcell
  clear hcell
  by_cases h1 : s.size < 1
  · have g1 : decide ((s.size : Int) < 1) = true := by simp; omega
    have H1 := Lib.hid h1
    clear h1 hconv
    go_enter Tryz.func55, Tryz.ntmps55
    go_wp2
    go_ret
    exact PBt.no (fun h => by have := h.1; have := H1.out; omega) (Below.refl _ _)
  · by_cases h2 : 16 < s.size
    · have g1 : decide ((s.size : Int) < 1) = false := by simp; omega
      have g2 : decide (16 < (s.size : Int)) = true := by simp; omega
      clear hconv
      go_enter Tryz.func55, Tryz.ntmps55
      go_wp2
      go_ret
      exact PBt.no (fun h => by have := h.1; omega) (Below.refl _ _)
    · have g1 : decide ((s.size : Int) < 1) = false := by simp; omega
      have g2 : decide (16 < (s.size : Int)) = false := by simp; omega
      go_enter Tryz.func55, Tryz.ntmps55
      go_wp2
      clear hconv g1 g2
      go_loop [16] (fun i => ∃ k : Nat, k ≤ s.size ∧ i = .int .i64 k ∧ Hid (∀ j, j < k → Lt (byteAt s j))) (fun i => s.size - (intOf i).toNat)
      case atStart => exact ⟨0, Nat.zero_le _, rfl, fun j hj => absurd hj (Nat.not_lt_zero _)⟩
      case round =>
        obtain ⟨k, hk, rfl, HD⟩ := hrel
        by_cases hlt : k < s.size
        · have hc := HC.out k hlt
          generalize hxe : byteAt s k = x at hc
          have HX := Lib.hid hxe
          clear hxe
          rcases (show (x < 48) ∨ (48 ≤ x ∧ x ≤ 57) ∨ (58 ≤ x ∧ x ≤ 96) ∨ (97 ≤ x ∧ x ≤ 122) ∨ (123 ≤ x) by omega) with hx | hx | hx | hx | hx
          · have g0 : decide ((x : Int) < 97) = true := by simp; omega
            have g1 : decide ((x : Int) < 48) = true := by simp; omega
            go_wp2
            go_ret
            exact PBt.no (fun h => by have := h.2 k hlt; rw [HX.out] at this; unfold Lt at this; omega) hbel
          · have g0 : decide ((x : Int) < 97) = true := by simp; omega
            have g1 : decide ((x : Int) < 48) = false := by simp; omega
            have g2 : decide (57 < (x : Int)) = false := by simp; omega
            have HL : Hid (Lt x) := by show Lt x; unfold Lt; omega
            go_wp2
            go_round
            case rel => exact ⟨k + 1, by omega, by go_num, fun j hj => by
              rcases Nat.lt_or_ge j k with h3 | h3
              · exact HD.out j h3
              · obtain rfl : j = k := by omega
                rw [HX.out]; exact HL.out⟩
            case measure => simp [intOf]; omega
          · have g0 : decide ((x : Int) < 97) = true := by simp; omega
            have g1 : decide ((x : Int) < 48) = false := by simp; omega
            have g2 : decide (57 < (x : Int)) = true := by simp; omega
            go_wp2
            go_ret
            exact PBt.no (fun h => by have := h.2 k hlt; rw [HX.out] at this; unfold Lt at this; omega) hbel
          · have g0 : decide ((x : Int) < 97) = false := by simp; omega
            have g1 : decide (122 < (x : Int)) = false := by simp; omega
            have HL : Hid (Lt x) := by show Lt x; unfold Lt; omega
            go_wp2
            go_round
            case rel => exact ⟨k + 1, by omega, by go_num, fun j hj => by
              rcases Nat.lt_or_ge j k with h3 | h3
              · exact HD.out j h3
              · obtain rfl : j = k := by omega
                rw [HX.out]; exact HL.out⟩
            case measure => simp [intOf]; omega
          · have g0 : decide ((x : Int) < 97) = false := by simp; omega
            have g1 : decide (122 < (x : Int)) = true := by simp; omega
            have g2 : decide ((x : Int) < 48) = false := by simp; omega
            have g3 : decide (57 < (x : Int)) = true := by simp; omega
            go_wp2
            go_ret
            exact PBt.no (fun h => by have := h.2 k hlt; rw [HX.out] at this; unfold Lt at this; omega) hbel
        · obtain rfl : k = s.size := by omega
          go_wp2
          go_ret
          exact PBt.yes ⟨⟨by omega, by omega⟩, HD.out⟩ hbel
end Go.Proofs.YtljmhejljpfaiaaGreat
