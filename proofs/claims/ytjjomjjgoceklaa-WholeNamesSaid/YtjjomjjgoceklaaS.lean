import Derived.Test.YtjjomjjgoceklaaR
import Derived.Laws.IdiomStrings
namespace Go.Proofs.Ytjjomjjgoceklaa
open Go.RowKit

/-- byte i of a text -/
def byteAt (s : ByteArray) (i : Nat) : Nat := (s.data.toList.getD i 0).toNat
theorem bytesRow_get (s : ByteArray) (c i : Nat) (h : i < s.size) : (bytesRow s c)[i]? = some (.int .u8 ((byteAt s i : Nat) : Int)) := by
  have h' : i < s.data.size := h
  unfold bytesRow byteAt
  rw [Array.getElem?_append_left (by simpa using h')]
  simp [List.getD_eq_getElem?_getD, Array.getElem?_eq_getElem h']
theorem bytes_conv (s : ByteArray) (w : World) : ∃ (c : Nat) (W : World), (convert 9 94 (.string s)).run Try.prog w = .ok (.slice (some ⟨w.heap.size, 0, none⟩) s.size c) W ∧ Below w.heap.size w W ∧ w.heap.size < W.heap.size ∧
    ∀ i, i < s.size → W.cell? ⟨w.heap.size, i, none⟩ = some (.int .u8 ((byteAt s i : Nat) : Int)) := by
  refine ⟨_, _, run_bytes_of_string w 9 94 5 s Try.underlying9 Try.underlying94 Try.underlying5, ?_, ?_, ?_⟩
  · exact (Below.refl _ _).drew.alloc (Nat.le_refl _) _
  · show w.heap.size < (w.drew.alloc _).heap.size
    rw [World.size_alloc]
    exact Nat.lt_succ_self _
  · intro i hi
    have h := Go.Deep.blk_alloc_new w.drew (.cells (bytesRow s (grownCap w s.size 0 5)) 5 ((bytesRow s (grownCap w s.size 0 5)).size, (bytesRow s (grownCap w s.size 0 5)).size + 1))
    have h' : (w.drew.alloc (.cells (bytesRow s (grownCap w s.size 0 5)) 5 ((bytesRow s (grownCap w s.size 0 5)).size, (bytesRow s (grownCap w s.size 0 5)).size + 1))).heap[w.heap.size]? = _ := h
    unfold World.cell?
    dsimp only
    rw [h']
    exact bytesRow_get s _ i hi

/-- a text of decimal digits, of which the first one is 0 only if it is the only one -/
def NatP (s : ByteArray) : Prop := (∀ j, j < s.size → 48 ≤ byteAt s j ∧ byteAt s j ≤ 57) ∧ (s.toList = [48] ∨ (0 < s.size ∧ byteAt s 0 ≠ 48))
theorem toList_nil {s : ByteArray} : s.toList = [] ↔ s.size = 0 := by
  rw [ByteArray.toList_eq]; show s.data.toList = [] ↔ s.data.size = 0; rw [← Array.length_toList]; exact List.length_eq_zero_iff.symm
theorem byteAt_get {s : ByteArray} {i : Nat} (h : i < s.size) : byteAt s i = (s[i]).toNat := by
  have h' : i < s.data.size := h
  unfold byteAt
  simp [List.getD_eq_getElem?_getD, Array.getElem?_eq_getElem h']
  rfl
def PB (b : Bool) (w : World) (e : Ending) (w' : World) : Prop := Below w.heap.size w w' ∧ e = .returned (.bool b)

set_option maxRecDepth 100000 in
theorem isNatural_any (s : ByteArray) (w : World) (hs : s.size ≤ 2000) (b : Bool) (hb : b = true ↔ NatP s) : Calls Try.prog 66 #[.string s] w (PB b w) := by
  obtain ⟨c, W, hconv, hbel, hsz, hcell⟩ := bytes_conv s w
  have HC := Lib.hid hcell
  have HB := Lib.hid hb
  clear hcell hb
  go_enter Try.func66, Try.ntmps66
  go_wp2
  clear hconv
  go_loop [8] (fun i => ∃ k : Nat, k ≤ s.size ∧ i = .int .i64 k ∧ Hid (∀ j, j < k → 48 ≤ byteAt s j ∧ byteAt s j ≤ 57)) (fun i => s.size - (intOf i).toNat)
  case atStart => exact ⟨0, Nat.zero_le _, rfl, fun j hj => absurd hj (Nat.not_lt_zero _)⟩
  case round =>
    obtain ⟨k, hk, rfl, HD⟩ := hrel
    by_cases hlt : k < s.size
    · have hc := HC.out k hlt
      generalize hx : byteAt s k = x at hc
      have HX := Lib.hid hx
      clear hx
      rcases Nat.lt_or_ge x 48 with h1 | h1
      · have g1 : decide ((x : Int) < 48) = true := by simp; omega
        go_wp2
        go_ret
        refine ⟨hbel, ?_⟩
        have : b = false := by
          rw [Bool.eq_false_iff]; intro e
          have := (HB.out.1 e).1 k hlt
          rw [HX.out] at this; omega
        rw [this]
        rfl
      · rcases Nat.lt_or_ge 57 x with h2 | h2
        · have g1 : decide ((x : Int) < 48) = false := by simp; omega
          have g2 : decide (57 < (x : Int)) = true := by simp; omega
          go_wp2
          go_ret
          refine ⟨hbel, ?_⟩
          have : b = false := by
            rw [Bool.eq_false_iff]; intro e
            have := (HB.out.1 e).1 k hlt
            rw [HX.out] at this; omega
          rw [this]
          rfl
        · have g1 : decide ((x : Int) < 48) = false := by simp; omega
          have g2 : decide (57 < (x : Int)) = false := by simp; omega
          go_wp2
          go_round
          case rel => exact ⟨k + 1, by omega, by go_num, fun j hj => by
            rcases Nat.lt_or_ge j k with h3 | h3
            · exact HD.out j h3
            · obtain rfl : j = k := by omega
              rw [HX.out]; omega⟩
          case measure => simp [intOf]; omega
    · obtain rfl : k = s.size := by omega
      by_cases e1 : s.toList = [48]
      · have g1 : (s.toList == [48]) = true := by simp [e1]
        have HE := Lib.hid e1
        clear e1
        go_wp2
        go_ret
        exact ⟨hbel, by rw [HB.out.2 ⟨HD.out, .inl HE.out⟩]; rfl⟩
      · have g1 : (s.toList == [48]) = false := by simp [e1]
        rcases Nat.eq_zero_or_pos s.size with h0 | h0
        · have e2 : s.toList = [] := toList_nil.2 h0
          have HE := Lib.hid e1; have H0 := Lib.hid h0
          clear e1 h0
          go_wp2
          go_ret
          refine ⟨hbel, ?_⟩
          have : b = false := by
            rw [Bool.eq_false_iff]; intro e
            rcases (HB.out.1 e).2 with h | ⟨h, _⟩
            · exact HE.out h
            · have := H0.out; omega
          rw [this]; rfl
        · have e2 : ¬ s.toList = [] := fun e => by have := toList_nil.1 e; omega
          have e3 : s.toList.isEmpty = false := by simp [e2]
          have hx := byteAt_get h0
          by_cases hz : byteAt s 0 = 48
          · have g2 : (((s[0]).toNat : Int) != 48) = false := by rw [← hx, hz]; rfl
            have HE := Lib.hid e1; have HX := Lib.hid hz
            clear e1 hx hz
            go_wp2
            go_ret
            refine ⟨hbel, ?_⟩
            have : b = false := by
              rw [Bool.eq_false_iff]; intro e
              rcases (HB.out.1 e).2 with h | ⟨_, h⟩
              · exact HE.out h
              · exact h HX.out
            rw [this]; rfl
          · have g2 : (((s[0]).toNat : Int) != 48) = true := by rw [← hx, bne_iff_ne]; omega
            have HE := Lib.hid e1; have HX := Lib.hid hz
            have hT := HB.out.2 ⟨HD.out, .inr ⟨h0, hz⟩⟩
            have HT := Lib.hid hT
            clear e1 hx hz hT
            go_wp2
            go_ret
            exact ⟨hbel, by rw [HT.out]; rfl⟩
end Go.Proofs.Ytjjomjjgoceklaa
