import Derived.Test.YtjjomjjgoceklaaZa
import Derived.Test.YtjjomjjgoceklaaZc
namespace Go.Proofs.Ytjjomjjgoceklaa
open Go.RowKit

/-- 10 to the power 19, closed to the walk -/
def T19 : Nat := 10000000000000000000
/-- groups: the digits of n to the base 10^19, in a block of words -/
def PGr (n : Nat) (w : World) (e : Ending) (w' : World) : Prop := Below w.heap.size w w' ∧ ∃ (g cap : Nat) (gs : List Nat) (cur : Array Value), e = .returned (.slice (some ⟨g, 0, none⟩) gs.length cap) ∧
  w'.heap[g]? = some (.cells cur 24 (0, 0)) ∧ (∀ i, i < gs.length → cur[i]? = some (.int .u64 ((gs.getD i 0 : Nat) : Int))) ∧ Gs n gs ∧ gs.length ≤ 4096
def GrC (n : Nat) : Prop := ∀ (v : Value) (w : World), Dg w v n → Calls Try.prog 95 #[v] w (PGr n w)
theorem pgr_one {w w1 : World} {o : Obj} {n c : Nat} {r : Array Value} (k : Below w.heap.size w w1) (hn : n < 10 ^ 19) : PGr n w (.returned (.slice (some ⟨w1.heap.size + 1, 0, none⟩) 1 c)) ((w1.alloc o).alloc (.cells (#[.int .u64 (n : Int)] ++ r) 24)).drew := by
  refine ⟨((k.alloc k.size _).alloc (by have := k.size; simp; omega) _).drew, w1.heap.size + 1, c, [n], #[.int .u64 (n : Int)] ++ r, rfl, ?_, fun i hi => ?_, Gs.one hn, by simp⟩
  · show ((w1.heap.push o).push _)[w1.heap.size + 1]? = _
    rw [Array.getElem?_push, if_pos (by simp)]
  · have : i = 0 := by simp at hi; omega
    subst this
    rw [Array.getElem?_append_left (by simp)]
    rfl
/-- groups of a number of at most 19 digits -/
theorem words_small (v : Value) (n : Nat) (w : World) (hn : Wd n) (h : Dg w v n) : Calls Try.prog 81 #[v] w fun e w' => Below w.heap.size w w' ∧ ∃ v', e = .returned v' ∧ Sl w' v' (if n = 0 then [] else [n]) := by
  refine (words_any v n w h).mono ?_
  rintro e w' ⟨hb, v', ws, rfl, hs, hnrm, hv⟩
  refine ⟨hb, v', rfl, ?_⟩
  have hl := nrm_len hnrm hv (k := 1) (by rw [Nat.pow_one]; exact hn)
  match ws, hl with
  | [], _ =>
    have : n = 0 := by rw [← hv]; rfl
    rw [if_pos this]; exact hs
  | [x], _ =>
    have hx : x = n := by rw [← hv]; simp [val]
    subst hx
    have hne : x ≠ 0 := by unfold Nrm at hnrm; simpa using hnrm
    rw [if_neg hne]; exact hs
theorem decimals_any (x : Int) (p : Option Addr) (w : World) : Calls Try.prog 72 #[.agg #[.int .u64 x, .pointer p]] w fun e w' => e = .returned (.func (.func 94) #[] #[.pointer (some ⟨w.heap.size, 0, none⟩)]) ∧ w' = w.alloc (.cells #[.int .u64 x, .pointer p] 27) := by
  go_enter Try.func72, Try.ntmps72
  go_wp2
  go_ret
  exact ⟨rfl, rfl⟩
theorem words_zero (v : Value) (w : World) (h : Dg w v 0) : Calls Try.prog 81 #[v] w fun e w' => Below w.heap.size w w' ∧ ∃ v', e = .returned v' ∧ Sl w' v' [] :=
  (words_small v 0 w Wd.zero h).mono fun _ _ ⟨h1, v', h2, h3⟩ => ⟨h1, v', h2, by rw [if_pos rfl] at h3; exact h3⟩
theorem words_one (v : Value) (n : Nat) (w : World) (hn : Wd n) (h0 : n ≠ 0) (h : Dg w v n) : Calls Try.prog 81 #[v] w fun e w' => Below w.heap.size w w' ∧ ∃ v', e = .returned v' ∧ Sl w' v' [n] :=
  (words_small v n w hn h).mono fun _ _ ⟨h1, v', h2, h3⟩ => ⟨h1, v', h2, by rw [if_neg h0] at h3; exact h3⟩
set_option maxRecDepth 100000 in
theorem groups_zero (v : Value) (w : World) (h : Dg w v 0) : Calls Try.prog 95 #[v] w (PGr 0 w) := by
  have H := Lib.hid h
  obtain ⟨x, p, rfl⟩ := h.agg
  clear h
  obtain ⟨i0, hi, hz0, hz1, hz2⟩ := info_parts Try.info24
  go_enter Try.func95, Try.ntmps95
  go_wp2_with fail
  refine (words_zero _ _ (H.out.keep (bl1 _ _) (Nat.le_refl _))).mono ?_
  rintro e w1 ⟨hb1, v1, rfl, h1⟩
  have k1 := Below.thru (bl1 w _) (by simp) hb1
  obtain ⟨p1, cap1, rfl, _, _⟩ := h1.opened
  clear h1 hb1
  rw [List.length_nil]
  go_wp2
  go_loopw [3, 4] (fun gr t wr => gr = .slice none 0 0 ∧ t = .slice p1 0 cap1 ∧ wr = w1) (fun _ _ _ => 0)
  case atStart => exact ⟨rfl, rfl, rfl⟩
  case round =>
    obtain ⟨rfl, rfl, rfl⟩ := hrel
    go_wp2
    go_ret
    exact pgr_one k1 (by decide)
set_option maxRecDepth 100000 in
theorem groups_one (v : Value) (n : Nat) (w : World) (hn : Wd n) (h0 : n ≠ 0) (ht : n < T19) (h : Dg w v n) : Calls Try.prog 95 #[v] w (PGr n w) := by
  have H := Lib.hid h
  have HN := Lib.hid hn
  have HT := Lib.hid ht
  obtain ⟨x, p, rfl⟩ := h.agg
  clear h ht
  obtain ⟨i0, hi, hz0, hz1, hz2⟩ := info_parts Try.info24
  go_enter Try.func95, Try.ntmps95
  go_wp2_with fail
  refine (words_one _ n _ hn h0 (H.out.keep (bl1 _ _) (Nat.le_refl _))).mono ?_
  clear hn h0
  rintro e w1 ⟨hb1, v1, rfl, h1⟩
  have k1 := Below.thru (bl1 w _) (by simp) hb1
  obtain ⟨b1, o1, cap1, rfl, hlt, hcell⟩ := sl_len1 h1
  clear h1 hb1
  go_wp2
  go_loopw [3, 4] (fun gr t wr => gr = .slice none 0 0 ∧ t = .slice (some ⟨b1, o1, none⟩) 1 cap1 ∧ wr = w1) (fun _ _ _ => 0)
  case atStart => exact ⟨rfl, rfl, rfl⟩
  case round =>
    obtain ⟨rfl, rfl, rfl⟩ := hrel
    go_upto_region 9 with fail
    go_upto_if 29 with fail
    rw [decide_eq_true (show (n : Int) < 10000000000000000000 by have := HT.out; unfold T19 at this; omega)]
    go_upto_region 10 with fail
    go_upto_region 11 with fail
    go_ret
    exact pgr_one k1 (by have := HT.out; unfold T19 at this; omega)
theorem grC_small (n : Nat) (h : n < T19) : GrC n := fun v w hd => by
  by_cases h0 : n = 0
  · subst h0; exact groups_zero v w hd
  · exact groups_one v n w (by unfold T19 at h; unfold Wd WB; omega) h0 h hd
end Go.Proofs.Ytjjomjjgoceklaa
