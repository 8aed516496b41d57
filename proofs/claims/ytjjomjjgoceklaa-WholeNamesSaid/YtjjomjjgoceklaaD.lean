import Derived.Test.YtjjomjjgoceklaaC
namespace Go.Proofs.Ytjjomjjgoceklaa
open Go.RowKit

theorem wf_zeros (n : Nat) : wf (List.replicate n 0) = wf [] := by
  funext j; unfold wf; simp only [List.getD_eq_getElem?_getD, List.getElem?_replicate, List.getElem?_nil]; split <;> rfl
theorem val_zeros (n : Nat) : val (List.replicate n 0) = 0 := by
  induction n with
  | zero => rfl
  | succ n ih => simp [List.replicate_succ, val, ih]
theorem Wds.zeros (n : Nat) : Wds (List.replicate n 0) := fun x hx => by rw [(List.mem_replicate.1 hx).2]; exact Wd.zero
theorem Sl.opened' {w : World} {v : Value} {ws : List Nat} (h : Sl w v ws) (B : Nat) (hB : w.heap.size ≤ B) : ∃ (p : Option Addr) (cap : Nat), v = .slice p ws.length cap ∧ Rd w B p ws := by
  obtain ⟨p, cap, rfl, _, hg⟩ := h.opened
  exact ⟨p, cap, rfl, fun i hi => by obtain ⟨b, o, h1, h2, h3⟩ := hg i hi; exact ⟨b, o, h1, by omega, h2, h3⟩⟩
theorem Rd.keep {w w' : World} {g B : Nat} {p : Option Addr} {ws : List Nat} (h : Rd w g p ws) (hb : Below B w w') (hB : w.heap.size ≤ B) : Rd w' g p ws := fun i hi => by
  obtain ⟨b, o, h1, h2, h3, h4⟩ := h i hi
  exact ⟨b, o, h1, h2, Nat.lt_of_lt_of_le h3 hb.size, (hb.cell (p := ⟨b, o + i, none⟩) (Nat.lt_of_lt_of_le h3 hB)).trans h4⟩
theorem Rd.len0 {w : World} {g : Nat} {p : Option Addr} : Rd w g p [] := fun _ hi => absurd hi (Nat.not_lt_zero _)
theorem mul_step {x c k lb : Nat} {a b out P' : List Nat} (hk : out.length = k + lb) (hb : b.length = lb) (hP' : P'.length = lb) (H : val out = val (a.take k) * val b) (E : val P' + WB ^ lb * c = val (out.drop k) + x * val b)
    (hx : a.getD k 0 = x) : val (out.take k ++ P' ++ [c]) = val (a.take (k + 1)) * val b := by
  rw [val_take_succ, hx, val_snoc, val_append]
  have e0 : (out.take k ++ P').length = k + lb := by simp [hP']; omega
  have e1 : (out.take k).length = k := by simp; omega
  rw [e0, e1]
  have e2 : val out = val (out.take k) + WB ^ k * val (out.drop k) := by
    have := val_append (out.take k) (out.drop k)
    rw [List.take_append_drop, e1] at this; exact this
  have e3 : WB ^ (k + lb) * c = WB ^ k * (WB ^ lb * c) := by rw [Nat.pow_add, Nat.mul_assoc]
  have e4 : WB ^ k * val P' + WB ^ k * (WB ^ lb * c) = WB ^ k * val (out.drop k) + WB ^ k * (x * val b) := by rw [← Nat.mul_add, E, Nat.mul_add]
  have e5 : (val (a.take k) + WB ^ k * x) * val b = val (a.take k) * val b + WB ^ k * (x * val b) := by rw [Nat.add_mul, Nat.mul_assoc]
  omega

set_option maxRecDepth 100000 in
theorem multiplyWords_any (va vb : Value) (a b : List Nat) (w : World) (ha : Sl w va a) (hb : Sl w vb b) (hla : a.length ≤ 2000) (hlb : b.length ≤ 2000) :
    Calls Try.prog 85 #[va, vb] w fun e w' => ∃ ws, Wds ws ∧ val ws = val a * val b ∧ PSn (norm ws) w e w' := by
  have wa := ha.1
  have wb := hb.1
  obtain ⟨pa, ca, rfl, hga⟩ := ha.opened' w.heap.size (Nat.le_refl _)
  obtain ⟨pb, cb, rfl, hgb⟩ := hb.opened' w.heap.size (Nat.le_refl _)
  have hmk : ∀ w : World, (Instr.makeSlice 102 (.int .i64 ((a.length : Int) + (b.length : Int))) (.int .i64 ((a.length : Int) + (b.length : Int)))).run Try.prog w = .ok (.slice (some ⟨w.heap.size, 0, none⟩) (a.length + b.length) (a.length + b.length)) (w.alloc (.cells (madeCells #[.int .u64 0] (a.length + b.length)) 24)) := mk_words (a.length + b.length) (by omega)
  clear ha hb
  have WA := Lib.hid wa
  have WBb := Lib.hid wb
  have HGA := Lib.hid hga
  have HGB := Lib.hid hgb
  clear wa wb hga hgb
  go_enter Try.func85, Try.ntmps85
  go_wp2
  clear hmk
  go_loopw [16] (fun i wr => ∃ (k : Nat) (out : List Nat), k ≤ a.length ∧ i = .int .i64 k ∧ Hid (out.length = k + b.length) ∧ Wds out ∧ wr.rowIs w.heap.size 24 (a.length + b.length) (wf out) ∧ Below w.heap.size w wr ∧ Hid (val out = val (a.take k) * val b))
     (fun i _ => a.length - (intOf i).toNat)
  case atStart => exact ⟨0, List.replicate b.length 0, Nat.zero_le _, rfl, by show _ = _; simp, Wds.zeros _, by rw [wf_zeros]; exact row_new _ _, (Below.refl _ _).alloc (Nat.le_refl _) _, by show _ = _; simp [val, val_zeros]⟩
  case round =>
    obtain ⟨k, out, hk, rfl, HL, hw, hr, hbel, HV⟩ := hrel
    by_cases hlt : k < a.length
    · obtain ⟨ba, oa, rfl, hbg, hbl, hcell⟩ := HGA.out k hlt
      have wx := WA.out.getD k
      generalize hx : a.getD k 0 = x at *
      have HX := Lib.hid hx
      clear hx
      have c1 := (hbel.cell (p := ⟨ba, oa + k, none⟩) hbl).trans hcell
      clear hcell
      have eT : (out.take k).length = k := by rw [List.length_take, HL.out]; omega
      have eD : (out.drop k).length = b.length := by rw [List.length_drop, HL.out]; omega
      have hr' : wr.rowIs w.heap.size 24 (a.length + b.length) (wf (out.take k ++ (out.drop k ++ []))) := by rw [List.append_nil, List.take_append_drop]; exact hr
      have ham := addMultiple_any w.heap.size (a.length + b.length - k) x cb (a.length + b.length) pb (out.take k) (out.drop k) [] b wr hr' (by rw [eT]; omega) eD (fun y hy => hw y (List.mem_of_mem_drop hy)) WBb.out (HGB.out.keep hbel (Nat.le_refl _)) wx (by omega)
      rw [eT] at ham
      have HAM := Lib.hid ham
      have ET := Lib.hid eT; have ED := Lib.hid eD
      clear ham eT eD hr hr'
      go_wp2_with fail
      refine HAM.out.mono ?_
      rintro e w' ⟨out', c, rfl, hlen, hw', hc, hval, hr2, hgr, hsz⟩
      rw [List.append_nil] at hr2
      have eL : (out.take k ++ out').length = k + b.length := by rw [List.length_append, ET.out, hlen]
      have c3 := hr2.cell (i := k + b.length) (by omega)
      have c4 := hr2.frozen (k + b.length)
      have hb2 := hbel.grown hgr hbel.size (fun j e => by cases e; exact Nat.le_refl _)
      have hr3 := row_push hr2 c
      rw [eL] at hr3
      have hb3 := hb2.setCell (p := ⟨w.heap.size, k + b.length, none⟩) (Nat.le_refl _) (.int .u64 (c : Int))
      have EL := Lib.hid eL; have HLEN := Lib.hid hlen; have HVAL := Lib.hid hval; have HSZ := Lib.hid hsz
      clear eL hlen hval hsz
      go_wp2
      go_roundw
      case rel => exact ⟨k + 1, out.take k ++ out' ++ [c], by omega, by go_num, by show _ = _; rw [List.length_append, EL.out]; simp; omega, Wds.snoc (fun y hy => (List.mem_append.1 hy).elim (fun h => hw y (List.mem_of_mem_take h)) (hw' y)) hc, hr3, hb3, mul_step HL.out rfl HLEN.out HV.out HVAL.out HX.out⟩
      case measure => simp [intOf]; omega
    · obtain rfl : k = a.length := by omega
      have hsl := Sl.of_row hr HL.out hw (by omega) (Nat.le_refl _)
      go_wp2_with (go_at_call 97; refine (trim_any _ _ _ hsl).mono ?_; rintro e w' ⟨rfl, v', rfl, hv'⟩)
      go_ret
      exact ⟨_, hw, by rw [HV.out, List.take_length], hbel, _, rfl, hv'⟩
end Go.Proofs.Ytjjomjjgoceklaa
