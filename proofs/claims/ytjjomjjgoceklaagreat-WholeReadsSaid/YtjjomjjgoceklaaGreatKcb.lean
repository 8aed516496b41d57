import Derived.Test.YtjjomjjgoceklaaGreatKbh
import Derived.Laws.Runes
import Derived.StillTailTactics
import Derived.Test.YtjjomjjgoceklaaGreatKbg
import Derived.Test.YtjjomjjgoceklaaGreatKbj
import Derived.Test.YtjjomjjgoceklaaGreatKca
namespace Go.Proofs.YtjjomjjgoceklaaGreat
set_option maxRecDepth 100000
open Go.RowKit

theorem sgn_bd (z : Int) : -1 ≤ z.sign ∧ z.sign ≤ 1 := by
  rcases Int.lt_trichotomy z 0 with h | h | h
  · rw [Int.sign_eq_neg_one_of_neg h]; omega
  · subst h; decide
  · rw [Int.sign_eq_one_of_pos h]; omega
theorem RZ.neg {w : World} {s : Int} {p : Option Addr} {l c : Nat} {z : Int} (h : RZ w (.agg #[.int .i64 z.sign, .slice p l c]) z) (hs : s = -z.sign) : RZ w (.agg #[.int .i64 s, .slice p l c]) (-z) := by
  obtain ⟨gs, sl, e, h2, h3, h4, h5⟩ := h
  simp at e
  subst e
  exact ⟨gs, _, by rw [hs, Int.sign_neg], h2, h3, h4, by rw [h5, Int.natAbs_neg]⟩
theorem RZ.abs {w : World} {s : Int} {p : Option Addr} {l c : Nat} {z : Int} (h : RZ w (.agg #[.int .i64 z.sign, .slice p l c]) z) (hs : s = z.sign * z.sign) : RZ w (.agg #[.int .i64 s, .slice p l c]) (z.natAbs : Int) := by
  obtain ⟨gs, sl, e, h2, h3, h4, h5⟩ := h
  simp at e
  subst e
  refine ⟨gs, _, ?_, h2, h3, h4, by rw [h5]; simp⟩
  rw [hs]
  rcases Int.lt_trichotomy z 0 with h | h | h
  · rw [Int.sign_eq_neg_one_of_neg h, Int.sign_eq_one_of_pos (by omega)]; rfl
  · subst h; rfl
  · rw [Int.sign_eq_one_of_pos h, Int.sign_eq_one_of_pos (by omega)]; rfl
theorem znegr_any (v : Value) (z : Int) (w : World) (h : RZ w v z) : Calls Tryz.prog 93 #[v] w (PRZ (-z) w) := by
  obtain ⟨p, l, c, rfl⟩ := h.agg
  have H := Lib.hid h
  obtain ⟨h1, h2⟩ := sgn_bd z
  obtain ⟨s, hs⟩ : ∃ s, s = z.sign := ⟨_, rfl⟩
  rw [← hs] at h1 h2 ⊢
  have HS := Lib.hid hs
  clear h hs
  go_enter Tryz.func93, Tryz.ntmps93
  go_wp2
  refine bodyPost_ret (v := .agg #[.int .i64 (-s), .slice p l c]) (by simp [results, Tryz.results93, go_sem]) rfl ⟨bl2 _ _ _, _, rfl, ?_⟩
  have H2 := H.out
  exact (H2.neg (by rw [HS.out])).keep (bl2 _ _ _) (Nat.le_refl _)
theorem zabsr_any (v : Value) (z : Int) (w : World) (h : RZ w v z) : Calls Tryz.prog 114 #[v] w (PRZ (z.natAbs : Int) w) := by
  obtain ⟨p, l, c, rfl⟩ := h.agg
  have H := Lib.hid h
  obtain ⟨h1, h2⟩ := sgn_bd z
  obtain ⟨s, hs⟩ : ∃ s, s = z.sign := ⟨_, rfl⟩
  rw [← hs] at h1 h2 ⊢
  obtain ⟨t, ht⟩ : ∃ t, t = s * s := ⟨_, rfl⟩
  have ht2 : IntKind.i64.wrap (s * s) = t := by
    rw [ht]
    refine IntWalk.i64_in _ ?_
    have : s = -1 ∨ s = 0 ∨ s = 1 := by omega
    rcases this with h | h | h <;> subst h <;> omega
  have HT : Hid (t = z.sign * z.sign) := by show _ = _; rw [ht, hs]
  clear h hs ht
  go_enter Tryz.func114, Tryz.ntmps114
  go_wp2
  refine bodyPost_ret (v := .agg #[.int .i64 t, .slice p l c]) (by simp [results, Tryz.results114, go_sem]) rfl ⟨bl2 _ _ _, _, rfl, ?_⟩
  exact (H.out.abs HT.out).keep (bl2 _ _ _) (Nat.le_refl _)
end Go.Proofs.YtjjomjjgoceklaaGreat
namespace Go.Proofs.YtjjomjjgoceklaaGreat
set_option maxRecDepth 100000
open Go.RowKit

/-! the text of an integer of the reference -/
theorem rv_dig {gs : List Nat} (h : D4 gs) (i : Nat) : gs.getD i 0 = rv gs / 10000 ^ i % 10000 := by
  induction gs generalizing i with
  | nil => simp [rv]
  | cons x r ih =>
    have hx : x < 10000 := h x List.mem_cons_self
    cases i with
    | zero => simp [rv]; omega
    | succ i =>
      have := ih (fun y hy => h y (List.mem_cons_of_mem _ hy)) i
      rw [List.getD_cons_succ, this]
      simp only [rv]
      rw [Nat.pow_succ', ← Nat.div_div_eq_div_mul]
      congr 2
      omega
def tB (k n : Nat) : ByteArray := ⟨(digB (padL k n)).toArray⟩
theorem enc_dig (d : Nat) (h : d < 10) : Utf8.encode (48 + (d : Int)) = ⟨#[UInt8.ofNat (48 + d)]⟩ := by
  match d, h with
  | 0, _ => rfl
  | 1, _ => rfl
  | 2, _ => rfl
  | 3, _ => rfl
  | 4, _ => rfl
  | 5, _ => rfl
  | 6, _ => rfl
  | 7, _ => rfl
  | 8, _ => rfl
  | 9, _ => rfl
theorem tB_step {k n d : Nat} (h : d = n / 10 ^ k % 10) : (⟨#[UInt8.ofNat (48 + d)]⟩ : ByteArray) ++ tB k n = tB (k + 1) n := by
  subst h
  apply ByteArray.ext
  simp [tB, ByteArray.data_append, padL, digB, digAt]
theorem tB_size (k n : Nat) : (tB k n).size = k := by
  show (digB (padL k n)).toArray.size = k
  simp [digB, padL_length]
theorem pow4 (i : Nat) : 10000 ^ i = 10 ^ (4 * i) := by rw [Nat.pow_mul]
/-- how far the text has come: in front of group i -/
def Po (gs : List Nat) (i : Nat) (out : ByteArray) : Prop := (i < gs.length ∧ out = tB (4 * i) (rv gs)) ∨ (i = gs.length ∧ out = tB (nd (rv gs)) (rv gs))
/-- .. inside group i, behind k digits of it -/
def Pi (gs : List Nat) (i k x : Nat) (out : ByteArray) : Prop := k ≤ 4 ∧ out = tB (4 * i + k) (rv gs) ∧ x = gs.getD i 0 / 10 ^ k ∧ (k = 0 ∨ i + 1 < gs.length ∨ 10 ^ (4 * i + k - 1) ≤ rv gs)
theorem rv_lt4 {gs : List Nat} (h : D4 gs) : rv gs < 10 ^ (4 * gs.length) := by
  rw [← pow4]; exact rv_lt gs h
theorem Pi.next {gs : List Nat} (hd : D4 gs) {i k x : Nat} {out : ByteArray} (h : Pi gs i k x out) (hk : k < 4) (hx : 0 < x ∨ i + 1 < gs.length) : Pi gs i (k + 1) (x / 10) ((⟨#[UInt8.ofNat (48 + x % 10)]⟩ : ByteArray) ++ out) := by
  obtain ⟨h1, rfl, rfl, h4⟩ := h
  have e : gs.getD i 0 / 10 ^ k % 10 = rv gs / 10 ^ (4 * i + k) % 10 := by
    have h1 : (digAt (rv gs / 10 ^ (4 * i) % 10 ^ 4) k).val = (digAt (rv gs) (4 * i + k)).val := by rw [digAt_mod _ _ _ hk, digAt_div]
    have h2 : gs.getD i 0 = rv gs / 10 ^ (4 * i) % 10 ^ 4 := by rw [rv_dig hd, pow4]
    rw [h2]
    exact h1
  refine ⟨by omega, tB_step (by rw [e]), by rw [Nat.div_div_eq_div_mul, Nat.pow_succ], ?_⟩
  rcases hx with hx | hx
  · right; right
    rw [show 4 * i + (k + 1) - 1 = 4 * i + k by omega, Nat.pow_add]
    have hp : 0 < 10 ^ k := Nat.pow_pos (by decide)
    have hq : 0 < 10 ^ (4 * i) := Nat.pow_pos (by decide)
    have h5 : 10 ^ k ≤ gs.getD i 0 := by
      rcases Nat.lt_or_ge (gs.getD i 0) (10 ^ k) with h | h
      · rw [Nat.div_eq_of_lt h] at hx; omega
      · exact h
    have h6 : gs.getD i 0 ≤ rv gs / 10 ^ (4 * i) := by rw [rv_dig hd, pow4]; exact Nat.mod_le _ _
    have h7 := (Nat.le_div_iff_mul_le hq).1 (Nat.le_trans h5 h6)
    rw [Nat.mul_comm]; exact h7
  · right; left; exact hx
theorem Pi.start {gs : List Nat} {i : Nat} : Pi gs i 0 (gs.getD i 0) (tB (4 * i) (rv gs)) := ⟨by omega, rfl, by simp, .inl rfl⟩
theorem nrm_last {gs : List Nat} (hn : Nrm gs) {i : Nat} (hi : i + 1 = gs.length) : 0 < gs.getD i 0 := by
  unfold Nrm at hn
  rw [List.getLast?_eq_getElem?] at hn
  rw [List.getD_eq_getElem?_getD]
  have h1 : gs.length - 1 = i := by omega
  rw [h1] at hn
  have h2 : i < gs.length := by omega
  rw [List.getElem?_eq_getElem h2] at hn ⊢
  simp at hn ⊢
  omega
theorem Pi.done {gs : List Nat} (hd : D4 gs) (hn : Nrm gs) {i k x : Nat} {out : ByteArray} (h : Pi gs i k x out) (hi : i < gs.length) (hx : k = 4 ∨ (x = 0 ∧ i + 1 = gs.length)) : Po gs (i + 1) out := by
  obtain ⟨h1, rfl, rfl, h4⟩ := h
  by_cases hl : i + 1 = gs.length
  · right
    refine ⟨hl, ?_⟩
    have hg := nrm_last hn hl
    have hq : 0 < 10 ^ (4 * i) := Nat.pow_pos (by decide)
    have hlt : gs.getD i 0 < 10 ^ k := by
      rcases hx with rfl | ⟨hx, _⟩
      · rw [rv_dig hd]; exact Nat.mod_lt _ (by decide)
      · rcases Nat.lt_or_ge (gs.getD i 0) (10 ^ k) with h | h
        · exact h
        · have := Nat.div_pos h (Nat.pow_pos (by decide)); omega
    have hk : k ≠ 0 := by rintro rfl; simp at hlt; omega
    have h6 : gs.getD i 0 = rv gs / 10 ^ (4 * i) := by
      rw [rv_dig hd, pow4]
      refine Nat.mod_eq_of_lt (Nat.div_lt_of_lt_mul ?_)
      have := rv_lt4 hd
      rw [← hl, Nat.mul_add, Nat.pow_add] at this
      exact this
    rw [h6, Nat.div_lt_iff_lt_mul hq, ← Nat.pow_add, Nat.add_comm] at hlt
    have hu : 4 * i + k = nd (rv gs) := nd_unique (by omega) hlt (.inr (by rcases h4 with h | h | h; · omega
                                                                           · omega
                                                                           · exact h))
    rw [hu]
  · left
    have hk : k = 4 := by rcases hx with h | h; · exact h
                          · omega
    subst hk
    exact ⟨by omega, by rw [show 4 * (i + 1) = 4 * i + 4 by omega]⟩
theorem txt_neg {z : Int} (h : z < 0) : (⟨#[45]⟩ : ByteArray) ++ tB (nd z.natAbs) z.natAbs = txt z := by
  apply ByteArray.ext
  simp [tB, ByteArray.data_append, txt, txtL, h, decL]
theorem txt_pos {z : Int} (h : ¬ z < 0) : tB (nd z.natAbs) z.natAbs = txt z := by
  apply ByteArray.ext
  simp [tB, txt, txtL, h, decL]
theorem txt_zero : txt 0 = ⟨#[48]⟩ := by
  unfold txt txtL
  simp [decL, nd_small, padL, digB, digAt]
end Go.Proofs.YtjjomjjgoceklaaGreat
namespace Go.Proofs.YtjjomjjgoceklaaGreat
set_option maxRecDepth 100000
open Go.RowKit

theorem value_step {s m g : Int} {gs : List Nat} {i : Nat} (hi : i < gs.length) (hg : g = ((gs.getD i 0 : Nat) : Int)) (H : m = s * (rv (gs.drop (i + 1)) : Int)) : m * 10000 + s * g = s * (rv (gs.drop i) : Int) := by
  rw [drop_getD gs i hi, H, hg]
  simp only [rv]
  rw [Int.natCast_add, Int.mul_add, Int.natCast_mul, Int.mul_assoc, Int.mul_comm (rv (gs.drop (i + 1)) : Int), Int.add_comm]
  rfl
theorem rv_drop_le (gs : List Nat) (i : Nat) : rv (gs.drop i) ≤ rv gs := by
  induction gs generalizing i with
  | nil => simp
  | cons x r ih =>
    cases i with
    | zero => exact Nat.le_refl _
    | succ i => simp only [List.drop_succ_cons, rv]; have := ih i; omega
theorem sgn_abs {z : Int} (m : Nat) (hm : (m : Int) ≤ z.natAbs) (hz : I64 z) : I64 (z.sign * (m : Int)) := by
  unfold I64 at *
  rcases Int.lt_trichotomy z 0 with h | h | h
  · rw [Int.sign_eq_neg_one_of_neg h]; omega
  · subst h; simp
  · rw [Int.sign_eq_one_of_pos h]; omega
def PI (z : Int) (w : World) (e : Ending) (w' : World) : Prop := Below w.heap.size w w' ∧ e = .returned (.int .i64 z)
set_option maxRecDepth 100000 in
theorem value_any (v : Value) (z : Int) (w : World) (h : RZ w v z) (hz : I64 z) : Calls Tryz.prog 127 #[v] w (PI z w) := by
  obtain ⟨gs, sl, rfl, hsl, hd, hn, hrv⟩ := h
  obtain ⟨p, cap, rfl, _, _, hrd⟩ := hsl.opened w.heap.size (Nat.le_refl _)
  have hle : gs.length ≤ 4096 := by simpa using hsl.1
  rw [List.length_map] at *
  have HRD := Lib.hid hrd
  have HD := Lib.hid hd
  have HV := Lib.hid hrv
  have HSG := Lib.hid (fun m hm => sgn_abs (z := z) m hm hz)
  have hsb := sgn_bd z
  obtain ⟨s, hs⟩ : ∃ s, s = z.sign := ⟨_, rfl⟩
  rw [← hs] at hsb ⊢
  have HS := Lib.hid hs
  obtain ⟨hs1, hs2⟩ := hsb
  clear hsl hd hn hrv hrd hz hs
  go_enter Tryz.func127, Tryz.ntmps127
  go_wp2
  generalize hW : World.alloc _ (Obj.cells #[Value.int .i64 s, Value.slice p gs.length cap] 41) = W
  have X0 : Bz w.heap.size s p gs.length cap W := by rw [← hW]; exact Go.Deep.blk_alloc_new _ _
  have k0 : Below w.heap.size w W := by rw [← hW]; exact bl1 _ _
  have z0 : W.heap.size = w.heap.size + 1 := by rw [← hW]; simp
  clear hW
  have Z0 := Lib.hid z0
  clear z0
  go_loopw [3, 4] (fun mv iv wr => ∃ (k : Nat) (m : Int), k ≤ gs.length ∧ mv = .int .i64 m ∧ iv = .int .i64 ((k : Int) - 1) ∧ Hid (m = s * (rv (gs.drop k) : Int)) ∧ Below W.heap.size W wr) (fun _ iv _ => (intOf iv + 1).toNat)
  case atStart => exact ⟨gs.length, 0, Nat.le_refl _, rfl, rfl, by show _ = _; simp [rv], Below.refl _ _⟩
  case round =>
    obtain ⟨k, m, hk, rfl, rfl, HM, hbel⟩ := hrel
    have R0 := X0.keep hbel (by have := Z0.out; omega)
    obtain ⟨c0, c1, _, _⟩ := R0.cells
    have kr := k0.trans (hbel.mono (by have := Z0.out; omega))
    clear R0
    cases k with
    | zero =>
      have HK := Lib.hid kr
      clear kr hbel
      go_wp2
      go_ret
      refine ⟨HK.out, ?_⟩
      rw [HM.out, HS.out, List.drop_zero, HV.out, Int.sign_mul_natAbs]
      rfl
    | succ i =>
      have e1 : ((i + 1 : Nat) : Int) - 1 = (i : Int) := by omega
      rw [e1]
      obtain ⟨b, o, rfl, hb, hbl, hcell⟩ := HRD.out i (by rw [List.length_map]; omega)
      rw [castG] at hcell
      have c2 := (kr.cell (p := ⟨b, o + i, none⟩) hb).trans hcell
      have hg := HD.out.getD i
      obtain ⟨g, hgg⟩ : ∃ g : Int, g = ((gs.getD i 0 : Nat) : Int) := ⟨_, rfl⟩
      rw [← hgg] at c2
      have hg0 : 0 ≤ g ∧ g ≤ 9999 := by omega
      have ST := value_step (s := s) (by omega) hgg HM.out
      have B1 : I64 (s * (rv (gs.drop i) : Int)) := by rw [HS.out]; exact HSG.out _ (by have := rv_drop_le gs i; have := HV.out; omega)
      have B2 : I64 (m * 10000) := by
        have : m * 10000 = z.sign * ((rv (gs.drop (i + 1)) * 10000 : Nat) : Int) := by rw [HM.out, HS.out]; push_cast; rw [Int.mul_assoc]
        rw [this]
        refine HSG.out _ ?_
        have h1 := rv_drop_le gs i
        have h2 := HV.out
        rw [drop_getD gs i (by omega)] at h1
        simp only [rv] at h1
        omega
      have B3 : I64 (s * g) := by
        have : s = -1 ∨ s = 0 ∨ s = 1 := by omega
        unfold I64
        rcases this with h | h | h <;> rw [h] <;> omega
      obtain ⟨m1, hm1⟩ : ∃ m1, m1 = m * 10000 := ⟨_, rfl⟩
      obtain ⟨t, ht⟩ : ∃ t, t = s * g := ⟨_, rfl⟩
      obtain ⟨m2, hm2⟩ : ∃ m2, m2 = m1 + t := ⟨_, rfl⟩
      have e2 : IntKind.i64.wrap (m * 10000) = m1 := by rw [hm1]; exact IntWalk.i64_in _ B2
      have e3 : IntKind.i64.wrap (s * g) = t := by rw [ht]; exact IntWalk.i64_in _ B3
      have e4 : IntKind.i64.wrap (m1 + t) = m2 := by rw [hm2]; refine IntWalk.i64_in _ ?_; rw [hm1, ht, ST]; exact B1
      have HM2 : Hid (m2 = s * (rv (gs.drop i) : Int)) := by show _ = _; rw [hm2, hm1, ht, ST]
      have hi : (i : Int) < (gs.length : Int) := by omega
      clear ST B1 B2 B3 hm1 ht hm2 hcell hg hg0 hgg e1
      go_wp2
      go_quiet (fail)
      go_wp2
      go_roundw
      case rel => exact ⟨i, m2, by omega, rfl, by go_num, HM2.out, below_drewN hbel _⟩
      case measure => simp [intOf]
end Go.Proofs.YtjjomjjgoceklaaGreat
namespace Go.Proofs.YtjjomjjgoceklaaGreat
set_option maxRecDepth 100000
open Go.RowKit

theorem nd_of_len {gs : List Nat} (hd : D4 gs) (h1 : 1 ≤ gs.length) : nd (rv gs) ≤ 4 * gs.length := by
  have h := rv_lt4 hd
  rcases (nd_spec (rv gs)).2 with h2 | h2
  · omega
  · rcases Nat.lt_or_ge (4 * gs.length) (nd (rv gs)) with h3 | h3
    · have : 10 ^ (4 * gs.length) ≤ 10 ^ (nd (rv gs) - 1) := Nat.pow_le_pow_right (by decide) (by omega)
      omega
    · exact h3
theorem Po.size {gs : List Nat} (hd : D4 gs) (h1 : 1 ≤ gs.length) {i : Nat} {out : ByteArray} (h : Po gs i out) : out.size ≤ 4 * gs.length := by
  rcases h with ⟨h, rfl⟩ | ⟨_, rfl⟩
  · rw [tB_size]; omega
  · rw [tB_size]; exact nd_of_len hd h1
theorem w32_dig (d : Nat) (h : d < 10) : IntKind.i32.wrap (48 + (d : Int)) = 48 + (d : Int) := by
  match d, h with
  | 0, _ => rfl
  | 1, _ => rfl
  | 2, _ => rfl
  | 3, _ => rfl
  | 4, _ => rfl
  | 5, _ => rfl
  | 6, _ => rfl
  | 7, _ => rfl
  | 8, _ => rfl
  | 9, _ => rfl
set_option maxRecDepth 100000 in
set_option maxHeartbeats 800000 in
theorem ztextr_any (v : Value) (z : Int) (w : World) (h : RZ w v z) : Calls Tryz.prog 92 #[v] w (PTx z w) := by
  obtain ⟨gs, sl, rfl, hsl, hd, hn, hrv⟩ := h
  obtain ⟨p, cap, rfl, _, _, hrd⟩ := hsl.opened w.heap.size (Nat.le_refl _)
  have hle : gs.length ≤ 4096 := by simpa using hsl.1
  rw [List.length_map] at *
  have HRD := Lib.hid hrd
  have HD := Lib.hid hd
  have HN := Lib.hid hn
  have HV := Lib.hid hrv
  clear hsl hd hn hrv hrd
  by_cases hz : z = 0
  · subst hz
    rw [show Int.sign 0 = 0 from rfl]
    go_enter Tryz.func92, Tryz.ntmps92
    go_wp2
    go_ret
    exact ⟨bl1 _ _, by rw [txt_zero]; rfl⟩
  have hlen : 1 ≤ gs.length := by
    rcases gs with _ | ⟨x, r⟩
    · have := HV.out; simp [rv] at this; omega
    · simp
  obtain ⟨s, hs⟩ : ∃ s, s = z.sign := ⟨_, rfl⟩
  have hs0 : (s == 0) = false := by rw [hs, beq_eq_false_iff_ne]; exact fun h => hz (Int.sign_eq_zero_iff_zero.1 h)
  rw [← hs]
  have HS := Lib.hid hs
  have HZ := Lib.hid hz
  clear hs hz
  go_enter Tryz.func92, Tryz.ntmps92
  go_wp2
  generalize hW : World.alloc _ (Obj.cells #[Value.int .i64 s, Value.slice p gs.length cap] 41) = W
  have X0 : Bz w.heap.size s p gs.length cap W := by rw [← hW]; exact Go.Deep.blk_alloc_new _ _
  have k0 : Below w.heap.size w W := by rw [← hW]; exact bl1 _ _
  have z0 : W.heap.size = w.heap.size + 1 := by rw [← hW]; simp
  clear hW
  have Z0 := Lib.hid z0
  clear z0
  go_loopw [3, 4] (fun ov iv wr => ∃ (i : Nat) (out : ByteArray), i ≤ gs.length ∧ ov = .string out ∧ iv = .int .i64 i ∧ Hid (Po gs i out) ∧ Below W.heap.size W wr) (fun _ iv _ => gs.length - (intOf iv).toNat)
  case atStart => exact ⟨0, ⟨#[]⟩, Nat.zero_le _, rfl, rfl, .inl ⟨hlen, rfl⟩, Below.refl _ _⟩
  case round =>
    obtain ⟨i, out, hi, rfl, rfl, HP, hbel⟩ := hrel
    have R0 := X0.keep hbel (by have := Z0.out; omega)
    obtain ⟨c0, c1, _, _⟩ := R0.cells
    have kr := k0.trans (hbel.mono (by have := Z0.out; omega))
    clear R0
    have hsz := HP.out.size HD.out hlen
    by_cases hlt : i < gs.length
    · obtain ⟨wo, rfl⟩ : ∃ wo : World, wo = wr := ⟨_, rfl⟩
      obtain ⟨b, o, rfl, hb, hbl, hcell⟩ := HRD.out i (by rw [List.length_map]; exact hlt)
      rw [castG] at hcell
      have c2 := (kr.cell (p := ⟨b, o + i, none⟩) hb).trans hcell
      have hg := HD.out.getD i
      obtain ⟨x0, hx0⟩ : ∃ x : Nat, x = gs.getD i 0 := ⟨_, rfl⟩
      rw [← hx0] at c2 hg
      have hP0 : Pi gs i 0 x0 out := by
        rcases HP.out with ⟨_, rfl⟩ | ⟨h, _⟩
        · rw [hx0]; exact Pi.start
        · omega
      have HP0 := Lib.hid hP0
      have hlti : (i : Int) < (gs.length : Int) := by omega
      have HB0 := Lib.hid hbel
      clear hcell hx0 hP0 HP hbel
      go_wp2
      go_loopw [3, 5, 6] (fun ov xv kv wr => ∃ (k x : Nat) (out : ByteArray), k ≤ 4 ∧ ov = .string out ∧ xv = .int .i64 x ∧ kv = .int .i64 k ∧ x ≤ 9999 ∧ Hid (Pi gs i k x out) ∧ Below W.heap.size W wr) (fun _ _ kv _ => 4 - (intOf kv).toNat)
      case atStart => exact ⟨0, x0, out, by omega, rfl, rfl, rfl, by omega, HP0.out, HB0.out⟩
      case round =>
        obtain ⟨k, x, out, hk, rfl, rfl, rfl, hx9, HQ, hbel⟩ := hrel
        clear c0 c1 c2 kr
        have R0 := X0.keep hbel (by have := Z0.out; omega)
        obtain ⟨c0, c1, _, _⟩ := R0.cells
        clear R0
        have hsz2 : out.size ≤ 4 * gs.length + 4 := by rw [HQ.out.2.1, tB_size]; omega
        by_cases hgo : k < 4 ∧ (0 < x ∨ i + 1 < gs.length)
        · obtain ⟨hk4, hx⟩ := hgo
          obtain ⟨q, d, hqd, hd1⟩ : ∃ q d : Nat, x = 10 * q + d ∧ d < 10 := ⟨x / 10, x % 10, by omega, by omega⟩
          have HN2 := Lib.hid (HQ.out.next HD.out hk4 hx)
          have eq1 : x / 10 = q := by omega
          have eq2 : x % 10 = d := by omega
          rw [eq1, eq2] at HN2
          obtain ⟨c, hc⟩ : ∃ c : ByteArray, c = ⟨#[UInt8.ofNat (48 + d)]⟩ := ⟨_, rfl⟩
          have hcs : c.size = 1 := by rw [hc]; rfl
          have e4 : Utf8.encode (48 + (d : Int)) = c := by rw [hc]; exact enc_dig d hd1
          rw [← hc] at HN2
          have e3 := w32_dig d hd1
          have e1 : (x : Int) / 10 = (q : Int) := by omega
          have e2 : (x : Int) % 10 = (d : Int) := by omega
          have hd2 : (d : Int) ≤ 9 := by omega
          have hx00 : (0 : Int) ≤ (x : Int) := by omega
          have hk5 : (k : Int) < 4 := by omega
          have hq9 : q ≤ 9999 := by omega
          clear hc eq1 eq2 hqd hd1 hsz HQ
          by_cases hx1 : 0 < x
          · have hx2 : (0 : Int) < (x : Int) := by omega
            clear hx
            go_wp2
            go_roundw
            case rel => exact ⟨k + 1, q, c ++ out, by omega, rfl, by first | rfl | go_num, by go_num, hq9, HN2.out, hbel⟩
            case measure => simp [intOf]; omega
          · have hx2 : ¬ (0 : Int) < (x : Int) := by omega
            have hx3 : (i : Int) < (gs.length : Int) - 1 := by omega
            clear hx
            go_wp2
            go_roundw
            case rel => exact ⟨k + 1, q, c ++ out, by omega, rfl, by first | rfl | go_num, by go_num, hq9, HN2.out, hbel⟩
            case measure => simp [intOf]; omega
        · have HO := Lib.hid (HQ.out.done HD.out HN.out hlt (by omega))
          clear hsz
          by_cases hk4 : k < 4
          · have hx0 : x = 0 := by omega
            subst hx0
            have hk5 : (k : Int) < 4 := by omega
            have hx3 : ¬ (i : Int) < (gs.length : Int) - 1 := by omega
            clear hgo HQ
            rw [show ((0 : Nat) : Int) = 0 from rfl]
            go_wp2
            go_roundw
            case rel => exact ⟨i + 1, out, by omega, rfl, by go_num, HO.out, hbel⟩
            case measure => simp [intOf]; omega
          · have hk5 : ¬ (k : Int) < 4 := by omega
            clear hgo HQ
            go_wp2
            go_roundw
            case rel => exact ⟨i + 1, out, by omega, rfl, by go_num, HO.out, hbel⟩
            case measure => simp [intOf]; omega
    · obtain rfl : i = gs.length := by omega
      have hT : out = tB (nd z.natAbs) z.natAbs := by
        rcases HP.out with ⟨h, _⟩ | ⟨_, h⟩
        · omega
        · rw [h, HV.out]
      have HT := Lib.hid hT
      have HK := Lib.hid kr
      clear kr hbel hT HP
      by_cases hneg : s < 0
      · go_wp2
        go_ret
        refine ⟨HK.out, ?_⟩
        rw [HS.out] at hneg
        rw [HT.out, txt_neg (Int.sign_neg_iff.1 hneg)]
        rfl
      · go_wp2
        go_ret
        refine ⟨HK.out, ?_⟩
        rw [HS.out] at hneg
        rw [HT.out, txt_pos (fun h => by have := Int.sign_neg_iff.2 h; omega)]
        rfl
end Go.Proofs.YtjjomjjgoceklaaGreat
namespace Go.Proofs.YtjjomjjgoceklaaGreat
set_option maxRecDepth 100000
open Go.RowKit

theorem cf17 : CF 17 := fun W args => by go_simp
theorem cf93 : CF 93 := fun W args => by go_simp
theorem cf113 : CF 113 := fun W args => by go_simp
theorem cf114 : CF 114 := fun W args => by go_simp
theorem cf79 : CF 79 := fun W args => by go_simp
theorem cf92 : CF 92 := fun W args => by go_simp
/-- two boxed numbers of the reference, and a box for the result -/
structure S17 (w0 : World) (y z : Int) (w : World) : Prop where
  k : Below w0.heap.size w0 w
  a : Hr w0.heap.size y w
  b : Hr (w0.heap.size + 1) z w
  t : Bz (w0.heap.size + 1 + 1) 0 none 0 0 w
theorem S17.keep {w0 : World} {y z : Int} {w w' : World} (h : S17 w0 y z w) (hb : Below w.heap.size w w') : S17 w0 y z w' :=
  ⟨Below.thru h.k h.k.size hb, h.a.keep hb, h.b.keep hb, blk_keep h.t hb⟩
def D17 (t : Nat) : Bool := Nat.ble 5 t && Nat.ble t 8
def tab17 (y z : Int) (d : Nat) : Kd := [.r y, .r z, .r (-z), .r (y + -z)].getD (d - 5) .any
theorem Hr.al {T : Nat} {z : Int} {w : World} (h : Hr T z w) (o : Obj) : Hr T z (w.alloc o) := h.keep (bl1 w o)
set_option maxRecDepth 100000 in
set_option maxHeartbeats 800000 in
theorem zsubr_any (va vb : Value) (y z : Int) (w : World) (ha : RZ w va y) (hb : RZ w vb z) (sy : Sr y) (sz : Sr z) : Calls Tryz.prog 128 #[va, vb] w (PRZ (y - z) w) := by
  have sz' : Sr (-z) := by obtain ⟨k, h1, h2⟩ := sz; exact ⟨k, h1, by rw [Int.natAbs_neg]; exact h2⟩
  obtain ⟨pa, la, ca, rfl⟩ := ha.agg
  obtain ⟨pb, lb, cb, rfl⟩ := hb.agg
  have A0 : Hr w.heap.size y (w.alloc (.cells #[.int .i64 y.sign, .slice pa la ca] 41)) := Hr.new ha
  have B0 : Hr (w.heap.size + 1) z ((w.alloc (.cells #[.int .i64 y.sign, .slice pa la ca] 41)).alloc (.cells #[.int .i64 z.sign, .slice pb lb cb] 41)) := by
    have := Hr.new (hb.keep (bl1 w (.cells #[.int .i64 y.sign, .slice pa la ca] 41)) (Nat.le_refl _))
    rw [World.size_alloc] at this
    exact this
  have S : S17 w y z (((w.alloc (.cells #[.int .i64 y.sign, .slice pa la ca] 41)).alloc (.cells #[.int .i64 z.sign, .slice pb lb cb] 41)).alloc (.cells #[.int .i64 0, .slice none 0 0] 41)) :=
    ⟨bl3 _ _ _ _, (A0.al _).al _, B0.al _, bz_new _ _ _ _ _ (by simp)⟩
  have S := Lib.hid S
  clear ha hb A0 B0
  go_enter Tryz.func128, Tryz.ntmps128
  go_wp2_with fail
  go_cut [] (fun wc => Below w.heap.size w wc ∧ Hr (w.heap.size + 1 + 1) (y - z) wc)
  case first =>
    rename_i J K' hJ hK
    refine wp_region_two D17 (tab17 y z) (S17 w y z) 4 (fun _ _ w' => Below w.heap.size w w' ∧ Hr (w.heap.size + 1 + 1) (y - z) w') (by kernel_rfl) (by kernel_rfl) (by kernel_rfl) (by kernel_rfl) (by decide) (by kernel_rfl) (fun _ _ h hb => h.keep hb) (S.out.keep (Below.refl _ _).drew) ?_ ?_ ?_
    · refine .cons (fun f w' hI hs => ?_) ?_
      · obtain ⟨s, p, l, c, h1, h2⟩ := hI.a
        exact ⟨wanted_none rfl, _, rfl, .val (rn_load32 rfl (fr_old rfl rfl) h1) ⟨Below.refl _ _, h2⟩⟩
      refine .cons (fun f w' hI hs => ?_) ?_
      · obtain ⟨s, p, l, c, h1, h2⟩ := hI.b
        exact ⟨wanted_none rfl, _, rfl, .val (rn_load32 rfl (fr_old rfl rfl) h1) ⟨Below.refl _ _, h2⟩⟩
      refine .cons (fun f w' hI hs => ⟨wanted_none rfl, _, rfl, .call1 rfl cf93 rfl rfl (PRZ.kd (znegr_any _ z _ (hs 6 (by kernel_rfl))))⟩) ?_
      refine .cons (fun f w' hI hs => ⟨wanted_none rfl, _, rfl, .call2 rfl cf98 rfl rfl rfl rfl (PRZ.kd (zaddr_any _ _ y (-z) _ (hs 5 (by kernel_rfl)) (hs 7 (by kernel_rfl)) sy sz'))⟩) ?_
      exact .nil
    · refine .cons (fun f w' h => ⟨wanted_none rfl, ?_⟩) .nil
      obtain ⟨hI, hs⟩ := (if_pos rfl) ▸ h
      have h8 : RZ w' (f 8) (y + -z) := hs 8 (by kernel_rfl)
      obtain ⟨p, l, c, e8⟩ := h8.agg
      rw [e8] at h8
      rw [← Int.sub_eq_add_neg] at h8 e8
      exact .skip (rn_store32 rfl (fr_old rfl rfl) ((fr_own rfl rfl).trans e8) hI.t) ⟨below2 hI.k (by omega) _ _, Hr.stored hI.t h8⟩
    · intro f w' h
      refine hK _ _ (Met.intro (hJ _ _ ?_))
      (repeat apply Exists.intro)
      refine ⟨?_, rfl⟩
      exact h
  case rest =>
    obtain ⟨kf, s2, p2, l2, c2, h3, h4⟩ := hcut
    obtain ⟨g4, g5, _, _⟩ := h3.cells
    have KF := Lib.hid kf
    have V2 := Lib.hid h4
    clear h3 h4 kf S
    go_wp2
    exact bodyPost_ret (v := .agg #[.int .i64 s2, .slice p2 l2 c2]) (by simp [results, Tryz.results128, go_sem, g4, g5]) rfl ⟨KF.out, _, rfl, V2.out⟩
def PSd (y z : Int) (w : World) (e : Ending) (w' : World) : Prop := Below w.heap.size w w' ∧ e = .returned (.int .i64 (y - z).sign)
theorem fld32 (s : Int) (p : Option Addr) (l c : Nat) : ∀ w : World, (Instr.field 41 (.agg #[.int .i64 s, .slice p l c]) 0).run Tryz.prog w = .ok (.int .i64 s) w := fun _ => by kernel_rfl
set_option maxRecDepth 100000 in
theorem zcmpr_any (va vb : Value) (y z : Int) (w : World) (ha : RZ w va y) (hb : RZ w vb z) (sy : Sr y) (sz : Sr z) : Calls Tryz.prog 103 #[va, vb] w (PSd y z w) := by
  obtain ⟨pa, la, ca, rfl⟩ := ha.agg
  obtain ⟨pb, lb, cb, rfl⟩ := hb.agg
  have HA := Lib.hid ha
  have HB := Lib.hid hb
  clear ha hb
  go_enter Tryz.func103, Tryz.ntmps103
  go_wp2_with fail
  refine (zsubr_any _ _ y z _ (HA.out.keep (bl2 _ _ _) (Nat.le_refl _)) (HB.out.keep (bl2 _ _ _) (Nat.le_refl _)) sy sz).mono ?_
  rintro e w1 ⟨hb1, v1, rfl, h1⟩
  obtain ⟨p, l, c, rfl⟩ := h1.agg
  have K := Lib.hid (Below.thru (bl2 w _ _) (by simp; omega) hb1)
  clear h1 hb1
  have hf := fld32 (y - z).sign p l c
  go_wp2
  go_ret
  exact ⟨K.out, rfl⟩
end Go.Proofs.YtjjomjjgoceklaaGreat
namespace Go.Proofs.YtjjomjjgoceklaaGreat
set_option maxRecDepth 100000
open Go.RowKit

theorem PSd.kd {a b n : Int} {w : World} {g : FuncId} {args : Array Value} (h : Calls Tryz.prog g args w (PSd a b w)) (h0 : (a - b).sign = n) : Calls Tryz.prog g args w fun e w' => ∃ v, e = .returned v ∧ (Below w.heap.size w w' ∧ Go.Proofs.YtjjomjjgoceklaaGreat.kd (ki n) v w') :=
  h.mono fun _ _ ⟨hb, he⟩ => ⟨_, he, hb, by show _ = _; rw [h0]⟩
section
variable {ρ : Operand → Value} {o : Oper} {w : World}
theorem rn_lss3 {t c : Operand} {n m : Int} {r : Bool} (ho : o.op = .binOp .lss 3 t c 3) (h1 : ρ t = .int .i64 n) (h2 : ρ c = .int .i64 m) (hc : decide (n < m) = r) : (execOp ρ o).run Tryz.prog w = .ok (.value (.bool r)) w := by
  subst hc; unfold execOp; rw [ho]; simp [go_sem, h1, h2]
theorem rn_gtr3 {t c : Operand} {n m : Int} {r : Bool} (ho : o.op = .binOp .gtr 3 t c 3) (h1 : ρ t = .int .i64 n) (h2 : ρ c = .int .i64 m) (hc : decide (m < n) = r) : (execOp ρ o).run Tryz.prog w = .ok (.value (.bool r)) w := by
  subst hc; unfold execOp; rw [ho]; simp [go_sem, h1, h2]
end
/-- SameZ at one integer: its two texts are one -/
structure S11 (w0 : World) (z : Int) (w : World) : Prop where
  k : Below w0.heap.size w0 w
  a : Hz w0.heap.size z w
  b : Hr (w0.heap.size + 1) z w
theorem S11.keep {w0 : World} {z : Int} {w w' : World} (h : S11 w0 z w) (hb : Below w.heap.size w w') : S11 w0 z w' :=
  ⟨Below.thru h.k h.k.size hb, h.a.keep hb, h.b.keep hb⟩
def D11 (t : Nat) : Bool := Nat.ble 4 t && Nat.ble t 9
def tab11 (z : Int) (d : Nat) : Kd := [.v (.bool true), .z z, .v (.string (txt z)), .r z, .v (.string (txt z)), .v (.bool true)].getD (d - 4) .any
theorem PTx.kd {z : Int} {w : World} {g : FuncId} {args : Array Value} (h : Calls Tryz.prog g args w (PTx z w)) : Calls Tryz.prog g args w fun e w' => ∃ v, e = .returned v ∧ (Below w.heap.size w w' ∧ Go.Proofs.YtjjomjjgoceklaaGreat.kd (.v (.string (txt z))) v w') :=
  h.mono fun _ _ ⟨hb, he⟩ => ⟨_, he, hb, rfl⟩
theorem rn_eql9 {ρ : Operand → Value} {o : Oper} {w : World} {t c : Operand} {s : ByteArray} (ho : o.op = .binOp .eql 9 t c 9) (h1 : ρ t = .string s) (h2 : ρ c = .string s) : (execOp ρ o).run Tryz.prog w = .ok (.value (.bool true)) w := by
  unfold execOp; rw [ho]; simp [go_sem, h1, h2]
theorem grC_any (n : Nat) (sz : Sz n) : GrC n := fun v w hd => groups_any v n w hd sz
theorem sz_nd {n : Nat} (h : Sz n) : nd n ≤ 100000 := by
  obtain ⟨k, hk, hn⟩ := h
  have h1 : WB ^ k ≤ 10 ^ (20 * k) := by rw [Nat.pow_mul]; exact Nat.pow_le_pow_left (by decide) k
  rcases (nd_spec n).2 with h2 | h2
  · omega
  · rcases Nat.lt_or_ge 100000 (nd n) with h3 | h3
    · have h4 : 10 ^ (20 * k) ≤ 10 ^ (nd n - 1) := Nat.pow_le_pow_right (by decide) (by omega)
      omega
    · exact h3
set_option maxRecDepth 100000 in
theorem sameZ_any (va vb : Value) (z : Int) (w : World) (ha : Zr w va z) (hb : RZ w vb z) (sz : Sz z.natAbs) : Calls Tryz.prog 17 #[va, vb] w (PB true w) := by
  obtain ⟨s, x, p, _, rfl, -⟩ := id ha
  obtain ⟨q, l, c, rfl⟩ := hb.agg
  have A0 : Hz w.heap.size z (w.alloc (.cells #[.bool s, .int .u64 x, .pointer p] 28)) := Hz.new ha
  have B0 : Hr (w.heap.size + 1) z ((w.alloc (.cells #[.bool s, .int .u64 x, .pointer p] 28)).alloc (.cells #[.int .i64 z.sign, .slice q l c] 41)) := by
    have := Hr.new (hb.keep (bl1 w (.cells #[.bool s, .int .u64 x, .pointer p] 28)) (Nat.le_refl _))
    rw [World.size_alloc] at this
    exact this
  have S : S11 w z ((w.alloc (.cells #[.bool s, .int .u64 x, .pointer p] 28)).alloc (.cells #[.int .i64 z.sign, .slice q l c] 41)) := ⟨bl2 _ _ _, A0.keep (bl1 _ _), B0⟩
  have S := Lib.hid S
  clear ha hb A0 B0
  go_enter Tryz.func17, Tryz.ntmps17
  go_wp2_with fail
  go_cut [4] (fun v wc => v = .bool true ∧ Below w.heap.size w wc)
  case first =>
    rename_i J K' hJ hK
    refine wp_region_kd D11 (tab11 z) (S11 w z) (by kernel_rfl) (by kernel_rfl) (by kernel_rfl) (by kernel_rfl) (fun _ _ h hb => h.keep hb) (S.out.keep (Below.refl _ _).drew) ?_ ?_
    · refine .cons (fun f w' hI hs => ?_) ?_
      · obtain ⟨s, x, p, h1, h2⟩ := hI.a
        exact ⟨wanted_none rfl, _, rfl, .val (rn_load29 rfl (fr_old rfl rfl) (b3_blk h1)) ⟨Below.refl _ _, h2⟩⟩
      refine .cons (fun f w' hI hs => ⟨wanted_none rfl, _, rfl, .call1 rfl cf79 rfl rfl (PTx.kd (text_any _ z _ (hs 5 (by kernel_rfl)) (grC_any _ sz) (sz_nd sz)))⟩) ?_
      refine .cons (fun f w' hI hs => ?_) ?_
      · obtain ⟨s, p, l, c, h1, h2⟩ := hI.b
        exact ⟨wanted_none rfl, _, rfl, .val (rn_load32 rfl (fr_old rfl rfl) h1) ⟨Below.refl _ _, h2⟩⟩
      refine .cons (fun f w' hI hs => ⟨wanted_none rfl, _, rfl, .call1 rfl cf92 rfl rfl (PTx.kd (ztextr_any _ z _ (hs 7 (by kernel_rfl))))⟩) ?_
      refine .cons (fun f w' hI hs => ⟨wanted_none rfl, _, rfl, .val (rn_eql9 rfl ((fr_own rfl rfl).trans (hs 6 (by kernel_rfl))) ((fr_own rfl rfl).trans (hs 8 (by kernel_rfl)))) ⟨Below.refl _ _, rfl⟩⟩) ?_
      refine .cons (fun f w' hI hs => ⟨wanted_none rfl, _, rfl, .val (rn_assign rfl) ⟨Below.refl _ _, (fr_own rfl rfl).trans (hs 9 (by kernel_rfl))⟩⟩) ?_
      exact .nil
    · intro f w' hI hk
      have h4 : f 4 = .bool true := hk 4 (by kernel_rfl)
      refine hK _ _ (Met.intro (hJ _ _ ?_))
      (repeat apply Exists.intro)
      refine ⟨?_, rfl⟩
      exact ⟨h4, hI.k⟩
  case rest =>
    obtain ⟨rfl, kf⟩ := hcut
    go_wp2
    go_ret
    exact ⟨kf, rfl⟩
end Go.Proofs.YtjjomjjgoceklaaGreat
namespace Go.Proofs.YtjjomjjgoceklaaGreat
set_option maxRecDepth 100000
open Go.RowKit

theorem PSg.kdn {a b : Int} {w : World} {n : FuncId} {args : Array Value} (h : Calls Tryz.prog n args w (PSg a b w)) : Calls Tryz.prog n args w fun e w' => ∃ v, e = .returned v ∧ (Below w.heap.size w w' ∧ Go.Proofs.YtjjomjjgoceklaaGreat.kd (ki (sgnZ a b)) v w') :=
  h.mono fun _ _ ⟨hb, he⟩ => ⟨_, he, hb, rfl⟩
theorem PSi.kdn {a : Int} {w : World} {n : FuncId} {args : Array Value} (h : Calls Tryz.prog n args w fun e w' => Below w.heap.size w w' ∧ e = .returned (.int .i64 a.sign)) : Calls Tryz.prog n args w fun e w' => ∃ v, e = .returned v ∧ (Below w.heap.size w w' ∧ Go.Proofs.YtjjomjjgoceklaaGreat.kd (ki a.sign) v w') :=
  h.mono fun _ _ ⟨hb, he⟩ => ⟨_, he, hb, rfl⟩
theorem Wk.neg {k : Nat} {a : Int} (h : Wk k a) : Wk k (-a) := by unfold Wk at *; rw [Int.natAbs_neg]; exact h
theorem Wk.abs {k : Nat} {a : Int} (h : Wk k a) : Wk k (a.natAbs : Int) := by unfold Wk at *; simpa using h
theorem Hr.sgn {T : Nat} {z : Int} {w : World} (h : Hr T z w) : w.cell? ⟨T, 0, none⟩ = some (.int .i64 z.sign) ∧ T < w.heap.size := by
  obtain ⟨s, p, l, c, h1, h2⟩ := h
  obtain ⟨q, m, d, e⟩ := h2.agg
  simp at e
  obtain ⟨rfl, -⟩ := e
  exact ⟨h1.cells.1, blk_lt h1⟩
section
variable {ρ : Operand → Value} {o : Oper} {w : World}
theorem rn_field32_0 {t : Operand} {b : Nat} (ho : o.op = .fieldAddr 41 t 0) (he : ρ t = .pointer (some ⟨b, 0, none⟩)) : (execOp ρ o).run Tryz.prog w = .ok (.value (.pointer (some ⟨b, 0, none⟩))) w := by
  unfold execOp; rw [ho]; simp [go_sem, he]
theorem rn_load3 {t : Operand} {b i : Nat} {n : Int} (ho : o.op = .load 3 t) (he : ρ t = .pointer (some ⟨b, i, none⟩)) (h : w.cell? ⟨b, i, none⟩ = some (.int .i64 n)) : (execOp ρ o).run Tryz.prog w = .ok (.value (.int .i64 n)) w := by
  unfold execOp; rw [ho]; simp [go_sem, he, h]
end
/-- two integers in boxes, the reference's beside them -/
structure O4 (w0 : World) (y z : Int) (Ta Rra Tb Rrb : Nat) (w : World) : Prop where
  k : Below w0.heap.size w0 w
  a : Hz Ta y w
  ra : Hr Rra y w
  b : Hz Tb z w
  rb : Hr Rrb z w
theorem O4.keep {w0 : World} {y z : Int} {Ta Rra Tb Rrb : Nat} {w w' : World} (h : O4 w0 y z Ta Rra Tb Rrb w) (hb : Below w.heap.size w w') : O4 w0 y z Ta Rra Tb Rrb w' :=
  ⟨Below.thru h.k h.k.size hb, h.a.keep hb, h.ra.keep hb, h.b.keep hb, h.rb.keep hb⟩
end Go.Proofs.YtjjomjjgoceklaaGreat
