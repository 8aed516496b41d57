import Derived.Test.YtjjomjjgoceklaaGreatKcg
import Derived.Test.YtjjomjjgoceklaaGreatKbg
import Derived.Lib.IndexLaws
namespace Go.Proofs.YtjjomjjgoceklaaGreat
set_option maxRecDepth 100000
open Go.RowKit

/-! plain: texts give the numbers again -/
theorem byteAt_mk (l : List UInt8) (i : Nat) : byteAt ⟨l.toArray⟩ i = (l.getD i 0).toNat := by unfold byteAt; simp
theorem padL_get (k n j : Nat) (h : j < k) : (padL k n)[j]? = some (digAt n (k - 1 - j)) := by
  induction k generalizing j with
  | zero => omega
  | succ k ih =>
    cases j with
    | zero => simp [padL]
    | succ j => simp only [padL, List.getElem?_cons_succ]; rw [ih j (by omega), show k + 1 - 1 - (j + 1) = k - 1 - j by omega]
theorem dig_get (k n j : Nat) (h : j < k) : ((digB (padL k n)).getD j 0).toNat = 48 + n / 10 ^ (k - 1 - j) % 10 := by
  unfold digB
  rw [List.getD_eq_getElem?_getD, List.getElem?_map, padL_get k n j h]
  simp only [Option.map_some, Option.getD_some]
  have : (digAt n (k - 1 - j)).val = n / 10 ^ (k - 1 - j) % 10 := rfl
  have h2 := (digAt n (k - 1 - j)).isLt
  simp [this]
  omega
theorem digB_length (l : List (Fin 10)) : (digB l).length = l.length := by simp [digB]
/-- the text of a natural number -/
def ntx (n : Nat) : ByteArray := ⟨(digB (decL n)).toArray⟩
theorem ntx_size (n : Nat) : (ntx n).size = nd n := by
  show (digB (decL n)).toArray.size = _
  rw [List.size_toArray, digB_length, decL_length]
theorem ntx_at (n j : Nat) (h : j < nd n) : byteAt (ntx n) j = 48 + n / 10 ^ (nd n - 1 - j) % 10 := by
  unfold ntx decL
  rw [byteAt_mk, dig_get _ _ _ h]
theorem ntx_dec (n m : Nat) (h : m ≤ nd n) : dec (ntx n) m = n / 10 ^ (nd n - m) := by
  induction m with
  | zero => rw [Nat.sub_zero, Nat.div_eq_of_lt (nd_spec n).1]; rfl
  | succ m ih =>
    simp only [dec]
    rw [ih (by omega), ntx_at n m (by omega), show nd n - m = (nd n - (m + 1)) + 1 by omega, show nd n - 1 - m = nd n - (m + 1) by omega, Nat.pow_succ, ← Nat.div_div_eq_div_mul]
    omega
theorem ntx_all (n : Nat) : dec (ntx n) (ntx n).size = n := by rw [ntx_size, ntx_dec n _ (Nat.le_refl _), Nat.sub_self]; simp
theorem ntx_nat (n : Nat) : NatP (ntx n) := by
  constructor
  · intro j hj
    rw [ntx_size] at hj
    rw [ntx_at n j hj]
    omega
  · by_cases h : nd n = 1 ∧ n = 0
    · left
      obtain ⟨_, rfl⟩ := h
      rw [ByteArray.toList_eq]
      unfold ntx
      rw [decL_small (by decide)]
      rfl
    · right
      have hp := nd_pos n
      refine ⟨by rw [ntx_size]; omega, ?_⟩
      rw [ntx_at n 0 (by omega)]
      rcases (nd_spec n).2 with h1 | h1
      · have h2 := (nd_spec n).1
        rw [h1] at h2 ⊢
        simp
        omega
      · have h2 : 1 ≤ n / 10 ^ (nd n - 1) := (Nat.le_div_iff_mul_le (Nat.pow_pos (by decide))).2 (by omega)
        have h3 : n / 10 ^ (nd n - 1) < 10 := by
          rw [Nat.div_lt_iff_lt_mul (Nat.pow_pos (by decide)), ← Nat.pow_succ', show (nd n - 1).succ = nd n by omega]
          exact (nd_spec n).1
        rw [Nat.sub_zero]
        omega
theorem ntx_pos (n : Nat) : 0 < (ntx n).size := by rw [ntx_size]; exact nd_pos n
theorem txt_nat (n : Nat) : txt (n : Int) = ntx n := by
  unfold txt txtL ntx
  rw [if_neg (by omega), Int.natAbs_natCast]
  rfl
theorem extract_mk (l : List UInt8) (a b : Nat) : (⟨l.toArray⟩ : ByteArray).extract a b = ⟨((l.drop a).take (b - a)).toArray⟩ := by
  apply ByteArray.ext
  rw [ByteArray.data_extract]
  apply Array.ext'
  simp [List.take_drop]
theorem txt_minus {z : Int} (h : z < 0) : txt z = ⟨(45 :: digB (decL z.natAbs)).toArray⟩ := by unfold txt txtL; rw [if_pos h]; rfl
theorem txt_neg_tail {z : Int} (h : z < 0) : (txt z).extract 1 (txt z).size = ntx z.natAbs := by
  rw [txt_minus h, extract_mk]
  unfold ntx
  congr 1
  have : (⟨(45 :: digB (decL z.natAbs)).toArray⟩ : ByteArray).size = (digB (decL z.natAbs)).length + 1 := by
    show (45 :: digB (decL z.natAbs)).toArray.size = _
    simp
  rw [this]
  simp
theorem readZ_txt (z : Int) (w : World) (hs : (txt z).size ≤ 1000) : Calls Tryz.prog 84 #[.string (txt z)] w (PZe z 0 w) := by
  by_cases h : z < 0
  · have e := txt_neg_tail h
    have h0 : 0 < (txt z).size := by
      rw [txt_minus h]
      show 0 < (45 :: digB (decL z.natAbs)).toArray.size
      simp
    have h1 : byteAt (txt z) 0 = 45 := by rw [txt_minus h, byteAt_mk]; rfl
    have p := readZ_minus (txt z) w hs h0 h1 (by rw [e]; exact ntx_nat _)
    rw [e, ntx_all] at p
    rw [show z = -(z.natAbs : Int) by omega]
    rw [show (-(z.natAbs : Int)) = z by omega] at p ⊢
    exact p
  · obtain ⟨n, rfl⟩ := Int.eq_ofNat_of_zero_le (Int.not_lt.1 h)
    rw [txt_nat] at hs ⊢
    have h1 := (ntx_nat n).1 0 (ntx_pos n)
    have p := readZ_pos (ntx n) w hs (ntx_pos n) (by omega) (ntx_nat n)
    rw [ntx_all] at p
    exact p
theorem parseZ_txt (z : Int) (w : World) (hs : (txt z).size ≤ 1000) : Calls Tryz.prog 12 #[.string (txt z)] w (PZe z 0 w) := parseZ_any _ z 0 w hs fun W => readZ_txt z W hs
theorem txt_no47 (z : Int) : (47 : UInt8) ∉ txtL z := by
  unfold txtL digB
  intro h
  rcases List.mem_append.1 h with h | h
  · split at h
    · simp at h
    · simp at h
  · obtain ⟨d, _, hd⟩ := List.mem_map.1 h
    have h2 := d.isLt
    have h3 := congrArg UInt8.toNat hd
    simp at h3
    omega
theorem index_none : ∀ (l : List UInt8), (47 : UInt8) ∉ l → Lib.indexByte l 47 = -1
  | [], _ => rfl
  | b :: l, h => by
    unfold Lib.indexByte
    have h1 : (b == 47) = false := by rw [beq_eq_false_iff_ne]; intro e; exact h (by rw [e]; simp)
    rw [h1, index_none l (fun e => h (List.mem_cons_of_mem _ e))]
    rfl
theorem index_at : ∀ (l r : List UInt8), (47 : UInt8) ∉ l → Lib.indexByte (l ++ 47 :: r) 47 = (l.length : Int)
  | [], r, _ => by simp [Lib.indexByte]
  | b :: l, r, h => by
    have h1 : (b == 47) = false := by rw [beq_eq_false_iff_ne]; intro e; exact h (by rw [e]; simp)
    have ih := index_at l r (fun e => h (List.mem_cons_of_mem _ e))
    rw [List.cons_append]
    unfold Lib.indexByte
    rw [h1, ih]
    have h2 : ((l.length : Int) == -1) = false := by rw [beq_eq_false_iff_ne]; omega
    rw [h2]
    simp
theorem txtR_one (n : Int) : txtR n 1 = txt n := by unfold txtR; rw [if_pos rfl]
theorem txtR_big (n : Int) {d : Nat} (h : d ≠ 1) : txtR n d = ⟨(txtL n ++ 47 :: txtL (d : Int)).toArray⟩ := by unfold txtR; rw [if_neg h]
theorem parse_txt (n : Int) (d : Nat) (w : World) (hs : (txtR n d).size ≤ 1000) (_h0 : 0 < d) (_hg : Nat.gcd n.natAbs d = 1) (_sn : Sz n.natAbs) (_sd : Sz d)
    (ho : ∀ W v1 v2, Zr W v1 n → Zr W v2 (d : Int) → Calls Tryz.prog 28 #[v1, v2] W (PRe n d 0 W)) : Calls Tryz.prog 13 #[.string (txtR n d)] w (PRe n d 0 w) := by
  by_cases h : d = 1
  · subst h
    rw [txtR_one] at hs ⊢
    exact parse_whole (txt n) (txt n) ⟨#[]⟩ n w hs (fun W => cut_none (txt n) 47 W (index_none _ (by show _ ∉ (txtL n).toArray.toList; simpa using txt_no47 n))) fun W => readZ_txt n W hs
  · rw [txtR_big n h] at hs ⊢
    have hsz : (⟨(txtL n ++ 47 :: txtL (d : Int)).toArray⟩ : ByteArray).size = (txtL n).length + 1 + (txtL (d : Int)).length := by
      show (txtL n ++ 47 :: txtL (d : Int)).toArray.size = _
      simp
      omega
    have e1 : (⟨(txtL n ++ 47 :: txtL (d : Int)).toArray⟩ : ByteArray).extract 0 (txtL n).length = txt n := by
      rw [extract_mk]; unfold txt; simp
    have e2 : (⟨(txtL n ++ 47 :: txtL (d : Int)).toArray⟩ : ByteArray).extract ((txtL n).length + 1) (⟨(txtL n ++ 47 :: txtL (d : Int)).toArray⟩ : ByteArray).size = ntx d := by
      rw [hsz, extract_mk, ← txt_nat]; unfold txt
      congr 1
      rw [show (txtL n ++ 47 :: txtL (d : Int)) = (txtL n ++ [47]) ++ txtL (d : Int) by simp, List.drop_append_of_le_length (by simp)]
      rw [List.drop_of_length_le (by simp), List.nil_append, List.take_of_length_le (by omega)]
    have s1 : (txt n).size = (txtL n).length := by show (txtL n).toArray.size = _; simp
    have s2 : (ntx d).size = (txtL (d : Int)).length := by rw [← txt_nat]; show (txtL (d : Int)).toArray.size = _; simp
    refine parse_slash _ (txt n) (ntx d) n n 0 d d w hs (fun W => ?_) (fun W => readZ_txt n W (by omega)) (by omega) (ntx_nat d) (ntx_all d) ho
    have p := cut_one ⟨(txtL n ++ 47 :: txtL (d : Int)).toArray⟩ 47 (txtL n).length W (by omega) (by show Lib.indexByte (txtL n ++ 47 :: txtL (d : Int)).toArray.toList 47 = _; simpa using index_at _ _ (txt_no47 n)) (by omega)
    rw [e1, e2] at p
    exact p
/-- equal texts, equal numbers -/
theorem txt_inj {y z : Int} (h : txt y = txt z) : y = z := by
  have key : ∀ z : Int, z < 0 → byteAt (txt z) 0 = 45 := fun z h => by rw [txt_minus h, byteAt_mk]; rfl
  have key2 : ∀ z : Int, ¬ z < 0 → byteAt (txt z) 0 ≠ 45 := fun z h => by
    obtain ⟨n, rfl⟩ := Int.eq_ofNat_of_zero_le (Int.not_lt.1 h)
    rw [txt_nat]
    have := (ntx_nat n).1 0 (ntx_pos n)
    omega
  by_cases hy : y < 0
  · by_cases hz : z < 0
    · have e : ntx y.natAbs = ntx z.natAbs := by rw [← txt_neg_tail hy, ← txt_neg_tail hz, h]
      have := congrArg (fun s => dec s s.size) e
      simp only [ntx_all] at this
      omega
    · exact absurd (h ▸ key y hy) (key2 z hz)
  · by_cases hz : z < 0
    · exact absurd (h.symm ▸ key z hz) (key2 y hy)
    · obtain ⟨m, rfl⟩ := Int.eq_ofNat_of_zero_le (Int.not_lt.1 hy)
      obtain ⟨n, rfl⟩ := Int.eq_ofNat_of_zero_le (Int.not_lt.1 hz)
      rw [txt_nat, txt_nat] at h
      have := congrArg (fun s => dec s s.size) h
      simp only [ntx_all] at this
      rw [this]
theorem txtL_inj {y z : Int} (h : txtL y = txtL z) : y = z := txt_inj (by unfold txt; rw [h])
theorem split47 : ∀ {a b c d : List UInt8}, (47 : UInt8) ∉ a → (47 : UInt8) ∉ c → a ++ 47 :: b = c ++ 47 :: d → a = c ∧ b = d
  | [], b, [], d, _, _, h => by simpa using h
  | [], b, x :: c, d, _, h2, h => by
    simp at h
    exact absurd (show (47 : UInt8) ∈ x :: c by rw [← h.1]; simp) h2
  | x :: a, b, [], d, h1, _, h => by
    simp at h
    exact absurd (show (47 : UInt8) ∈ x :: a by rw [h.1]; simp) h1
  | x :: a, b, y :: c, d, h1, h2, h => by
    simp at h
    have := split47 (fun e => h1 (List.mem_cons_of_mem _ e)) (fun e => h2 (List.mem_cons_of_mem _ e)) h.2
    exact ⟨by rw [h.1, this.1], this.2⟩
theorem txtR_inj {n m : Int} {d e : Nat} (h : txtR n d = txtR m e) : n = m ∧ d = e := by
  by_cases hd : d = 1
  · by_cases he : e = 1
    · subst hd; subst he
      rw [txtR_one, txtR_one] at h
      exact ⟨txt_inj h, rfl⟩
    · subst hd
      rw [txtR_one, txtR_big m he] at h
      have h' : txtL n = txtL m ++ 47 :: txtL (e : Int) := by
        have := congrArg (fun s => s.data.toList) h
        simpa [txt] using this
      exact absurd (by rw [h']; simp) (txt_no47 n)
  · by_cases he : e = 1
    · subst he
      rw [txtR_one, txtR_big n hd] at h
      have h' : txtL n ++ 47 :: txtL (d : Int) = txtL m := by
        have := congrArg (fun s => s.data.toList) h
        simpa [txt] using this
      exact absurd (by rw [← h']; simp) (txt_no47 m)
    · rw [txtR_big n hd, txtR_big m he] at h
      have h' : txtL n ++ 47 :: txtL (d : Int) = txtL m ++ 47 :: txtL (e : Int) := by
        have := congrArg (fun s => s.data.toList) h
        simpa using this
      obtain ⟨h1, h2⟩ := split47 (txt_no47 n) (txt_no47 m) h'
      have := txtL_inj h2
      exact ⟨txtL_inj h1, by omega⟩
end Go.Proofs.YtjjomjjgoceklaaGreat
