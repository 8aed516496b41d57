import Derived.Test.YtjjomjjgoceklaaGreatWs
import Derived.Test.YtjjomjjgoceklaaGreatWt
import Derived.Test.YtjjomjjgoceklaaGreatWk
import Derived.Lib.IndexLaws
import Derived.Lib.Bytealg
namespace Go.Proofs.YtjjomjjgoceklaaGreat
set_option maxRecDepth 100000
open Go.RowKit

/-! Parse of both, of any text of at most 1000 bytes -/
theorem readZ_yes (s : ByteArray) (w : World) (hs : s.size ≤ 1000) (h : IntP s) : Calls Tryz.prog 84 #[.string s] w (PZe (pzi s) 0 w) := by
  unfold pzi
  rcases h with ⟨h0, h1, h2⟩ | ⟨h0, h2⟩
  · rw [if_pos ⟨h0, h1⟩]; exact readZ_minus s w hs h0 h1 h2
  · rw [if_neg h0]; exact readZ_pos s w hs h2.head (fun h1 => h0 ⟨h2.head, h1⟩) h2
theorem readZ_no (s : ByteArray) (w : World) (hs : s.size ≤ 1000) (h : ¬ IntP s) : Calls Tryz.prog 84 #[.string s] w (PZe 0 4 w) := by
  by_cases h0 : 0 < s.size
  · by_cases h1 : byteAt s 0 = 45
    · exact readZ_minus_bad s w hs h0 h1 (fun h2 => h (.inl ⟨h0, h1, h2⟩))
    · exact readZ_bad s w hs h0 h1 (fun h2 => h (.inr ⟨fun h' => h1 h'.2, h2⟩))
  · exact readZ_empty s w (by omega)
theorem byteAt_some {s : ByteArray} {k : Nat} (h : k < s.size) : s.data.toList[k]? = some (UInt8.ofNat (byteAt s k)) := by
  have h' : k < s.data.toList.length := by simpa using h
  unfold byteAt
  rw [List.getD_eq_getElem?_getD, List.getElem?_eq_getElem h']
  simp
theorem noSl_of {s : ByteArray} {i : Nat} (hi : i ≤ s.size) (h : ∀ k, k < i → s.data.toList[k]? ≠ some 47) : NoSl s i := fun j hj e => h j hj (by rw [byteAt_some (by omega), e]; rfl)
theorem tn_zero : Tn 0 := ⟨1, by omega, by decide⟩
theorem tn_one : Tn 1 := ⟨1, by omega, by decide⟩
theorem Tn.le {a b : Nat} (h : Tn b) (hab : a ≤ b) : Tn a := by
  obtain ⟨k, hk, h⟩ := h
  exact ⟨k, hk, Nat.lt_of_le_of_lt hab h⟩
end Go.Proofs.YtjjomjjgoceklaaGreat
namespace Go.Proofs.YtjjomjjgoceklaaGreat
set_option maxRecDepth 100000
open Go.RowKit

/-! Parse of the program beside Parse of the reference -/
theorem bd0 : Bd9 60 (0 : Rat) := Tn.bd9 (q := 0) tn_zero tn_one
theorem both_parse (s : ByteArray) (hs : s.size ≤ 1000) : ∃ (q : Rat) (er bad : Int), Bd9 60 q ∧ ((er = 0 ∧ bad = 0) ∨ (er = 4 ∧ bad = 1 ∧ q = 0) ∨ (er = 9 ∧ bad = 2 ∧ q = 0)) ∧
    (∀ W, Calls Tryz.prog 13 #[.string s] W (PRe q.num q.den er W)) ∧ (∀ W, Calls Tryz.prog 19 #[.string s] W (PPa bad q W)) := by
  have hge := Lib.indexByte_ge s.data.toList 47
  by_cases hi : Lib.indexByte s.data.toList 47 = -1
  · have hn : NoSl s s.size := noSl_of (Nat.le_refl _) fun k _ => Lib.indexByte_none hi k
    by_cases hp : IntP s
    · refine ⟨(pzi s : Rat), 0, 0, Tn.bd9 (q := (pzi s : Rat)) (pzi_tn hs hp) tn_one, .inl ⟨rfl, rfl⟩, fun W => ?_, fun W => parser_whole s W hs hn hp⟩
      exact parse_whole s s _ (pzi s) W hs (fun W => cut_none s 47 W hi) (fun W => readZ_yes s W hs hp)
    · refine ⟨0, 4, 1, bd0, .inr (.inl ⟨rfl, rfl, rfl⟩), fun W => ?_, fun W => parser_none s W hs hn hp⟩
      exact parse_front s s _ _ 4 W hs (by decide) (fun W => cut_none s 47 W hi) (fun W => readZ_no s W hs hp)
  · obtain ⟨i, hi'⟩ : ∃ i : Nat, Lib.indexByte s.data.toList 47 = (i : Int) := ⟨(Lib.indexByte s.data.toList 47).toNat, by omega⟩
    obtain ⟨h1, h2⟩ := Lib.indexByte_some hi'
    have hlt : i < s.size := by
      obtain ⟨h, _⟩ := List.getElem?_eq_some_iff.1 h1
      simpa using h
    have hn : NoSl s i := noSl_of (Nat.le_of_lt hlt) h2
    have hb : byteAt s i = 47 := by
      rw [byteAt_some hlt] at h1
      have h3 := Option.some.inj h1
      have : byteAt s i < 256 := by unfold byteAt; exact UInt8.toNat_lt _
      have h4 := congrArg UInt8.toNat h3
      rw [UInt8.toNat_ofNat'] at h4
      rw [Nat.mod_eq_of_lt (by simpa using this)] at h4
      exact h4
    have hl1 : (s.extract 0 i).size ≤ 1000 := by rw [ByteArray.size_extract]; omega
    have hr1 : (s.extract (i + 1) s.size).size ≤ 1000 := by rw [ByteArray.size_extract]; omega
    have hc : ∀ W, Calls Tryz.prog 85 #[.string s, .string ⟨#[47]⟩] W fun e w' => Below W.heap.size W w' ∧ e = .returned (.tuple #[.string (s.extract 0 i), .string (s.extract (i + 1) s.size), .bool true]) := fun W => cut_one s 47 i W (by omega) hi' hlt
    by_cases hL : IntP (s.extract 0 i)
    · by_cases hR : NatP (s.extract (i + 1) s.size)
      · by_cases h0 : dec (s.extract (i + 1) s.size) (s.extract (i + 1) s.size).size = 0
        · refine ⟨0, 9, 2, bd0, .inr (.inr ⟨rfl, rfl, rfl⟩), fun W => ?_, fun W => parser_zero s i W hs hlt hn hb hL hR h0⟩
          exact parse_slash s _ _ (pzi (s.extract 0 i)) 0 9 0 1 W hs hc (fun W => readZ_yes _ W hl1 hL) hr1 hR h0 (fun W v1 v2 e1 e2 => ofZ_zero v1 v2 _ W e1 e2)
        · have T1 := pzi_tn hl1 hL
          have T2 : Tn (dec (s.extract (i + 1) s.size) (s.extract (i + 1) s.size).size) := ⟨_, hr1, dec_lt _ _ hR.dig⟩
          have h0' : ((dec (s.extract (i + 1) s.size) (s.extract (i + 1) s.size).size : Nat) : Int) ≠ 0 := by omega
          refine ⟨_, 0, 0, bd9_div h0' T1.wb (by rw [Int.natAbs_natCast]; exact T2.wb), .inl ⟨rfl, rfl⟩, fun W => ?_, fun W => parser_ok s i W hs hlt hn hb hL hR h0⟩
          exact parse_slash s _ _ (pzi (s.extract 0 i)) _ 0 _ _ W hs hc (fun W => readZ_yes _ W hl1 hL) hr1 hR rfl (fun W v1 v2 e1 e2 => ofzR v1 v2 _ _ W e1 e2 h0' T1.sz (by rw [Int.natAbs_natCast]; exact T2.sz))
      · refine ⟨0, 4, 1, bd0, .inr (.inl ⟨rfl, rfl, rfl⟩), fun W => ?_, fun W => parser_right s i W hs hlt hn hb hL hR⟩
        exact parse_back s _ _ (pzi (s.extract 0 i)) W hs (by omega) hR hc (fun W => readZ_yes _ W hl1 hL)
    · refine ⟨0, 4, 1, bd0, .inr (.inl ⟨rfl, rfl, rfl⟩), fun W => ?_, fun W => parser_left s i W hs hlt hn hb hL⟩
      exact parse_front s _ _ _ 4 W hs (by decide) hc (fun W => readZ_no _ W hl1 hL)
end Go.Proofs.YtjjomjjgoceklaaGreat
