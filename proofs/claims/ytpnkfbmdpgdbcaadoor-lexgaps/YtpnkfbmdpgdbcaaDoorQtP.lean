import Derived.Test.YtpnkfbmdpgdbcaaDoorEsP
import Derived.Lib.MapLaws
set_option linter.unusedVariables false
set_option linter.unusedSimpArgs false
namespace Go.Proofs.YtpnkfbmdpgdbcaaDoor
open Go.RowKit
namespace L
theorem bt_ge (s : ByteArray) (i : Nat) (h : s.size ≤ i) : bt s i = 0 := by
  unfold bt
  show (s.data[i]!).toNat = _
  rw [getElem!_neg s.data i (by have : s.data.size = s.size := rfl; omega)]
  rfl
theorem bt_right (s t : ByteArray) (i : Nat) (h : s.size ≤ i) : bt (s ++ t) i = bt t (i - s.size) := by
  have e : (s ++ t).size = s.size + t.size := ByteArray.size_append
  by_cases h2 : i < s.size + t.size
  · have h2' : i - s.size < t.data.size := by have : t.data.size = t.size := rfl; omega
    rw [bt_data t _ h2', bt_data (s ++ t) i (by have : (s ++ t).data.size = (s ++ t).size := rfl; omega)]
    simp only [ByteArray.data_append]
    rw [Array.getElem_append_right (show s.data.size ≤ i from h)]
    rfl
  · rw [bt_ge _ _ (by omega), bt_ge _ _ (by omega)]
theorem ext_size (s : ByteArray) (i j : Nat) (h : j ≤ s.size) : (s.extract i j).size = j - i := by rw [ByteArray.size_extract]; omega
theorem bt_ext (s : ByteArray) (i j t : Nat) (h : j ≤ s.size) (ht : t < j - i) : bt (s.extract i j) t = bt s (i + t) := by
  have h1 : t < (s.extract i j).data.size := by have : (s.extract i j).data.size = (s.extract i j).size := rfl; rw [this, ext_size s i j h]; exact ht
  have h2 : i + t < s.data.size := by have : s.data.size = s.size := rfl; omega
  rw [bt_data _ t h1, bt_data s _ h2]
  congr 1
  simp [ByteArray.data_extract]
theorem ba_eq {x y : ByteArray} (h : x.size = y.size) (hb : ∀ t, t < x.size → bt x t = bt y t) : x = y := by
  apply ByteArray.ext
  apply Array.ext
  · exact h
  · intro t h1 h2
    have := hb t h1
    rw [bt_data x t h1, bt_data y t h2] at this
    exact UInt8.toNat_inj.1 this
/-- no character stands there -/
def Inv (s : ByteArray) (i : Nat) : Prop := rn s i = 65533 ∧ wd s i = 1
theorem two_is {n b0 b1 b2 b3 : Nat} (h : b0 / 32 = 6) (hn : 1 < n) (h1 : b1 / 64 = 2) (hv : 128 ≤ b0 % 32 * 64 + b1 % 64) : Lib.decodeN n b0 b1 b2 b3 = (b0 % 32 * 64 + b1 % 64, 2) := by
  unfold Lib.decodeN
  rw [if_neg (by omega), if_pos ⟨h, hn, h1⟩, if_pos hv]
theorem three_is {n b0 b1 b2 b3 : Nat} (h : b0 / 16 = 14) (hn : 2 < n) (h1 : b1 / 64 = 2) (h2 : b2 / 64 = 2) (hv : 2048 ≤ b0 % 16 * 4096 + b1 % 64 * 64 + b2 % 64) (hs : b0 % 16 * 4096 + b1 % 64 * 64 + b2 % 64 < 55296 ∨ 57344 ≤ b0 % 16 * 4096 + b1 % 64 * 64 + b2 % 64) : Lib.decodeN n b0 b1 b2 b3 = (b0 % 16 * 4096 + b1 % 64 * 64 + b2 % 64, 3) := by
  unfold Lib.decodeN
  rw [if_neg (by omega), if_neg (by omega), if_pos ⟨h, ⟨by omega, h1⟩, hn, h2⟩, if_pos ⟨hv, by omega⟩]
theorem four_is {n b0 b1 b2 b3 : Nat} (h : b0 / 8 = 30) (hn : 3 < n) (h1 : b1 / 64 = 2) (h2 : b2 / 64 = 2) (h3 : b3 / 64 = 2) (hv : 65536 ≤ b0 % 8 * 262144 + b1 % 64 * 4096 + b2 % 64 * 64 + b3 % 64) (hs : b0 % 8 * 262144 + b1 % 64 * 4096 + b2 % 64 * 64 + b3 % 64 ≤ 1114111) : Lib.decodeN n b0 b1 b2 b3 = (b0 % 8 * 262144 + b1 % 64 * 4096 + b2 % 64 * 64 + b3 % 64, 4) := by
  unfold Lib.decodeN
  rw [if_neg (by omega), if_neg (by omega), if_neg (by omega), if_pos ⟨h, ⟨by omega, h1⟩, ⟨by omega, h2⟩, hn, h3⟩, if_pos ⟨hv, by omega⟩]
theorem one_is {n b0 b1 b2 b3 : Nat} (h : b0 < 128) : Lib.decodeN n b0 b1 b2 b3 = (b0, 1) := by
  unfold Lib.decodeN
  rw [if_pos h]
/-- bytes that agree as far as the character goes, and a small one behind -/
theorem decN_agree {n n' b0 b1 b2 b3 c1 c2 c3 m : Nat} (hm : 1 ≤ m) (hn : m ≤ n) (hn' : m + 1 ≤ n') (h1 : 2 ≤ m → c1 = b1) (h2 : 3 ≤ m → c2 = b2) (h3 : 4 ≤ m → c3 = b3) (e1 : m = 1 → c1 < 128) (e2 : m = 2 → c2 < 128) (e3 : m = 3 → c3 < 128) (hw : (Lib.decodeN n b0 b1 b2 b3).2 ≤ m) :
    Lib.decodeN n' b0 c1 c2 c3 = Lib.decodeN n b0 b1 b2 b3 := by
  rcases Lib.decodeN_shape n b0 b1 b2 b3 with ⟨c, e⟩ | ⟨a1, a2, a3, av, e⟩ | ⟨a1, a2, a3, a4, av, as_, e⟩ | ⟨a1, a2, a3, a4, a5, av, as_, e⟩ | e
  · rw [e]; exact one_is c
  · rw [e] at hw ⊢
    simp only at hw
    rw [h1 hw]
    exact two_is a1 (by omega) a3 av
  · rw [e] at hw ⊢
    simp only at hw
    rw [h1 (by omega), h2 hw]
    exact three_is a1 (by omega) a3 a4 av as_
  · rw [e] at hw ⊢
    simp only at hw
    rw [h1 (by omega), h2 (by omega), h3 hw]
    exact four_is a1 (by omega) a3 a4 a5 av as_
  · rw [e]
    rcases Lib.decodeN_shape n' b0 c1 c2 c3 with ⟨c, q⟩ | ⟨a1, a2, a3, av, q⟩ | ⟨a1, a2, a3, a4, av, as_, q⟩ | ⟨a1, a2, a3, a4, a5, av, as_, q⟩ | q
    · rw [one_is c] at e
      simp only [Prod.mk.injEq] at e
      omega
    · have hm2 : 2 ≤ m := by
        rcases Nat.lt_or_ge m 2 with y | y
        · have := e1 (by omega); omega
        · exact y
      rw [h1 hm2] at a3 av
      rw [two_is a1 (by omega) a3 av] at e
      simp at e
    · have hm2 : 2 ≤ m := by
        rcases Nat.lt_or_ge m 2 with y | y
        · have := e1 (by omega); omega
        · exact y
      have hm3 : 3 ≤ m := by
        rcases Nat.lt_or_ge m 3 with y | y
        · have := e2 (by omega); omega
        · exact y
      rw [h1 hm2] at a3 av as_
      rw [h2 hm3] at a4 av as_
      rw [three_is a1 (by omega) a3 a4 av as_] at e
      simp at e
    · have hm2 : 2 ≤ m := by
        rcases Nat.lt_or_ge m 2 with y | y
        · have := e1 (by omega); omega
        · exact y
      have hm3 : 3 ≤ m := by
        rcases Nat.lt_or_ge m 3 with y | y
        · have := e2 (by omega); omega
        · exact y
      have hm4 : 4 ≤ m := by
        rcases Nat.lt_or_ge m 4 with y | y
        · have := e3 (by omega); omega
        · exact y
      rw [h1 hm2] at a3 av as_
      rw [h2 hm3] at a4 av as_
      rw [h3 hm4] at a5 av as_
      rw [four_is a1 (by omega) a3 a4 a5 av as_] at e
      simp at e
    · exact q
theorem dec_agree {s a : ByteArray} {p i m : Nat} (hm : 1 ≤ m) (hb : ∀ t, t < m → bt s (p + t) = bt a (i + t)) (hi : i + m ≤ a.size) (hs : p + m < s.size) (ha : bt s (p + m) < 128) (hw : wd a i ≤ m) : rn s p = rn a i ∧ wd s p = wd a i := by
  have e : Lib.decodeN (s.size - p) (bt s p) (bt s (p + 1)) (bt s (p + 2)) (bt s (p + 3)) = Lib.decodeN (a.size - i) (bt a i) (bt a (i + 1)) (bt a (i + 2)) (bt a (i + 3)) := by
    have h0 := hb 0 (by omega)
    rw [Nat.add_zero, Nat.add_zero] at h0
    rw [h0]
    rw [wd_eq] at hw
    refine decN_agree (m := m) hm (by omega) (by omega) (fun h => hb 1 (by omega)) (fun h => hb 2 (by omega)) (fun h => hb 3 (by omega)) (fun h => ?_) (fun h => ?_) (fun h => ?_) hw
    · rw [h] at ha; exact ha
    · rw [h] at ha; exact ha
    · rw [h] at ha; exact ha
  exact ⟨by rw [rn_eq, rn_eq, e], by rw [wd_eq, wd_eq, e]⟩
theorem shape (s : ByteArray) (i : Nat) (hv : ¬ Inv s i) : Lib.validRune (rn s i) = true := by
  have k0 := bt_lt s i
  have k1 := bt_lt s (i + 1)
  have k2 := bt_lt s (i + 2)
  have k3 := bt_lt s (i + 3)
  unfold Inv at hv
  rw [rn_eq, wd_eq] at hv
  rw [rn_eq]
  unfold Lib.validRune
  rw [decide_eq_true_eq]
  rcases Lib.decodeN_shape (s.size - i) (bt s i) (bt s (i + 1)) (bt s (i + 2)) (bt s (i + 3)) with ⟨c, e⟩ | ⟨a1, a2, a3, av, e⟩ | ⟨a1, a2, a3, a4, av, as_, e⟩ | ⟨a1, a2, a3, a4, a5, av, as_, e⟩ | e
  · rw [e]; simp only; omega
  · rw [e]; simp only; omega
  · rw [e]; simp only; omega
  · rw [e]; simp only; omega
  · rw [e] at hv; exact absurd ⟨rfl, rfl⟩ hv
theorem of_get (s : ByteArray) (i n : Nat) (h : n = bt s i) : UInt8.ofNat n = s.get! i := by
  subst h
  unfold bt
  simp
theorem bt_arr (D : List UInt8) (i : Nat) (h : i < D.length) : bt ⟨D.toArray⟩ i = (D.getD i 0).toNat := bt_list D i h
theorem lst1 (s : ByteArray) (i : Nat) : (⟨#[s.get! i]⟩ : ByteArray) = ⟨((List.range 1).map fun j => s.get! (i + j)).toArray⟩ := rfl
theorem lst2 (s : ByteArray) (i : Nat) : (⟨#[s.get! i, s.get! (i + 1)]⟩ : ByteArray) = ⟨((List.range 2).map fun j => s.get! (i + j)).toArray⟩ := rfl
theorem lst3 (s : ByteArray) (i : Nat) : (⟨#[s.get! i, s.get! (i + 1), s.get! (i + 2)]⟩ : ByteArray) = ⟨((List.range 3).map fun j => s.get! (i + j)).toArray⟩ := rfl
theorem lst4 (s : ByteArray) (i : Nat) : (⟨#[s.get! i, s.get! (i + 1), s.get! (i + 2), s.get! (i + 3)]⟩ : ByteArray) = ⟨((List.range 4).map fun j => s.get! (i + j)).toArray⟩ := rfl
/-- a character is written as it was read -/
theorem enc_dec (s : ByteArray) (i : Nat) (hi : i < s.size) (hv : ¬ Inv s i) : Utf8.encode (rn s i) = s.extract i (i + wd s i) := by
  have k0 := bt_lt s i
  have k1 := bt_lt s (i + 1)
  have k2 := bt_lt s (i + 2)
  have k3 := bt_lt s (i + 3)
  have hvr := shape s i hv
  have hin := wd_in s i hi
  unfold Inv at hv
  have hval : Utf8.valid (rn s i) = true := by
    unfold Lib.validRune at hvr
    rw [decide_eq_true_eq] at hvr
    simp [Utf8.valid]
    omega
  unfold Utf8.encode
  simp only [hval, if_true]
  rw [rn_eq, wd_eq] at hv ⊢
  rw [wd_eq] at hin
  have lst : ∀ n, i + n ≤ s.size → s.extract i (i + n) = ⟨((List.range n).map fun j => s.get! (i + j)).toArray⟩ := fun n hn => by
    refine ba_eq (by rw [ext_size _ _ _ hn]; show _ = ((List.range n).map fun j => s.get! (i + j)).toArray.size; simp) (fun t ht => ?_)
    rw [ext_size _ _ _ hn] at ht
    have ht' : t < n := by omega
    have e := bt_arr ((List.range n).map fun j => s.get! (i + j)) t (by simpa using ht')
    rw [bt_ext _ _ _ _ hn ht, e]
    simp [List.getD_eq_getElem?_getD, ht']
    rfl
  rcases Lib.decodeN_shape (s.size - i) (bt s i) (bt s (i + 1)) (bt s (i + 2)) (bt s (i + 3)) with ⟨c, e⟩ | ⟨a1, a2, a3, av, e⟩ | ⟨a1, a2, a3, a4, av, as_, e⟩ | ⟨a1, a2, a3, a4, a5, av, as_, e⟩ | e
  · rw [e] at hin ⊢
    simp only [Int.toNat_natCast] at hin ⊢
    rw [if_pos (by omega), lst 1 hin]
    rw [of_get s i _ rfl]
    exact lst1 s i
  · rw [e] at hin ⊢
    simp only [Int.toNat_natCast] at hin ⊢
    rw [if_neg (by omega), if_pos (by omega), lst 2 hin]
    rw [of_get s i _ (by omega), of_get s (i + 1) _ (by omega)]
    exact lst2 s i
  · rw [e] at hin ⊢
    simp only [Int.toNat_natCast] at hin ⊢
    rw [if_neg (by omega), if_neg (by omega), if_pos (by omega), lst 3 hin]
    rw [of_get s i _ (by omega), of_get s (i + 1) _ (by omega), of_get s (i + 2) _ (by omega)]
    exact lst3 s i
  · rw [e] at hin ⊢
    simp only [Int.toNat_natCast] at hin ⊢
    rw [if_neg (by omega), if_neg (by omega), if_neg (by omega), lst 4 hin]
    rw [of_get s i _ (by omega), of_get s (i + 1) _ (by omega), of_get s (i + 2) _ (by omega), of_get s (i + 3) _ (by omega)]
    exact lst4 s i
  · rw [e] at hv; exact absurd ⟨rfl, rfl⟩ hv
end L
end Go.Proofs.YtpnkfbmdpgdbcaaDoor
