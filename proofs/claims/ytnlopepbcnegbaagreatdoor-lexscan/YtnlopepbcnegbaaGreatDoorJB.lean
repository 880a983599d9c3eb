import Derived.Test.YtnlopepbcnegbaaGreatDoorJA
import Derived.Laws.IdiomStrings
import Derived.Deep.CutBlock
import Derived.Deep.DeepCutAuto
set_option linter.unusedVariables false
set_option linter.unusedSimpArgs false
namespace Go.Proofs.YtnlopepbcnegbaaGreatDoor
open Go.RowKit
/-- a digit's value to the base 16; -1: it is none -/
def hxv (r : Int) : Int := if 48 ≤ r ∧ r ≤ 57 then r - 48 else if 97 ≤ r ∧ r ≤ 102 then r - 87 else if 65 ≤ r ∧ r ≤ 70 then r - 55 else -1
theorem ret_int {a b : Int} (h : a = b) : Ending.returned (.int .i64 a) = .returned (.int .i64 b) := by rw [h]
set_option maxRecDepth 100000 in
set_option maxHeartbeats 1000000 in
theorem rhex_any (S : ByteArray) (w : World) : Calls Tryz.prog 82 #[.string S] w fun e w' => e = .returned (.int .i64 (hxv (ob S))) ∧ w' = w := by
  by_cases h : S.size = 1
  · have h0 : 0 < S.size := by omega
    have hb := df_bt S 0 h0
    have hb2 := L.bt_lt S 0
    have ho : ob S = (L.bt S 0 : Int) := by unfold ob; rw [if_pos h]
    rw [ho]
    generalize L.bt S 0 = b at *
    have hw : IntKind.i64.wrap (b : Int) = (b : Int) := by rw [IntKind.wrap_i64]; omega
    have hw1 : 48 ≤ b → wrap64 ((b : Int) - 48) = (b : Int) - 48 := by intro q; unfold wrap64; omega
    clear ho
    go_enter Tryz.func82, Tryz.ntmps82
    go_wp2
    all_goals go_ret
    all_goals refine ⟨ret_int ?_, rfl⟩
    all_goals unfold hxv
    all_goals clear hw hw1
    all_goals (repeat' split)
    all_goals omega
  · have ho : ob S = -1 := by unfold ob; rw [if_neg h]
    rw [ho]
    clear ho
    have h1 : ¬ (S.size : Int) = 1 := by omega
    go_enter Tryz.func82, Tryz.ntmps82
    go_wp2
    all_goals go_ret
    all_goals exact ⟨rfl, rfl⟩
set_option maxRecDepth 100000 in
set_option maxHeartbeats 2000000 in
theorem rnumeral_any (S : ByteArray) (w : World) (hs : S.size ≤ 65536) : Calls Tryz.prog 44 #[.string S] w fun e w' => e = .returned (.bool (L.isNum S)) ∧ w' = w := by
  have hn := L.isNum_eq S
  by_cases h48 : S.toList = [48]
  · have z : L.isNum S = true := by rw [hn, h48]; simp
    rw [z]
    clear hn z
    go_enter Tryz.func44, Tryz.ntmps44
    go_wp2
    all_goals go_ret
    all_goals exact ⟨rfl, rfl⟩
  by_cases h49 : S.toList = [49]
  · have z : L.isNum S = true := by rw [hn, h49]; simp
    rw [z]
    clear hn z
    go_enter Tryz.func44, Tryz.ntmps44
    go_wp2
    all_goals go_ret
    all_goals exact ⟨rfl, rfl⟩
  have q48 : (S.toList == [48]) = false := by simpa using h48
  have q49 : (S.toList == [49]) = false := by simpa using h49
  rw [q48, q49, Bool.false_or, Bool.false_or] at hn
  by_cases h3 : S.size < 3
  · have z : L.isNum S = false := by rw [hn, decide_eq_false (by omega)]; rfl
    have h3' : (S.size : Int) < 3 := by omega
    rw [z]
    clear hn z
    go_enter Tryz.func44, Tryz.ntmps44
    go_wp2
    all_goals go_ret
    all_goals exact ⟨rfl, rfl⟩
  by_cases h11 : 11 < S.size
  · have z : L.isNum S = false := by rw [hn, decide_eq_false (show ¬ S.size ≤ 11 by omega)]; simp
    have h3' : ¬ (S.size : Int) < 3 := by omega
    have h11' : (11 : Int) < (S.size : Int) := by omega
    rw [z]
    clear hn z
    go_enter Tryz.func44, Tryz.ntmps44
    go_wp2
    all_goals go_ret
    all_goals exact ⟨rfl, rfl⟩
  have h3' : ¬ (S.size : Int) < 3 := by omega
  have h11' : ¬ (11 : Int) < (S.size : Int) := by omega
  have p0 : 0 < S.size := by omega
  have p1 : 1 < S.size := by omega
  have e0 := df_bt S 0 p0
  have e1 := df_bt S 1 p1
  rw [decide_eq_true (show 3 ≤ S.size by omega), decide_eq_true (show S.size ≤ 11 by omega), Bool.true_and, Bool.true_and] at hn
  by_cases b0 : L.bt S 0 = 48
  · by_cases b1 : L.bt S 1 = 46
    · rw [decide_eq_true b0, decide_eq_true b1, Bool.true_and, Bool.true_and] at hn
      rw [b0] at e0
      rw [b1] at e1
      have HN := hide' hn
      have p1' : (1 : Int) < (S.size : Int) := by omega
      obtain ⟨v, hv⟩ : ∃ v, v = L.isNum S := ⟨_, rfl⟩
      have HV := hide' hv
      rw [← hv]
      clear hn hv b0 b1
      go_enter Tryz.func44, Tryz.ntmps44
      go_wp2_with fail
      go_loopw [3] (fun iv wx => ∃ (k : Nat) (V : World), V = wx ∧ iv = .int .i64 (k : Int) ∧ 2 ≤ k ∧ k ≤ S.size ∧ (∀ j, j < k → 2 ≤ j → 48 ≤ L.bt S j ∧ L.bt S j ≤ 57) ∧ V = w) (fun iv _ => S.size - (intOf iv).toNat)
      case atStart => exact ⟨2, _, rfl, rfl, Nat.le_refl _, by omega, fun j a b => by omega, rfl⟩
      case round =>
        obtain ⟨k, V, rfl, rfl, h2, hk, hall, rfl⟩ := hrel
        have HA := hide' (And.intro h2 hall)
        by_cases hlt : k < S.size
        · have hlt' : (k : Int) < (S.size : Int) := by omega
          have ek := df_bt S k hlt
          have ek1 : wrap64 ((k : Int) + 1) = ((k + 1 : Nat) : Int) := by unfold wrap64; omega
          have Hlt := hide' hlt
          obtain ⟨b, hb⟩ : ∃ b, b = L.bt S k := ⟨_, rfl⟩
          have Hb := hide' hb
          rw [← hb] at ek
          clear hb hall hk h2
          by_cases d : 48 ≤ b ∧ b ≤ 57
          · have d1 : ¬ (b : Int) < 48 := by clear ek1; omega
            have d2 : ¬ (57 : Int) < (b : Int) := by clear ek1; omega
            have Hd := hide' d
            clear d
            go_wp2_with fail
            refine ⟨⟨k + 1, _, rfl, rfl, Nat.le_succ_of_le HA.out.1, Hlt.out, fun j h1 h2 => ?_, rfl⟩, ?_⟩
            · by_cases q : j = k
              · subst q; rw [← Hb.out]; exact Hd.out
              · exact HA.out.2 j (by clear ek1; omega) h2
            · show S.size - ((k : Int) + 1).toNat < S.size - ((k : Int)).toNat
              have := Hlt.out
              clear ek1
              omega
          · have Hd := hide' d
            have hfalse : v = false := by
              rw [HV.out, HN.out]
              exact decide_eq_false (fun q => Hd.out (by rw [Hb.out]; exact q k Hlt.out HA.out.1))
            have Hf := hide' hfalse
            clear hfalse
            by_cases d1 : b < 48
            · have d1' : (b : Int) < 48 := by clear ek1; omega
              clear d
              go_wp2_with fail
              go_ret
              exact ⟨by rw [Hf.out]; rfl, rfl⟩
            · have d1' : ¬ (b : Int) < 48 := by clear ek1; omega
              have d2 : (57 : Int) < (b : Int) := by clear ek1; omega
              clear d d1
              go_wp2_with fail
              go_ret
              exact ⟨by rw [Hf.out]; rfl, rfl⟩
        · have hlt' : ¬ (k : Int) < (S.size : Int) := by omega
          have htrue : v = true := by
            rw [HV.out, HN.out]
            exact decide_eq_true (fun j h1 h2 => HA.out.2 j (by omega) h2)
          have Hf := hide' htrue
          clear htrue
          go_wp2_with fail
          go_ret
          exact ⟨by rw [Hf.out]; rfl, rfl⟩
    · have z : L.isNum S = false := by rw [hn, decide_eq_false b1]; simp
      have n1 : ¬ (L.bt S 1 : Int) = 46 := by omega
      rw [b0] at e0
      rw [z]
      clear hn z
      go_enter Tryz.func44, Tryz.ntmps44
      go_wp2
      all_goals go_ret
      all_goals exact ⟨rfl, rfl⟩
  · have z : L.isNum S = false := by rw [hn, decide_eq_false b0]; rfl
    have n0 : ¬ (L.bt S 0 : Int) = 48 := by omega
    rw [z]
    clear hn z
    go_enter Tryz.func44, Tryz.ntmps44
    go_wp2
    all_goals go_ret
    all_goals exact ⟨rfl, rfl⟩
end Go.Proofs.YtnlopepbcnegbaaGreatDoor
set_option linter.unusedVariables false
set_option linter.unusedSimpArgs false
namespace Go.Proofs.YtnlopepbcnegbaaGreatDoor
open Go.RowKit
/-- new bytes as a text -/
theorem conv_new (w : World) (l : List UInt8) (n : Nat) (hn : n = l.length) (cs : Array Value) (hcs : cs = (l.map fun c => Value.int .u8 (c.toNat : Int)).toArray) (g : Nat) (hg : g = w.heap.size) :
    (convert 128 9 (.slice (some ⟨g, 0, none⟩) n n)).run Tryz.prog (w.alloc (.cells cs 5)) = .ok (.string ⟨l.toArray⟩) (w.alloc (.cells cs 5)) := by
  subst hn hg hcs
  refine run_convert_bytes_back (P := Tryz.prog) _ 128 9 5 ⟨w.heap.size, 0, none⟩ l.length l Tryz.underlying128 Tryz.underlying5 Tryz.underlying9 (fun j hj => ?_)
  have hh := heap_alloc_new w (.cells (l.map fun c => Value.int .u8 (c.toNat : Int)).toArray 5)
  have := World.news_of_block hh j (.int .u8 (l[j].toNat : Int)) (by simp [hj])
  exact this
theorem ob_toNat (n : Nat) (h : n < 256) : ((UInt8.ofNat n).toNat : Int) = (n : Int) := by
  have : (UInt8.ofNat n).toNat = n := by simp [Nat.mod_eq_of_lt h]
  rw [this]
theorem enc_1 (n : Nat) (h : n < 128) : Utf8.encode (n : Int) = ⟨[UInt8.ofNat n].toArray⟩ := by
  have hv : Utf8.valid (n : Int) = true := by simp [Utf8.valid]; omega
  unfold Utf8.encode
  simp only [hv, if_true, Int.toNat_natCast]
  rw [if_pos h]
theorem enc_2 (n : Nat) (h : 128 ≤ n) (h2 : n < 2048) : Utf8.encode (n : Int) = ⟨[UInt8.ofNat (192 + n / 64), UInt8.ofNat (128 + n % 64)].toArray⟩ := by
  have hv : Utf8.valid (n : Int) = true := by simp [Utf8.valid]; omega
  unfold Utf8.encode
  simp only [hv, if_true, Int.toNat_natCast]
  rw [if_neg (by omega), if_pos h2]
theorem enc_3 (n : Nat) (h : 2048 ≤ n) (h2 : n < 65536) (hs : n < 55296 ∨ 57344 ≤ n) : Utf8.encode (n : Int) = ⟨[UInt8.ofNat (224 + n / 4096), UInt8.ofNat (128 + n / 64 % 64), UInt8.ofNat (128 + n % 64)].toArray⟩ := by
  have hv : Utf8.valid (n : Int) = true := by simp [Utf8.valid]; omega
  unfold Utf8.encode
  simp only [hv, if_true, Int.toNat_natCast]
  rw [if_neg (by omega), if_neg (by omega), if_pos h2]
theorem enc_4 (n : Nat) (h : 65536 ≤ n) (h2 : n ≤ 1114111) : Utf8.encode (n : Int) = ⟨[UInt8.ofNat (240 + n / 262144), UInt8.ofNat (128 + n / 4096 % 64), UInt8.ofNat (128 + n / 64 % 64), UInt8.ofNat (128 + n % 64)].toArray⟩ := by
  have hv : Utf8.valid (n : Int) = true := by simp [Utf8.valid]; omega
  unfold Utf8.encode
  simp only [hv, if_true, Int.toNat_natCast]
  rw [if_neg (by omega), if_neg (by omega), if_neg (by omega)]
theorem u8w {z : Int} (h : 0 ≤ z ∧ z < 256) : IntKind.u8.wrap z = z := by
  simp [IntKind.wrap, IntKind.bits, IntKind.signed]
  omega
theorem wI {z : Int} (h : 0 ≤ z ∧ z ≤ 1114400) : wrap64 z = z := by unfold wrap64; omega
theorem bI (k : Int) {a : Nat} (hk : 0 ≤ k ∧ k ≤ 240) (h : k + (a : Int) < 256) : IntKind.u8.wrap (k + (a : Int)) = k + (a : Int) ∧ wrap64 (k + (a : Int)) = k + (a : Int) := ⟨u8w ⟨by omega, h⟩, wI ⟨by omega, by omega⟩⟩
set_option maxRecDepth 100000 in
set_option maxHeartbeats 2000000 in
theorem rletterOf_any (n : Nat) (h : n ≤ 1114111) (hs : n < 55296 ∨ 57344 ≤ n) (w : World) : Calls Tryz.prog 83 #[.int .i64 (n : Int)] w fun e w' => e = .returned (.string (Utf8.encode (n : Int))) ∧ Below w.heap.size w w' := by
  by_cases h1 : n < 128
  · have h1' : (n : Int) < 128 := by omega
    have hw := u8w (z := (n : Int)) (by omega)
    have e := enc_1 n h1
    have hc := conv_new w [UInt8.ofNat n] 1 rfl #[.int .u8 (n : Int)] (by simp only [List.map_cons, List.map_nil, ob_toNat n (by omega)]) w.heap.size rfl
    generalize Utf8.encode (n : Int) = E at *
    rw [← e] at hc
    clear e
    go_enter Tryz.func83, Tryz.ntmps83
    go_wp2
    go_ret
    exact ⟨rfl, (Below.refl _ _).alloc (Nat.le_refl _) _⟩
  have h1' : ¬ (n : Int) < 128 := by omega
  by_cases h2 : n < 2048
  · have h2' : (n : Int) < 2048 := by omega
    have e := enc_2 n (by omega) h2
    obtain ⟨a, ha⟩ : ∃ a, a = n / 64 := ⟨_, rfl⟩
    obtain ⟨b, hb⟩ : ∃ b, b = n % 64 := ⟨_, rfl⟩
    have q1 : (n : Int) / 64 = (a : Int) := by omega
    have q2 : (n : Int) % 64 = (b : Int) := by omega
    have a1 : 192 + a < 256 := by omega
    have b1 : 128 + b < 256 := by omega
    rw [← ha, ← hb] at e
    have w1 := u8w (z := 192 + (a : Int)) (by omega)
    have w2 := u8w (z := 128 + (b : Int)) (by omega)
    have w3 : wrap64 (192 + (a : Int)) = 192 + (a : Int) := by unfold wrap64; omega
    have w4 : wrap64 (128 + (b : Int)) = 128 + (b : Int) := by unfold wrap64; omega
    have w5 : wrap64 (a : Int) = (a : Int) := by unfold wrap64; omega
    have hc := conv_new w [UInt8.ofNat (192 + a), UInt8.ofNat (128 + b)] 2 rfl #[.int .u8 (192 + (a : Int)), .int .u8 (128 + (b : Int))] (by simp only [List.map_cons, List.map_nil, ob_toNat _ a1, ob_toNat _ b1]; rfl) w.heap.size rfl
    generalize Utf8.encode (n : Int) = E at *
    rw [← e] at hc
    clear e ha hb
    go_enter Tryz.func83, Tryz.ntmps83
    go_wp2
    go_ret
    exact ⟨rfl, (Below.refl _ _).alloc (Nat.le_refl _) _⟩
  have h2' : ¬ (n : Int) < 2048 := by omega
  by_cases h3 : n < 65536
  · have h3' : (n : Int) < 65536 := by omega
    have e := enc_3 n (by omega) h3 hs
    have a1 : 224 + n / 4096 < 256 := by omega
    have b1 : 128 + n % 64 < 256 := by omega
    have c1 : 128 + n / 64 % 64 < 256 := by omega
    have e1 : (224 + (n : Int) / 4096) = ((224 + n / 4096 : Nat) : Int) := by omega
    have e2 : (128 + (n : Int) / 64 % 64) = ((128 + n / 64 % 64 : Nat) : Int) := by omega
    have e3 : (128 + (n : Int) % 64) = ((128 + n % 64 : Nat) : Int) := by omega
    have hc := hide' (conv_new w [UInt8.ofNat (224 + n / 4096), UInt8.ofNat (128 + n / 64 % 64), UInt8.ofNat (128 + n % 64)] 3 rfl #[.int .u8 (224 + (n : Int) / 4096), .int .u8 (128 + (n : Int) / 64 % 64), .int .u8 (128 + (n : Int) % 64)] (by rw [e1, e2, e3]; simp only [List.map_cons, List.map_nil, ob_toNat _ a1, ob_toNat _ b1, ob_toNat _ c1]) w.heap.size rfl)
    generalize Utf8.encode (n : Int) = E at *
    rw [← e] at hc
    clear e a1 b1 c1 e1 e2 e3 h hs h1 h2 h3
    go_enter Tryz.func83, Tryz.ntmps83
    go_upto_region 6 with fail
    iterate 40 (first | go_values | go_skip | go_guarded | go_step | go_upon)
    have hc' := hc.out
    generalize (224 + (n : Int) / 4096) = x1 at *
    generalize (128 + (n : Int) / 64 % 64) = x2 at *
    generalize (128 + (n : Int) % 64) = x3 at *
    generalize (n : Int) / 4096 = x4 at *
    generalize (n : Int) / 64 % 64 = x5 at *
    generalize (n : Int) / 64 = x6 at *
    generalize (n : Int) % 64 = x7 at *
    clear hc
    go_wp2
    go_ret
    exact ⟨rfl, (Below.refl _ _).alloc (Nat.le_refl _) _⟩
  have h3' : ¬ (n : Int) < 65536 := by omega
  have hb' : (n : Int) ≤ 1114111 := by omega
  have e := enc_4 n (by omega) h
  have a1 : 240 + n / 262144 < 256 := by omega
  have b1 : 128 + n % 64 < 256 := by omega
  have c1 : 128 + n / 64 % 64 < 256 := by omega
  have g1 : 128 + n / 4096 % 64 < 256 := by omega
  have e1 : (240 + (n : Int) / 262144) = ((240 + n / 262144 : Nat) : Int) := by omega
  have e2 : (128 + (n : Int) / 64 % 64) = ((128 + n / 64 % 64 : Nat) : Int) := by omega
  have e3 : (128 + (n : Int) % 64) = ((128 + n % 64 : Nat) : Int) := by omega
  have e4 : (128 + (n : Int) / 4096 % 64) = ((128 + n / 4096 % 64 : Nat) : Int) := by omega
  have hc := hide' (conv_new w [UInt8.ofNat (240 + n / 262144), UInt8.ofNat (128 + n / 4096 % 64), UInt8.ofNat (128 + n / 64 % 64), UInt8.ofNat (128 + n % 64)] 4 rfl #[.int .u8 (240 + (n : Int) / 262144), .int .u8 (128 + (n : Int) / 4096 % 64), .int .u8 (128 + (n : Int) / 64 % 64), .int .u8 (128 + (n : Int) % 64)] (by rw [e1, e2, e3, e4]; simp only [List.map_cons, List.map_nil, ob_toNat _ a1, ob_toNat _ b1, ob_toNat _ c1, ob_toNat _ g1]) w.heap.size rfl)
  generalize Utf8.encode (n : Int) = E at *
  rw [← e] at hc
  clear e a1 b1 c1 g1 e1 e2 e3 e4 h hs h1 h2 h3
  go_enter Tryz.func83, Tryz.ntmps83
  go_upto_region 7 with fail
  iterate 60 (first | go_values | go_skip | go_guarded | go_step | go_upon)
  have hc' := hc.out
  generalize (240 + (n : Int) / 262144) = x1 at *
  generalize (128 + (n : Int) / 64 % 64) = x2 at *
  generalize (128 + (n : Int) % 64) = x3 at *
  generalize (128 + (n : Int) / 4096 % 64) = x8 at *
  generalize (n : Int) / 262144 = x4 at *
  generalize (n : Int) / 4096 % 64 = x9 at *
  generalize (n : Int) / 4096 = x10 at *
  generalize (n : Int) / 64 % 64 = x5 at *
  generalize (n : Int) / 64 = x6 at *
  generalize (n : Int) % 64 = x7 at *
  clear hc
  go_wp2
  go_ret
  exact ⟨rfl, (Below.refl _ _).alloc (Nat.le_refl _) _⟩
end Go.Proofs.YtnlopepbcnegbaaGreatDoor
set_option linter.unusedVariables false
set_option linter.unusedSimpArgs false
namespace Go.Proofs.YtnlopepbcnegbaaGreatDoor
open Go.RowKit
namespace L
theorem hexN_snoc (l : List UInt8) (c : UInt8) : ∀ acc, hexN acc (l ++ [c]) = hexN acc l * 16 + hv c.toNat := by
  induction l with
  | nil => intro acc; rfl
  | cons x l ih => intro acc; rw [List.cons_append]; exact ih _
end L
theorem hxv_is {r : Int} (h : L.isHex r = true) : 0 ≤ hxv r ∧ hxv r < 16 ∧ hxv r = (L.hv (UInt8.ofNat r.toNat).toNat : Int) := by
  unfold L.isHex L.isDigit at h
  simp only [Bool.or_eq_true, Bool.and_eq_true, decide_eq_true_eq] at h
  have e : (UInt8.ofNat r.toNat).toNat = r.toNat := by simp; omega
  rw [e]
  unfold hxv L.hv
  rcases h with h | h | h
  · rw [if_pos h, if_pos (by omega)]; omega
  · rw [if_neg (by omega), if_pos h, if_neg (by omega), if_neg (by omega)]; omega
  · rw [if_neg (by omega), if_neg (by omega), if_pos h, if_neg (by omega), if_pos (by omega)]; omega
theorem hxv_no {r : Int} (h : L.isHex r = false) : hxv r = -1 := by
  unfold L.isHex L.isDigit at h
  simp only [Bool.or_eq_false_iff, Bool.and_eq_false_iff, decide_eq_false_iff_not] at h
  unfold hxv
  rw [if_neg (by omega), if_neg (by omega), if_neg (by omega)]
theorem Rl.hxv {S : ByteArray} {r : Int} (h : Rl S r) : hxv (ob S) = hxv r := by
  have hh := h.hex
  cases q : L.isHex r
  · rw [q] at hh
    rw [hxv_no q, hxv_no hh]
  · rcases h with ⟨_, h⟩ | ⟨h, _⟩
    · rw [h]
    · unfold L.isHex L.isDigit at q
      simp only [Bool.or_eq_true, Bool.and_eq_true, decide_eq_true_eq] at q
      omega
theorem hexV_snoc (T : Tx) (a m : Nat) : L.hexV (T.rs a (m + 1)) = L.hexV (T.rs a m) * 16 + L.hv (UInt8.ofNat (T.g (a + m)).r.toNat).toNat := by
  unfold Tx.rs L.hexV
  rw [List.range_succ, List.map_append, List.map_append, List.map_cons, List.map_nil, List.map_cons, List.map_nil, L.hexN_snoc]
/-- what an escape stands for, and how many characters it has -/
def escA (T : Tx) (i : Nat) : ByteArray × Int := match T.esc i with | some (t, j) => (t, (j : Int) - (i : Int)) | none => (ByteArray.empty, 0)
theorem escA_some {T : Tx} {i j : Nat} {t : ByteArray} (h : T.esc i = some (t, j)) : escA T i = (t, (j : Int) - (i : Int)) := by unfold escA; rw [h]
theorem escA_none {T : Tx} {i : Nat} (h : T.esc i = none) : escA T i = (ByteArray.empty, 0) := by unfold escA; rw [h]
theorem S_txt {T : Tx} {s : ByteArray} (hs : T.s = s) (G : L.Good s T.C T.N 0 (1, 1)) {k : Nat} (hk : k < T.N) : T.txt k (k + 1) = (T.g k).S := by
  have e : (T.g k).S = s.extract (T.g k).a (T.g (k + 1)).a := (G.step k hk).2.2.1
  unfold Tx.txt
  rw [hs, e]
theorem vr_iff {n : Nat} : Lib.validRune (n : Int) = true ↔ n ≤ 1114111 ∧ (n < 55296 ∨ 57344 ≤ n) := by
  unfold Lib.validRune
  rw [decide_eq_true_eq]
  omega
theorem numd_of {T : Tx} {i K : Nat} (h1 : (T.g i).r = 123) (hK : T.skp L.isHex (i + 1) = K) (hk : i + 1 ≤ K) : T.numd i = if K - (i + 1) < 1 ∨ 6 < K - (i + 1) ∨ (T.g K).r ≠ 125 then none else if Lib.validRune (L.hexV (T.rs (i + 1) (K - (i + 1)))) then some (Utf8.encode (L.hexV (T.rs (i + 1) (K - (i + 1)))), K + 1) else none := by
  unfold Tx.numd
  rw [if_neg (by rw [h1]; decide), hK]
theorem wadd {i k : Nat} (hi : i ≤ 65536) (hk : k ≤ 16) : wrap64 ((i : Int) + (k : Int)) = ((i + k : Nat) : Int) := by unfold wrap64; omega
theorem wsub {i k : Nat} (hi : i ≤ k) (hk : k ≤ 131072) : wrap64 ((k : Int) - (i : Int)) = (k : Int) - (i : Int) := by unfold wrap64; omega
theorem wmul {n : Nat} (h : n ≤ 16777216) : wrap64 ((n : Int) * 16) = ((n * 16 : Nat) : Int) := by unfold wrap64; omega
theorem waddh {n : Nat} {v : Int} (h : n ≤ 268435456) (hv : 0 ≤ v ∧ v < 16) : wrap64 ((n : Int) + v) = (n : Int) + v := by unfold wrap64; omega
set_option maxRecDepth 100000 in
set_option maxHeartbeats 2000000 in
/-- an escape that is none by its first signs, or a sign that is escaped -/
theorem rescape_short {T : Tx} {s : ByteArray} (hs : T.s = s) (G : L.Good s T.C T.N 0 (1, 1)) (hN : T.N ≤ 65536) {g cap i : Nat} {w : World} (hC : Chs T g w) (hi : i < T.N) (hno : ¬ ((T.g (i + 1)).r = 117 ∧ (T.g (i + 2)).r = 123)) :
    Calls Tryz.prog 65 #[.slice (some ⟨g, 0, none⟩) (T.N + 1) cap, .int .i64 (i : Int)] w fun e w' => e = .returned (.tuple #[.string (escA T i).1, .int .i64 (escA T i).2]) ∧ Below w.heap.size w w' := by
  have h1 : i + 1 ≤ T.N := hi
  obtain ⟨y0, _, _, _⟩ := hC.at_ (i + 1) h1
  have hR := rl_at G h1
  have ek1 : wrap64 ((i : Int) + 1) = ((i + 1 : Nat) : Int) := wadd (k := 1) (by omega) (by omega)
  have ek2 : wrap64 ((i : Int) + 2) = ((i + 2 : Nat) : Int) := wadd (k := 2) (by clear ek1; omega) (by omega)
  have il1 : ((i + 1 : Nat) : Int) < ((T.N + 1 : Nat) : Int) := Int.ofNat_lt.2 (by clear ek1 ek2; omega)
  by_cases q : (T.g (i + 1)).r = 34 ∨ (T.g (i + 1)).r = 92
  · have hlt : i + 1 < T.N := lt_r G h1 (by rcases q with q | q <;> (rw [q]; decide))
    have he : T.esc i = some ((T.g (i + 1)).S, i + 2) := by
      unfold Tx.esc
      rw [if_pos q, S_txt hs G hlt]
    rw [escA_some he]
    have e2 : (((i + 2 : Nat) : Int) - (i : Int)) = 2 := by clear ek1 ek2 il1; omega
    rw [e2]
    rcases q with q | q
    · obtain ⟨z1, z2⟩ := hR.yes 34 34 rfl (by decide) q
      obtain ⟨N, hn⟩ : ∃ N, N = T.N := ⟨_, rfl⟩
      rw [← hn] at il1 ⊢
      generalize (T.g (i + 1)).S = S at *
      clear hR q he hno hC G hn hlt h1 hi hN
      go_enter Tryz.func65, Tryz.ntmps65
      go_wp2
      go_ret2
      exact ⟨rfl, Below.refl _ _⟩
    · obtain ⟨z1, z2⟩ := hR.yes 92 92 rfl (by decide) q
      obtain ⟨z3, z4⟩ := hR.no 34 34 rfl (by decide) (by rw [q]; decide)
      obtain ⟨N, hn⟩ : ∃ N, N = T.N := ⟨_, rfl⟩
      rw [← hn] at il1 ⊢
      generalize (T.g (i + 1)).S = S at *
      clear hR q he hno hC G hn hlt h1 hi hN
      go_enter Tryz.func65, Tryz.ntmps65
      go_wp2
      go_ret2
      exact ⟨rfl, Below.refl _ _⟩
  · obtain ⟨z1, z2⟩ := hR.no 34 34 rfl (by decide) (fun e => q (.inl e))
    obtain ⟨z3, z4⟩ := hR.no 92 92 rfl (by decide) (fun e => q (.inr e))
    by_cases h17 : (T.g (i + 1)).r = 117
    · obtain ⟨z5, z6⟩ := hR.yes 117 117 rfl (by decide) h17
      have hlt : i + 1 < T.N := lt_r G h1 (by rw [h17]; decide)
      have h2 : i + 2 ≤ T.N := hlt
      obtain ⟨x0, _, _, _⟩ := hC.at_ (i + 2) h2
      have hR2 := rl_at G h2
      have h123 : (T.g (i + 2)).r ≠ 123 := fun e => hno ⟨h17, e⟩
      obtain ⟨z7, z8⟩ := hR2.no 123 123 rfl (by decide) h123
      have il2 : ((i + 2 : Nat) : Int) < ((T.N + 1 : Nat) : Int) := Int.ofNat_lt.2 (by clear ek1 ek2; omega)
      have he : T.esc i = none := by
        unfold Tx.esc
        rw [if_neg q, if_pos h17]
        unfold Tx.numd
        rw [if_pos h123]
      rw [escA_none he]
      obtain ⟨N, hn⟩ : ∃ N, N = T.N := ⟨_, rfl⟩
      rw [← hn] at il1 il2 ⊢
      generalize (T.g (i + 1)).S = S at *
      generalize (T.g (i + 2)).S = S2 at *
      clear hR hR2 q he hno hC G hn hlt h1 hi hN h17 h2 h123
      go_enter Tryz.func65, Tryz.ntmps65
      go_wp2
      go_ret2
      exact ⟨rfl, Below.refl _ _⟩
    · obtain ⟨z5, z6⟩ := hR.no 117 117 rfl (by decide) h17
      have he : T.esc i = none := by
        unfold Tx.esc
        rw [if_neg q, if_neg h17]
      rw [escA_none he]
      obtain ⟨N, hn⟩ : ∃ N, N = T.N := ⟨_, rfl⟩
      rw [← hn] at il1 ⊢
      generalize (T.g (i + 1)).S = S at *
      clear hR q he hno hC G hn h1 hi hN h17
      go_enter Tryz.func65, Tryz.ntmps65
      go_wp2
      go_ret2
      exact ⟨rfl, Below.refl _ _⟩
end Go.Proofs.YtnlopepbcnegbaaGreatDoor
set_option linter.unusedVariables false
set_option linter.unusedSimpArgs false
namespace Go.Proofs.YtnlopepbcnegbaaGreatDoor
open Go.RowKit
theorem beqF {a b : Nat} (h : a ≠ b) : ((a : Int) == (b : Int)) = false ∧ ¬ (a : Int) = (b : Int) := ⟨by rw [beq_eq_false_iff_ne]; omega, by omega⟩
theorem waddn {a b c : Nat} (h : c = a + b) (hc : c ≤ 1073741824) : wrap64 ((a : Int) + (b : Int)) = (c : Int) := by subst h; unfold wrap64; omega
theorem wmuln {a c : Nat} (h : c = a * 16) (hc : c ≤ 1073741824) : wrap64 ((a : Int) * 16) = (c : Int) := by subst h; unfold wrap64; omega
theorem ms2 {k N : Nat} (h : k ≤ N) : N + 1 - (intOf (.int .i64 ((k + 1 : Nat) : Int))).toNat < N + 1 - (intOf (.int .i64 (k : Int))).toNat := by
  show N + 1 - (((k + 1 : Nat) : Int)).toNat < N + 1 - ((k : Int)).toNat
  omega
theorem p16 {n h m : Nat} (hn : n + 1 ≤ 16 ^ m) (hh : h < 16) : n * 16 + h + 1 ≤ 16 ^ (m + 1) := by rw [Nat.pow_succ]; omega
theorem p16b {n m : Nat} (hn : n + 1 ≤ 16 ^ m) (hm : m ≤ 6) : n ≤ 16777215 := by
  have : 16 ^ m ≤ 16 ^ 6 := Nat.pow_le_pow_right (by decide) hm
  have e : 16 ^ 6 = 16777216 := by decide
  omega
set_option maxRecDepth 100000 in
set_option maxHeartbeats 2000000 in
theorem rescape_long {T : Tx} {s : ByteArray} (hs : T.s = s) (G : L.Good s T.C T.N 0 (1, 1)) (hN : T.N ≤ 65536) {g cap i : Nat} {w : World} (hC : Chs T g w) (hi : i < T.N) (h17 : (T.g (i + 1)).r = 117) (h123 : (T.g (i + 2)).r = 123) :
    Calls Tryz.prog 65 #[.slice (some ⟨g, 0, none⟩) (T.N + 1) cap, .int .i64 (i : Int)] w fun e w' => e = .returned (.tuple #[.string (escA T i).1, .int .i64 (escA T i).2]) ∧ Below w.heap.size w w' := by
  have h1 : i + 1 ≤ T.N := hi
  have hlt : i + 1 < T.N := lt_r G h1 (by rw [h17]; decide)
  have h2 : i + 2 ≤ T.N := hlt
  have hlt2 : i + 2 < T.N := lt_r G h2 (by rw [h123]; decide)
  have h3 : i + 3 ≤ T.N := hlt2
  obtain ⟨y0, _, _, _⟩ := hC.at_ (i + 1) h1
  obtain ⟨x0, _, _, _⟩ := hC.at_ (i + 2) h2
  have hR := rl_at G h1
  have hR2 := rl_at G h2
  obtain ⟨z1, z2⟩ := hR.no 34 34 rfl (by decide) (by rw [h17]; decide)
  obtain ⟨z3, z4⟩ := hR.no 92 92 rfl (by decide) (by rw [h17]; decide)
  obtain ⟨z5, z6⟩ := hR.yes 117 117 rfl (by decide) h17
  obtain ⟨z7, z8⟩ := hR2.yes 123 123 rfl (by decide) h123
  have hesc : T.esc i = T.numd (i + 2) := by
    unfold Tx.esc
    rw [if_neg (by rw [h17]; decide), if_pos h17]
  have Hnum := hide' (fun (K : Nat) (hK : T.skp L.isHex (i + 3) = K) (hk : i + 3 ≤ K) => hesc.trans (numd_of h123 hK hk))
  obtain ⟨b3, hb3⟩ : ∃ b, b = i + 3 := ⟨_, rfl⟩
  obtain ⟨b9, hb9⟩ : ∃ b, b = i + 9 := ⟨_, rfl⟩
  obtain ⟨N, hn⟩ : ∃ N, N = T.N := ⟨_, rfl⟩
  have HB := hide' (And.intro hb3 (And.intro hb9 (And.intro hn (show N ≤ 65536 by rw [hn]; exact hN))))
  have HC := hide' (And.intro hC (And.intro G h3))
  have il1 : ((i + 1 : Nat) : Int) < ((N + 1 : Nat) : Int) := Int.ofNat_lt.2 (by omega)
  have il2 : ((i + 2 : Nat) : Int) < ((N + 1 : Nat) : Int) := Int.ofNat_lt.2 (by omega)
  have hi65 : i ≤ 65536 := by omega
  obtain ⟨EA, hEA⟩ : ∃ E, E = escA T i := ⟨_, rfl⟩
  have HEA := hide' hEA
  rw [← hEA]
  rw [← hn]
  have HI := hide' hi65
  have ek1 : wrap64 ((i : Int) + 1) = ((i + 1 : Nat) : Int) := wadd (k := 1) hi65 (by decide)
  have ek2 : wrap64 ((i : Int) + 2) = ((i + 2 : Nat) : Int) := wadd (k := 2) hi65 (by decide)
  have ek3 : wrap64 ((i : Int) + 3) = (b3 : Int) := waddn (b := 3) hb3 (by rw [hb3]; exact Nat.le_trans (Nat.add_le_add_right hi65 3) (by decide))
  have ek9 : wrap64 ((i : Int) + 9) = (b9 : Int) := waddn (b := 9) hb9 (by rw [hb9]; exact Nat.le_trans (Nat.add_le_add_right hi65 9) (by decide))
  generalize (T.g (i + 1)).S = S1 at *
  generalize (T.g (i + 2)).S = S2 at *
  clear hR hR2 h17 h123 hesc hEA hC G h1 h2 h3 hlt hlt2 hi hN hn hb3 hb9 hi65
  go_enter Tryz.func65, Tryz.ntmps65
  go_wp2_with fail
  clear y0 x0 z1 z2 z3 z4 z5 z6 z7 z8 ek1 ek2 il1 il2
  rw [ek3]
  have HEK := hide' (And.intro ek3 ek9)
  clear ek3 ek9
  go_loopw [6, 7] (fun nv kv wx => ∃ (m k n : Nat) (V : World), V = wx ∧ nv = .int .i64 (n : Int) ∧ kv = .int .i64 (k : Int) ∧ k = b3 + m ∧ n = L.hexV (T.rs b3 m) ∧ m ≤ 6 ∧ k ≤ N ∧ T.skp L.isHex b3 = T.skp L.isHex k ∧ n + 1 ≤ 16 ^ m ∧ V = w) (fun _ kv _ => N + 1 - (intOf kv).toNat)
  case atStart => exact ⟨0, b3, 0, _, rfl, rfl, rfl, rfl, rfl, by decide, by rw [HB.out.1, HB.out.2.2.1]; exact HC.out.2.2, rfl, by decide, rfl⟩
  case round =>
    obtain ⟨m, k, n, V, rfl, rfl, rfl, hk, hnv, hm, hkN, hsk, hn16, rfl⟩ := hrel
    have hkT : k ≤ T.N := by rw [← HB.out.2.2.1]; exact hkN
    obtain ⟨y0, _, _, _⟩ := HC.out.1.at_ k hkT
    have hR := rl_at HC.out.2.1 hkT
    have D1 := hide' (fun W => rhex_any (T.g k).S W)
    rw [hR.hxv] at D1
    have kl : (k : Int) < ((N + 1 : Nat) : Int) := Int.ofNat_lt.2 (Nat.lt_succ_of_le hkN)
    have Hk := hide' (And.intro hk (And.intro hnv (And.intro hm (And.intro hkN (And.intro hsk hn16)))))
    have nb := p16b hn16 hm
    have k65 : k ≤ 65536 := Nat.le_trans hkN HB.out.2.2.2
    have Hnb := hide' nb
    cases hx : L.isHex (T.g k).r
    · rw [hxv_no hx] at D1
      have hKk : T.skp L.isHex b3 = k := hsk.trans (skp_stop _ hx)
      have hcnt : k - b3 = m := by rw [hk]; exact Nat.add_sub_cancel_left ..
      have hle : i + 3 ≤ k := by rw [← HB.out.1, hk]; exact Nat.le_add_right ..
      have hnum := Hnum.out k (by rw [← HB.out.1]; exact hKk) hle
      rw [← HB.out.1, hcnt, ← hnv] at hnum
      by_cases hm0 : m = 0
      · have he : T.esc i = none := by rw [hnum, if_pos (.inl (by omega))]
        have HE := hide' (HEA.out.trans (escA_none he))
        have e3 : b3 = k := by rw [hk, hm0]; rfl
        generalize (T.g k).S = S at *
        clear hm0 hnum he hKk hcnt hle hR hx hnv hm hkN hsk hn16 nb k65 hkT hk
        obtain rfl := e3
        obtain ⟨ek3, ek9⟩ := HEK.out
        go_wp2_with (go_at_call 82; refine (D1.out _).mono ?_; rintro e w5 ⟨rfl, hw5⟩; obtain rfl := hw5.symm)
        go_ret2
        exact ⟨by rw [HE.out]; rfl, Below.refl _ _⟩
      · have hb3k := beqF (a := k) (b := b3) (by omega)
        by_cases h125 : (T.g k).r = 125
        · obtain ⟨z1, z2⟩ := hR.yes 125 125 rfl (by decide) h125
          rw [if_neg (by omega)] at hnum
          by_cases hvr : Lib.validRune (n : Int) = true
          · rw [if_pos hvr] at hnum
            have hv2 := vr_iff.1 hvr
            obtain ⟨k1, hk1⟩ : ∃ k1, k1 = k + 1 := ⟨_, rfl⟩
            have HE := hide' (HEA.out.trans (escA_some hnum))
            have D2 := hide' (fun W => rletterOf_any n hv2.1 hv2.2 W)
            have t1 : ¬ (1114111 : Int) < (n : Int) := by omega
            have t2 : ¬ (55296 ≤ (n : Int) ∧ (n : Int) ≤ 57343) := by omega
            have ea : wrap64 ((k : Int) + 1) = (k1 : Int) := waddn (b := 1) hk1 (by rw [hk1]; exact Nat.le_trans (Nat.add_le_add_right k65 1) (by decide))
            have es : wrap64 ((k1 : Int) - (i : Int)) = (k1 : Int) - (i : Int) := wsub (by clear ea; omega) (by clear ea; omega)
            have Hes := hide' es
            clear es
            rw [← hk1] at HE
            generalize Utf8.encode (n : Int) = E at *
            generalize (T.g k).S = S at *
            obtain ⟨hb3a, hb3b⟩ := hb3k
            by_cases t3 : 55296 ≤ (n : Int)
            · have t4 : ¬ (n : Int) ≤ 57343 := fun q => t2 ⟨t3, q⟩
              clear hm0 hnum hKk hcnt hle hR hx hnv hm hkN hsk hn16 nb k65 hkT hk h125 hvr hv2 hk1 t2
              generalize (n : Int) = zn at *
              obtain ⟨ek3, ek9⟩ := HEK.out
              go_wp2_with (first | (go_at_call 82; refine (D1.out _).mono ?_; rintro e w5 ⟨rfl, hw5⟩; obtain rfl := hw5.symm) | (go_at_call 83; refine (D2.out _).mono ?_; rintro e w6 ⟨rfl, b6⟩))
              go_ret2
              exact ⟨by rw [HE.out]; exact congrArg (fun z => Ending.returned (.tuple #[.string E, .int .i64 z])) Hes.out, b6⟩
            · clear hm0 hnum hKk hcnt hle hR hx hnv hm hkN hsk hn16 nb k65 hkT hk h125 hvr hv2 hk1 t2
              generalize (n : Int) = zn at *
              obtain ⟨ek3, ek9⟩ := HEK.out
              go_wp2_with (first | (go_at_call 82; refine (D1.out _).mono ?_; rintro e w5 ⟨rfl, hw5⟩; obtain rfl := hw5.symm) | (go_at_call 83; refine (D2.out _).mono ?_; rintro e w6 ⟨rfl, b6⟩))
              go_ret2
              exact ⟨by rw [HE.out]; exact congrArg (fun z => Ending.returned (.tuple #[.string E, .int .i64 z])) Hes.out, b6⟩
          · rw [if_neg hvr] at hnum
            have HE := hide' (HEA.out.trans (escA_none hnum))
            obtain ⟨hb3a, hb3b⟩ := hb3k
            have hv2 : 1114111 < n ∨ (n ≤ 1114111 ∧ 55296 ≤ n ∧ n ≤ 57343) := by
              have : ¬ (n ≤ 1114111 ∧ (n < 55296 ∨ 57344 ≤ n)) := fun q => hvr (vr_iff.2 q)
              omega
            generalize (T.g k).S = S at *
            rcases hv2 with t | ⟨u1, u2, u3⟩
            · have t1 : (1114111 : Int) < (n : Int) := by omega
              clear hm0 hnum hKk hcnt hle hR hx hnv hm hkN hsk hn16 nb k65 hkT hk h125 hvr t
              obtain ⟨ek3, ek9⟩ := HEK.out
              go_wp2_with (go_at_call 82; refine (D1.out _).mono ?_; rintro e w5 ⟨rfl, hw5⟩; obtain rfl := hw5.symm)
              go_ret2
              exact ⟨by rw [HE.out]; rfl, Below.refl _ _⟩
            · have t1 : ¬ (1114111 : Int) < (n : Int) := by omega
              have t2 : 55296 ≤ (n : Int) := by omega
              have t3 : (n : Int) ≤ 57343 := by omega
              clear hm0 hnum hKk hcnt hle hR hx hnv hm hkN hsk hn16 nb k65 hkT hk h125 hvr u1 u2 u3
              obtain ⟨ek3, ek9⟩ := HEK.out
              go_wp2_with (go_at_call 82; refine (D1.out _).mono ?_; rintro e w5 ⟨rfl, hw5⟩; obtain rfl := hw5.symm)
              go_ret2
              exact ⟨by rw [HE.out]; rfl, Below.refl _ _⟩
        · obtain ⟨z1, z2⟩ := hR.no 125 125 rfl (by decide) h125
          have he : T.esc i = none := by rw [hnum, if_pos (.inr (.inr h125))]
          have HE := hide' (HEA.out.trans (escA_none he))
          obtain ⟨hb3a, hb3b⟩ := hb3k
          generalize (T.g k).S = S at *
          clear hm0 hnum he hKk hcnt hle hR hx hnv hm hkN hsk hn16 nb k65 hkT hk h125
          obtain ⟨ek3, ek9⟩ := HEK.out
          go_wp2_with (go_at_call 82; refine (D1.out _).mono ?_; rintro e w5 ⟨rfl, hw5⟩; obtain rfl := hw5.symm)
          go_ret2
          exact ⟨by rw [HE.out]; rfl, Below.refl _ _⟩
    · obtain ⟨v1, v2, v3⟩ := hxv_is hx
      obtain ⟨h, hh⟩ : ∃ h, h = L.hv (UInt8.ofNat (T.g k).r.toNat).toNat := ⟨_, rfl⟩
      rw [v3, ← hh] at D1
      have hh16 : h < 16 := by rw [v3, ← hh] at v2; omega
      by_cases hm6 : m = 6
      · have h125 : (T.g k).r ≠ 125 := fun q => by rw [q] at hx; cases hx
        obtain ⟨z1, z2⟩ := hR.no 125 125 rfl (by decide) h125
        have hb3k := beqF (a := k) (b := b3) (by omega)
        have he : T.esc i = none := by
          have hst := skp_step HC.out.2.1 L.isHex rfl hkT hx
          have hbd := skp_bd HC.out.2.1 L.isHex rfl (i := k + 1) hst.1
          have hK : T.skp L.isHex (i + 3) = T.skp L.isHex (k + 1) := by rw [← HB.out.1, hsk, hst.2]
          have e1 := HB.out.1
          rw [Hnum.out _ hK (by omega), if_pos (.inr (.inl (by omega)))]
        have HE := hide' (HEA.out.trans (escA_none he))
        obtain ⟨hb3a, hb3b⟩ := hb3k
        have h9 : ¬ (k : Int) < (b9 : Int) := by have e1 := HB.out.1; have e2 := HB.out.2.1; omega
        have h0 : (0 : Int) ≤ (h : Int) := Int.natCast_nonneg _
        generalize (T.g k).S = S at *
        clear he hR hx hnv hm hkN hsk hn16 nb k65 hkT hk h125 v1 v2 v3 hh hh16 hm6
        obtain ⟨ek3, ek9⟩ := HEK.out
        go_wp2_with (go_at_call 82; refine (D1.out _).mono ?_; rintro e w5 ⟨rfl, hw5⟩; obtain rfl := hw5.symm)
        go_ret2
        exact ⟨by rw [HE.out]; rfl, Below.refl _ _⟩
      · have hst := skp_step HC.out.2.1 L.isHex rfl hkT hx
        have h9 : (k : Int) < (b9 : Int) := by have e1 := HB.out.1; have e2 := HB.out.2.1; omega
        have h0 : (0 : Int) ≤ (h : Int) := Int.natCast_nonneg _
        have hm5 : m + 1 ≤ 6 := by omega
        obtain ⟨n16, hn'⟩ : ∃ x, x = n * 16 := ⟨_, rfl⟩
        obtain ⟨n2, hn2⟩ : ∃ x, x = n16 + h := ⟨_, rfl⟩
        have hsn := hexV_snoc T b3 m
        rw [← hk, ← hnv, ← hh, ← hn', ← hn2] at hsn
        have hp := p16 hn16 hh16
        rw [← hn', ← hn2] at hp
        have em : wrap64 ((n : Int) * 16) = (n16 : Int) := wmuln hn' (by rw [hn']; exact Nat.le_trans (Nat.mul_le_mul_right 16 nb) (by decide))
        have ea : wrap64 ((n16 : Int) + (h : Int)) = (n2 : Int) := waddn hn2 (by rw [hn2, hn']; exact Nat.le_trans (Nat.add_le_add (Nat.mul_le_mul_right 16 nb) (Nat.le_of_lt hh16)) (by decide))
        have ek : wrap64 ((k : Int) + 1) = ((k + 1 : Nat) : Int) := waddn (b := 1) rfl (Nat.le_trans (Nat.add_le_add_right k65 1) (by decide))
        have Hst := hide' (And.intro hst (And.intro hsn (And.intro hp hm5)))
        generalize (T.g k).S = S at *
        clear hR hx hnv hm hkN hsk hn16 nb k65 hkT hk v1 v2 v3 hh hh16 hm6 hst hn' hn2 hsn hp hm5
        obtain ⟨ek3, ek9⟩ := HEK.out
        go_wp2_with (go_at_call 82; refine (D1.out _).mono ?_; rintro e w5 ⟨rfl, hw5⟩; obtain rfl := hw5.symm)
        rw [ek]
        exact ⟨⟨m + 1, k + 1, n2, _, rfl, congrArg (Value.int .i64) ea, rfl, by rw [Hk.out.1]; rfl, Hst.out.2.1.symm, Hst.out.2.2.2, by rw [HB.out.2.2.1]; exact Hst.out.1.1, by rw [Hk.out.2.2.2.2.1]; exact Hst.out.1.2, Hst.out.2.2.1, rfl⟩, ms2 Hk.out.2.2.2.1⟩
theorem rescape_any {T : Tx} {s : ByteArray} (hs : T.s = s) (G : L.Good s T.C T.N 0 (1, 1)) (hN : T.N ≤ 65536) {g cap i : Nat} {w : World} (hC : Chs T g w) (hi : i < T.N) :
    Calls Tryz.prog 65 #[.slice (some ⟨g, 0, none⟩) (T.N + 1) cap, .int .i64 (i : Int)] w fun e w' => e = .returned (.tuple #[.string (escA T i).1, .int .i64 (escA T i).2]) ∧ Below w.heap.size w w' := by
  by_cases h : (T.g (i + 1)).r = 117 ∧ (T.g (i + 2)).r = 123
  · exact rescape_long hs G hN hC hi h.1 h.2
  · exact rescape_short hs G hN hC hi h
end Go.Proofs.YtnlopepbcnegbaaGreatDoor
