import Derived.Test.YtfgblchnnhdlnaaGreatDoorGrM
import Derived.Test.YtfgblchnnhdlnaaGreatDoorGrN
set_option linter.unusedVariables false
set_option linter.unusedSimpArgs false
namespace Go.Proofs.YtfgblchnnhdlnaaGreatDoor
open Go.RowKit
theorem tmod_bd (k n : Int) (h : 0 < n) : -n < k.tmod n ∧ k.tmod n < n := by
  have h1 := Int.tmod_lt_of_pos k h
  have h2 : -n < k.tmod n := by
    have := Int.tmod_lt_of_pos (-k) h
    rw [Int.neg_tmod] at this
    omega
  exact ⟨h2, h1⟩
def pik (k n : Int) : Int := if k.tmod n < 0 then k.tmod n + n else k.tmod n
theorem pik_bd (k n : Int) (h : 0 < n) : 0 ≤ pik k n ∧ pik k n < n := by
  have := tmod_bd k n h
  unfold pik
  split <;> omega
set_option maxRecDepth 100000 in
theorem pick_any (k n : Int) (w : World) (hn : 0 < n ∧ n ≤ 562949953421312) :
    Calls Tryz.prog 23 #[.int .i64 k, .int .i64 n] w fun e w' => e = .returned (.int .i64 (pik k n)) ∧ w' = w := by
  have hb := tmod_bd k n hn.1
  have h0 : ¬ n = 0 := by omega
  have hwr : IntKind.i64.wrap (k.tmod n) = k.tmod n := by rw [IntKind.wrap_i64]; omega
  unfold pik
  by_cases hlt : k.tmod n < 0
  · rw [if_pos hlt]
    have e1 : decide (k.tmod n < 0) = true := by simpa using hlt
    go_enter Tryz.func23, Tryz.ntmps23
    go_wp2
    all_goals go_ret
    all_goals exact ⟨rfl, rfl⟩
  · rw [if_neg hlt]
    have e1 : decide (k.tmod n < 0) = false := by simpa using hlt
    go_enter Tryz.func23, Tryz.ntmps23
    go_wp2
    all_goals go_ret
    all_goals exact ⟨rfl, rfl⟩
theorem dig_at (k : Nat) (h : k < 10) : (⟨#[48, 49, 50, 51, 52, 53, 54, 55, 56, 57]⟩ : ByteArray).extract k (k + 1) = ⟨#[UInt8.ofNat (48 + k)]⟩ := by
  obtain rfl | rfl | rfl | rfl | rfl | rfl | rfl | rfl | rfl | rfl : k = 0 ∨ k = 1 ∨ k = 2 ∨ k = 3 ∨ k = 4 ∨ k = 5 ∨ k = 6 ∨ k = 7 ∨ k = 8 ∨ k = 9 := by omega
  all_goals rfl
/-- what figure makes of a text of at most nine bytes -/
def figT (s : ByteArray) (i : Nat) : List UInt8 := (s.data.toList.take i).map R.Lay.dg
def FigIs (s : ByteArray) (w : World) (e : Ending) (w' : World) : Prop := ∃ (x : ByteArray) (lv : Nat), e = .returned (.tuple #[.string x, .float .f64 lv]) ∧ (0 < s.size → L.isNum x = true ∧ R.val x = lv) ∧ x.size ≤ 11 ∧ w' = w
theorem fig_len (s : ByteArray) (k : Nat) (h : k ≤ s.size) : (figT s k).length = k := by
  unfold figT
  rw [List.length_map, List.length_take, ← size_list]; omega
theorem fig_dig (s : ByteArray) (k : Nat) : ∀ c ∈ figT s k, 48 ≤ c.toNat ∧ c.toNat ≤ 57 := by
  intro c hc
  obtain ⟨c', _, rfl⟩ := List.mem_map.1 hc
  have := R.Lay.dg_is c'
  omega
theorem fig_bd (s : ByteArray) (k : Nat) (h : k ≤ s.size) (h8 : k ≤ 8) : R.digs (figT s k) < 100000000 ∧ (10 : Nat) ^ k ≤ 100000000 := by
  have := R.Lay.digs_lt (figT s k) (fig_dig s k)
  rw [fig_len s k h] at this
  have hp : (10 : Nat) ^ k ≤ 10 ^ 8 := Nat.pow_le_pow_right (by omega) (by omega)
  have hp8 : (10 : Nat) ^ 8 = 100000000 := by decide
  omega
theorem fig_on (s : ByteArray) (k : Nat) (h : k < s.size) : figT s (k + 1) = figT s k ++ [R.Lay.dg (s[k]'h)] := by
  unfold figT
  have e : s.data.toList[k]? = some (s[k]'h) := by
    have hl : k < s.data.toList.length := by rw [← size_list]; exact h
    rw [List.getElem?_eq_getElem hl]
    simp [ByteArray.getElem_eq_getElem_data]
  rw [List.take_add_one, e]
  simp
theorem fig_n (s : ByteArray) (k : Nat) (h : k < s.size) : R.digs (figT s (k + 1)) = 10 * R.digs (figT s k) + (s[k]'h).toNat % 10 := by
  rw [fig_on s k h, R.Lay.digs_app, (R.Lay.dg_is _).2.2]
theorem fig_x (s x : ByteArray) (k : Nat) (h : k < s.size) (hx : x.data.toList = 48 :: 46 :: figT s k) (K : Int) (hK : K = (((s[k]'h).toNat % 10 : Nat) : Int)) : (x ++ (⟨#[48, 49, 50, 51, 52, 53, 54, 55, 56, 57]⟩ : ByteArray).extract K.toNat (K + 1).toNat).data.toList = 48 :: 46 :: figT s (k + 1) := by
  have hlt : (s[k]'h).toNat % 10 < 10 := Nat.mod_lt _ (by decide)
  have e1 : K.toNat = (s[k]'h).toNat % 10 := by omega
  have e2 : (K + 1).toNat = (s[k]'h).toNat % 10 + 1 := by omega
  rw [e1, e2, dig_at _ hlt, fig_on s k h, ByteArray.data_append, Array.toList_append, hx]
  rfl
theorem run_quo57 (x y r : Nat) (w : World) (h : FloatKind.f64.format.div x y = some r) : (binOp .quo 57 (.float .f64 x) (.float .f64 y)).run Tryz.prog w = .ok (.float .f64 r) w := by
  have hu := Tryz.underlying57
  simp [binOp, underlying, hu, Op.floatArith, h]
theorem fig_end (s x : ByteArray) (hs : s.size ≤ 9) (hx : x.data.toList = 48 :: 46 :: figT s s.size) : ∃ r, FloatKind.f64.format.div (FloatKind.f64.nearest ((R.digs (figT s s.size) : Nat) : Int)) (FloatKind.f64.nearest ((10 ^ s.size : Nat) : Int)) = some r ∧ (0 < s.size → L.isNum x = true ∧ R.val x = r) ∧ x.size ≤ 11 := by
  have hl := fig_len s s.size (Nat.le_refl _)
  have hxs : x.size ≤ 11 := by rw [size_list, hx]; simp only [List.length_cons, hl]; omega
  by_cases h0 : s.size = 0
  · refine ⟨0, ?_, fun q => by omega, hxs⟩
    have e : figT s s.size = [] := List.eq_nil_of_length_eq_zero (by rw [hl, h0])
    rw [e, h0]
    decide +kernel
  · obtain ⟨r, hr⟩ := F.quo_some (R.digs (figT s s.size)) s.size (by omega) hs
    refine ⟨r, hr, fun _ => ⟨R.Lay.isNum_of x _ hx (by omega) (by omega) (fig_dig s _), ?_⟩, hxs⟩
    rw [R.Lay.val_of x _ hx, hl, hr]; rfl
set_option maxRecDepth 100000 in
set_option maxHeartbeats 8000000 in
theorem figure_small (s : ByteArray) (w : World) (hs : s.size ≤ 9) : Calls Tryz.prog 42 #[.string s] w fun e w' => FigIs s w e w' := by
  have h9 : decide ((9 : Int) < (s.size : Int)) = false := by simp; omega
  go_enter Tryz.func42, Tryz.ntmps42
  go_wp2_with fail
  go_loopw [4, 5, 6, 7] (fun vt vn vd vi wx => ∃ (k : Nat) (x : ByteArray) (N D : Int), wx = w ∧ k ≤ s.size ∧ vt = .string x ∧ vn = .int .i64 N ∧ vd = .int .i64 D ∧ vi = .int .i64 (k : Int) ∧ x.data.toList = 48 :: 46 :: figT s k ∧ N = ((R.digs (figT s k) : Nat) : Int) ∧ D = ((10 ^ k : Nat) : Int)) (fun _ _ _ vi _ => s.size - idxOf vi)
  case atStart => exact ⟨0, _, _, _, rfl, Nat.zero_le _, rfl, rfl, rfl, rfl, rfl, rfl, rfl⟩
  case round =>
    obtain ⟨k, x, N, D, rfl, hk, rfl, rfl, rfl, rfl, hx, hN, hD⟩ := hrel
    by_cases hkl : k < s.size
    · have hki : (k : Int) < (s.size : Int) := by omega
      have hk0 : (0 : Int) ≤ (k : Int) := by omega
      obtain ⟨C, hC⟩ : ∃ C : Int, ((s[k]'hkl).toNat : Int) = C := ⟨_, rfl⟩
      have hC2 : 0 ≤ C ∧ C < 256 := by have := (s[k]'hkl).toNat_lt; omega
      obtain ⟨K, hK⟩ : ∃ K : Int, C.tmod 10 = K := ⟨_, rfl⟩
      have hKe : K = (((s[k]'hkl).toNat % 10 : Nat) : Int) := by
        rw [← hK, ← hC]; rfl
      have hK0 : 0 ≤ K := by omega
      have hK1 : K ≤ 9 := by omega
      have hK2 : 0 ≤ K + 1 ∧ K + 1 ≤ 10 := by omega
      have hK3 : K ≤ K + 1 := by omega
      have wC : wrap64 C = C := by unfold wrap64; omega
      have wK : wrap64 (K + 1) = K + 1 := by unfold wrap64; omega
      have hbd := fig_bd s k (by omega) (by omega)
      have hxs : x.size = k + 2 := by rw [size_list, hx]; simp only [List.length_cons, fig_len s k hk]
      have hx' := hide' (And.intro (fig_x s x k hkl hx K hKe) (And.intro (fig_n s k hkl) (And.intro hN (And.intro hD hKe))))
      have hnb : 0 ≤ N ∧ N < 100000000 := by
        have := hbd.1
        rw [hN]
        generalize R.digs (figT s k) = n at *
        omega
      have hdb : 0 ≤ D ∧ D ≤ 100000000 := by
        have := hbd.2
        rw [hD]
        generalize (10 : Nat) ^ k = n at *
        omega
      clear hN hD hx hKe hbd
      have wN : wrap64 (10 * N) = 10 * N := by unfold wrap64; omega
      have wN2 : wrap64 (10 * N + K) = 10 * N + K := by unfold wrap64; omega
      have wD : wrap64 (10 * D) = 10 * D := by unfold wrap64; omega
      have hov : ¬ 9223372036854775807 < x.size + ((K + 1).toNat - K.toNat) := by omega
      clear hxs hC2 hnb hdb
      go_wp2_with fail
      obtain ⟨g1, g2, g3, g4, g5⟩ := hx'.out
      refine ⟨⟨k + 1, _, _, _, trivial, hkl, rfl, rfl, rfl, by simp, g1, ?_, ?_⟩, by simp [idxOf]; omega⟩
      · rw [wN2, g2, g3, g5]; push_cast; rfl
      · rw [wD, g4, Nat.pow_succ]; push_cast; rw [Int.mul_comm]
    · have hki : ¬ (k : Int) < (s.size : Int) := by omega
      obtain rfl : k = s.size := by omega
      obtain ⟨r, hr, hv, hxs⟩ := fig_end s x hs hx
      have q := fun w => run_quo57 _ _ _ w hr
      obtain ⟨X, hX⟩ : ∃ X, FloatKind.f64.nearest ((R.digs (figT s s.size) : Nat) : Int) = X := ⟨_, rfl⟩
      obtain ⟨Y, hY⟩ : ∃ Y, FloatKind.f64.nearest ((10 ^ s.size : Nat) : Int) = Y := ⟨_, rfl⟩
      rw [hX, hY] at q
      have o1 : floatOfInt FloatKind.f64 N = X := by rw [hN, ← hX]; rfl
      have o2 : floatOfInt FloatKind.f64 D = Y := by rw [hD, ← hY]; rfl
      have HV := hide' (And.intro hv hxs)
      clear hN hD hx hr hX hY hv hxs
      go_wp2_with fail
      go_ret2
      unfold FigIs
      exact ⟨x, r, rfl, HV.out.1, HV.out.2, rfl⟩
set_option maxRecDepth 100000 in
set_option maxHeartbeats 8000000 in
theorem figure_big (s : ByteArray) (w : World) (hb : 9 < s.size) : Calls Tryz.prog 42 #[.string s] w fun e w' => FigIs s w e w' := by
  have h9 : decide ((9 : Int) < (s.size : Int)) = true := by simp; omega
  have h9' : (9 : Int) ≤ (s.size : Int) := by omega
  have h9'' : 9 ≤ s.size := by omega
  obtain ⟨S, hS⟩ : ∃ S, s.extract 0 9 = S := ⟨_, rfl⟩
  have hSs : S.size = 9 := by rw [← hS, ByteArray.size_extract]; omega
  have hs : S.size ≤ 9 := by omega
  go_enter Tryz.func42, Tryz.ntmps42
  go_wp2_with fail
  go_loopw [4, 5, 6, 7] (fun vt vn vd vi wx => ∃ (k : Nat) (x : ByteArray) (N D : Int), wx = w ∧ k ≤ S.size ∧ vt = .string x ∧ vn = .int .i64 N ∧ vd = .int .i64 D ∧ vi = .int .i64 (k : Int) ∧ x.data.toList = 48 :: 46 :: figT S k ∧ N = ((R.digs (figT S k) : Nat) : Int) ∧ D = ((10 ^ k : Nat) : Int)) (fun _ _ _ vi _ => S.size - idxOf vi)
  case atStart => exact ⟨0, _, _, _, rfl, Nat.zero_le _, rfl, rfl, rfl, rfl, rfl, rfl, rfl⟩
  case round =>
    obtain ⟨k, x, N, D, rfl, hk, rfl, rfl, rfl, rfl, hx, hN, hD⟩ := hrel
    by_cases hkl : k < S.size
    · have hki : (k : Int) < (S.size : Int) := by omega
      have hk0 : (0 : Int) ≤ (k : Int) := by omega
      obtain ⟨C, hC⟩ : ∃ C : Int, ((S[k]'hkl).toNat : Int) = C := ⟨_, rfl⟩
      have hC2 : 0 ≤ C ∧ C < 256 := by have := (S[k]'hkl).toNat_lt; omega
      obtain ⟨K, hK⟩ : ∃ K : Int, C.tmod 10 = K := ⟨_, rfl⟩
      have hKe : K = (((S[k]'hkl).toNat % 10 : Nat) : Int) := by
        rw [← hK, ← hC]; rfl
      have hK0 : 0 ≤ K := by omega
      have hK1 : K ≤ 9 := by omega
      have hK2 : 0 ≤ K + 1 ∧ K + 1 ≤ 10 := by omega
      have hK3 : K ≤ K + 1 := by omega
      have wC : wrap64 C = C := by unfold wrap64; omega
      have wK : wrap64 (K + 1) = K + 1 := by unfold wrap64; omega
      have hbd := fig_bd S k (by omega) (by omega)
      have hxs : x.size = k + 2 := by rw [size_list, hx]; simp only [List.length_cons, fig_len S k hk]
      have hx' := hide' (And.intro (fig_x S x k hkl hx K hKe) (And.intro (fig_n S k hkl) (And.intro hN (And.intro hD hKe))))
      have hnb : 0 ≤ N ∧ N < 100000000 := by
        have := hbd.1
        rw [hN]
        generalize R.digs (figT S k) = n at *
        omega
      have hdb : 0 ≤ D ∧ D ≤ 100000000 := by
        have := hbd.2
        rw [hD]
        generalize (10 : Nat) ^ k = n at *
        omega
      clear hN hD hx hKe hbd
      have wN : wrap64 (10 * N) = 10 * N := by unfold wrap64; omega
      have wN2 : wrap64 (10 * N + K) = 10 * N + K := by unfold wrap64; omega
      have wD : wrap64 (10 * D) = 10 * D := by unfold wrap64; omega
      have hov : ¬ 9223372036854775807 < x.size + ((K + 1).toNat - K.toNat) := by omega
      clear hxs hC2 hnb hdb
      go_wp2_with fail
      obtain ⟨g1, g2, g3, g4, g5⟩ := hx'.out
      refine ⟨⟨k + 1, _, _, _, trivial, hkl, rfl, rfl, rfl, by simp, g1, ?_, ?_⟩, by simp [idxOf]; omega⟩
      · rw [wN2, g2, g3, g5]; push_cast; rfl
      · rw [wD, g4, Nat.pow_succ]; push_cast; rw [Int.mul_comm]
    · have hki : ¬ (k : Int) < (S.size : Int) := by omega
      obtain rfl : k = S.size := by omega
      obtain ⟨r, hr, hv, hxs⟩ := fig_end S x hs hx
      have q := fun w => run_quo57 _ _ _ w hr
      obtain ⟨X, hX⟩ : ∃ X, FloatKind.f64.nearest ((R.digs (figT S S.size) : Nat) : Int) = X := ⟨_, rfl⟩
      obtain ⟨Y, hY⟩ : ∃ Y, FloatKind.f64.nearest ((10 ^ S.size : Nat) : Int) = Y := ⟨_, rfl⟩
      rw [hX, hY] at q
      have o1 : floatOfInt FloatKind.f64 N = X := by rw [hN, ← hX]; rfl
      have o2 : floatOfInt FloatKind.f64 D = Y := by rw [hD, ← hY]; rfl
      have HV := hide' (And.intro hv hxs)
      clear hN hD hx hr hX hY hv hxs
      go_wp2_with fail
      go_ret2
      unfold FigIs
      exact ⟨x, r, rfl, fun _ => HV.out.1 (by omega), HV.out.2, rfl⟩
theorem figure_any (s : ByteArray) (w : World) : Calls Tryz.prog 42 #[.string s] w fun e w' => FigIs s w e w' := by
  by_cases h : s.size ≤ 9
  · exact figure_small s w h
  · exact figure_big s w (by omega)
end Go.Proofs.YtfgblchnnhdlnaaGreatDoor
set_option linter.unusedVariables false
set_option linter.unusedSimpArgs false
namespace Go.Proofs.YtfgblchnnhdlnaaGreatDoor
open Go.RowKit
variable {B b : Nat} {ts : List R.Tok} {v v' v'' : Value} {ln cl q : Int} {w w' w'' : World}
/-- what laying a shape comes to -/
def LaidIs (B b : Nat) (ts : List R.Tok) (v : Value) (n : Nat) (w : World) (e : Ending) (w' : World) : Prop :=
  ∃ (T : List R.Tok) (d : R.Dc) (sv v' : Value) (ln' cl' q' : Int), e = .returned (.agg (dl d sv).toArray) ∧ w'.ownsRow w.heap.size 55 3 sv d.names.length (d.names.flatMap wcells) ∧ R.Lay.Reads T d ∧ (∀ x ∈ T, x.1 ≠ 5) ∧ T.length ≤ 2 * n + 10 ∧ (∀ x ∈ T, x.2.1.size ≤ 1048576) ∧
    Ld B b (ts ++ T) v' ln' cl' q' w' ∧ Lst b w v w' v'
theorem nonempty_beq (s : ByteArray) (h : s.size ≠ 0) : (s.toList == []) = false := by
  rw [ByteArray.toList_eq]
  have : s.data.toList ≠ [] := fun e => h (by rw [size_list, e]; rfl)
  simpa using this
theorem empty_beq (s : ByteArray) (h : s.size = 0) : (s.toList == []) = true := by
  rw [ByteArray.toList_eq]
  have : s.data.toList = [] := List.eq_nil_of_length_eq_zero (by rw [← size_list]; exact h)
  simpa using this
theorem nm_five {t : R.Tok} (h : R.isNm t = true) : t.1 ≠ 5 := by
  intro e
  unfold R.isNm at h
  rw [e] at h
  simp at h
theorem nms_five {T : List R.Tok} {ws : List R.Wd} (h : R.Lay.Nms T ws) : ∀ t ∈ T, t.1 ≠ 5 := by
  induction h with
  | one t h => intro x hx; simp at hx; subst hx; exact nm_five h
  | more t c T ws h hc hT ih =>
    intro x hx
    simp at hx
    rcases hx with rfl | rfl | hx
    · exact nm_five h
    · intro e
      unfold R.is at hc
      rw [e] at hc
      simp at hc
    · exact ih x hx
open R R.Lay in
theorem rule_names {N : List R.Tok} {ws : List R.Wd} (hN : R.Lay.Nms N ws) : ∀ (I : R.Src) (i : Nat), R.Lay.Has I i N → R.is 4 [44] (I.at (i + N.length)) = false → I.actions i = .ok (ws, false) (i + N.length) :=
  fun I i h hn => actions_reads hN h hn
open R R.Lay in
theorem rule_star (t : R.Tok) (ht : R.is 4 [42] t = true) : ∀ (I : R.Src) (i : Nat), R.Lay.Has I i [t] → R.is 4 [44] (I.at (i + [t].length)) = false → I.actions i = .ok ([], true) (i + [t].length) :=
  fun I i h _ => actions_star (by rw [h.head.1]; exact ht)
open R R.Lay in
theorem rule_none {s : R.Tok} (hs : R.is 4 [59] s = true) : ∀ (I : R.Src) (i : Nat), R.Lay.Has I i ([] ++ [s]) → I.cond i = .ok (0, 0) (i + ([] : List R.Tok).length) :=
  fun I i h => cond_none (by rw [h.head.1]; exact semi_word hs _) (by rw [h.head.1]; exact semi_word hs _)
open R R.Lay in
theorem rule_cond1 {a n s : R.Tok} (ha : R.is 1 [97, 98, 111, 118, 101] a = true) (h3 : n.1 = 3) (hn : L.isNum n.2.1 = true) : ∀ (I : R.Src) (i : Nat), R.Lay.Has I i ([a, n] ++ [s]) → I.cond i = .ok (1, R.val n.2.1) (i + [a, n].length) :=
  fun I i h => cond_above h.head.1 h.tail.head.1 ha h3 hn
open R R.Lay in
theorem rule_cond2 {a n s : R.Tok} (ha : R.is 1 [98, 101, 108, 111, 119] a = true) (h3 : n.1 = 3) (hn : L.isNum n.2.1 = true) : ∀ (I : R.Src) (i : Nat), R.Lay.Has I i ([a, n] ++ [s]) → I.cond i = .ok (2, R.val n.2.1) (i + [a, n].length) :=
  fun I i h => cond_below h.head.1 h.tail.head.1 ha h3 hn
end Go.Proofs.YtfgblchnnhdlnaaGreatDoor
