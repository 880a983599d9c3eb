import Derived.Test.YtppcofopnelgjaaGreatDoorRFl
import Derived.KernelRfl
import Derived.Laws.FloatBits
set_option linter.unusedVariables false
set_option linter.unusedSimpArgs false
namespace Go.Proofs.YtppcofopnelgjaaGreatDoor
open Go.RowKit
/-- what the library's tables hold that the reading of a number asks -/
structure Tb (w : World) : Prop where
  opt : w.cell? ⟨4, 0, none⟩ = some (.bool true)
  inf : w.cell? ⟨5, 0, none⟩ = some (.int .u64 52)
  pow : ∃ pb po cap, w.cell? ⟨8, 0, none⟩ = some (.slice (some ⟨pb, po, none⟩) 23 cap) ∧ ∀ k, k < 10 → w.cell? ⟨pb, po + k, none⟩ = some (.float .f64 (FloatKind.f64.nearest (10 ^ k : Nat)))
theorem run_div (x y r : Nat) (w : World) (h : FloatKind.f64.format.div x y = some r) : (binOp .quo 57 (.float .f64 x) (.float .f64 y)).run Tryz.prog w = .ok (.float .f64 r) w := by
  have hu := Tryz.underlying57
  simp [binOp, underlying, hu, Op.floatArith, h]
set_option maxHeartbeats 8000000 in
set_option maxRecDepth 100000 in
theorem exact_quo (M : Int) (k : Nat) (hM0 : 0 ≤ M) (hM : M < 1000000000) (hk1 : 1 ≤ k) (hk9 : k ≤ 9) (r : Nat) (hr : FloatKind.f64.format.div (FloatKind.f64.nearest M) (FloatKind.f64.nearest (10 ^ k : Nat)) = some r) (w : World) (hT : Tb w) :
    Calls Tryz.prog 179 #[.int .u64 M, .int .i64 (-(k : Int)), .bool false] w fun e w' => e = .returned (.tuple #[.float .f64 r, .bool true]) ∧ w' = w := by
  obtain ⟨pb, po, cap, c8, cp⟩ := hT.pow
  have c5 := hT.inf
  have ck := cp k (by omega)
  have hd := fun w => run_div _ _ _ w hr
  generalize FloatKind.f64.nearest (10 ^ k : Nat) = y at *
  have hcv : ∀ w : World, (convert 234 57 (.int .u64 M)).run Tryz.prog w = .ok (.float .f64 (FloatKind.f64.nearest M)) w := fun w => rfl
  generalize FloatKind.f64.nearest M = x at *
  have g1 : ((k : Int) == 0) = false := by simp; omega
  clear hT cp hr
  go_enter Tryz.func179, Tryz.ntmps179
  go_wp2
  go_ret2
  exact ⟨rfl, rfl⟩
set_option maxHeartbeats 8000000 in
set_option maxRecDepth 100000 in
theorem exact_one (M : Int) (hM0 : 0 ≤ M) (hM : M < 1000000000) (w : World) (hT : Tb w) :
    Calls Tryz.prog 179 #[.int .u64 M, .int .i64 0, .bool false] w fun e w' => e = .returned (.tuple #[.float .f64 (FloatKind.f64.nearest M), .bool true]) ∧ w' = w := by
  have c5 := hT.inf
  have hcv : ∀ w : World, (convert 234 57 (.int .u64 M)).run Tryz.prog w = .ok (.float .f64 (FloatKind.f64.nearest M)) w := fun w => rfl
  generalize FloatKind.f64.nearest M = x at *
  clear hT
  go_enter Tryz.func179, Tryz.ntmps179
  go_wp2
  go_ret2
  exact ⟨rfl, rfl⟩
theorem bool2_no (w : World) : Calls Tryz.prog 177 #[.bool false] w fun e w' => e = .returned (.int .u64 0) ∧ w' = w := by
  go_enter Tryz.func177, Tryz.ntmps177
  go_wp2
  go_ret
  exact ⟨rfl, rfl⟩
theorem fromBits_zero (w : World) : (callFunc 178 #[.int .u64 (bits .or .u64 0 0)]).run Tryz.prog w = .ok (.value (.float .f64 0)) w := by kernel_rfl
/-- what a number comes to -/
def F.Is (s : F.St) (r : Nat) : Prop :=
  (s.m = 0 ∧ r = 0) ∨ (s.m ≠ 0 ∧ s.m < 1000000000 ∧ F.exp s = 0 ∧ r = FloatKind.f64.nearest (s.m : Int)) ∨
  (s.m ≠ 0 ∧ s.m < 1000000000 ∧ ∃ k : Nat, 1 ≤ k ∧ k ≤ 9 ∧ F.exp s = -(k : Int) ∧ FloatKind.f64.format.div (FloatKind.f64.nearest (s.m : Int)) (FloatKind.f64.nearest (10 ^ k : Nat)) = some r)
set_option maxHeartbeats 8000000 in
set_option maxRecDepth 100000 in
theorem atof_any (t : ByteArray) (hsz : 0 < t.size) (hmax : t.size ≤ 11) (hch : F.Chr t) (h0 : 1 < t.size → (t[0]'hsz).toNat = 48) (r : Nat) (hr : F.Is (F.run t.data.toList) r) (w : World) (hT : Tb w) :
    Calls Tryz.prog 164 #[.string t] w fun e w' => e = .returned (.tuple #[.float .f64 r, .int .i64 t.size, .nilIface]) ∧ w' = w := by
  have HS := hide' (special_no t hsz (by have := hch 0 hsz; omega))
  have HR := hide' (readFloat_any t hsz hmax hch h0)
  have c4 := hT.opt
  have hz := fun w => fromBits_zero w
  obtain ⟨m, hm⟩ : ∃ m : Int, ((F.run t.data.toList).m : Int) = m := ⟨_, rfl⟩
  unfold F.Is at hr
  have hm0 : ((F.run t.data.toList).m = 0 ↔ m = 0) := by omega
  have hml : (F.run t.data.toList).m < 1000000000 ↔ m < 1000000000 := by omega
  rw [hm0, hml] at hr
  have hmp : 0 ≤ m := by omega
  rw [hm] at HR hr
  have Hm0 := hide' hm0
  clear hch h0 hm0 hml
  rcases hr with ⟨rfl, rfl⟩ | ⟨h1, h2, h3, h4⟩ | ⟨h1, h2, k, k1, k9, h3, h4⟩
  · generalize F.exp (F.run t.data.toList) = x at *
    clear hm
    go_enter Tryz.func164, Tryz.ntmps164
    go_wp2_with (first | (go_at_call 168; refine (HS.out _).mono ?_; rintro e w1 ⟨rfl, hw1⟩; replace hw1 := hw1.symm; subst hw1) | (go_at_call 169; refine (HR.out _).mono ?_; rintro e w1 ⟨rfl, hw1⟩; replace hw1 := hw1.symm; subst hw1) | (go_at_call 177; refine (bool2_no _).mono ?_; rintro e w1 ⟨rfl, hw1⟩; replace hw1 := hw1.symm; subst hw1))
    go_ret3
    exact ⟨rfl, rfl⟩
  · have HE := hide' (exact_one m hmp h2 w hT)
    rw [← h4] at HE
    rw [h3] at HR
    have h1' : (m == 0) = false := by
      have : m ≠ 0 := fun e => h1 (Hm0.out.2 e)
      simpa using this
    clear hm h4 h3
    go_enter Tryz.func164, Tryz.ntmps164
    go_wp2_with (first | (go_at_call 168; refine (HS.out _).mono ?_; rintro e w1 ⟨rfl, hw1⟩; replace hw1 := hw1.symm; subst hw1) | (go_at_call 169; refine (HR.out _).mono ?_; rintro e w1 ⟨rfl, hw1⟩; replace hw1 := hw1.symm; subst hw1) | (go_at_call 177; refine (bool2_no _).mono ?_; rintro e w1 ⟨rfl, hw1⟩; replace hw1 := hw1.symm; subst hw1) | (go_at_call 179; refine HE.out.mono ?_; rintro e w1 ⟨rfl, hw1⟩; replace hw1 := hw1.symm; subst hw1))
    go_ret3
    exact ⟨rfl, rfl⟩
  · have HE := hide' (exact_quo m k hmp h2 k1 k9 r h4 w hT)
    rw [h3] at HR
    have h1' : (m == 0) = false := by
      have : m ≠ 0 := fun e => h1 (Hm0.out.2 e)
      simpa using this
    clear hm h4 h3
    go_enter Tryz.func164, Tryz.ntmps164
    go_wp2_with (first | (go_at_call 168; refine (HS.out _).mono ?_; rintro e w1 ⟨rfl, hw1⟩; replace hw1 := hw1.symm; subst hw1) | (go_at_call 169; refine (HR.out _).mono ?_; rintro e w1 ⟨rfl, hw1⟩; replace hw1 := hw1.symm; subst hw1) | (go_at_call 177; refine (bool2_no _).mono ?_; rintro e w1 ⟨rfl, hw1⟩; replace hw1 := hw1.symm; subst hw1) | (go_at_call 179; refine HE.out.mono ?_; rintro e w1 ⟨rfl, hw1⟩; replace hw1 := hw1.symm; subst hw1))
    go_ret3
    exact ⟨rfl, rfl⟩
set_option maxHeartbeats 8000000 in
set_option maxRecDepth 100000 in
theorem meaning_of (t : ByteArray) (hsz : 0 < t.size) (hmax : t.size ≤ 11) (hch : F.Chr t) (h0 : 1 < t.size → (t[0]'hsz).toNat = 48) (r : Nat) (hr : F.Is (F.run t.data.toList) r) (w : World) (hT : Tb w) :
    Calls Tryz.prog 133 #[.string t] w fun e w' => e = .returned (.float .f64 r) ∧ w' = w := by
  have HA := hide' (atof_any t hsz hmax hch h0 r hr w hT)
  clear hch h0 hr hT hmax hsz
  have p1 : Calls Tryz.prog 157 #[.string t, .int .i64 64] w fun e w' => e = .returned (.tuple #[.float .f64 r, .int .i64 t.size, .nilIface]) ∧ w' = w := by
    go_enter Tryz.func157, Tryz.ntmps157
    go_wp2_with (go_at_call 164; refine HA.out.mono ?_; rintro e w1 ⟨rfl, hw1⟩; replace hw1 := hw1.symm; subst hw1)
    go_ret3
    exact ⟨rfl, rfl⟩
  have H1 := hide' p1
  have p2 : Calls Tryz.prog 151 #[.string t, .int .i64 64] w fun e w' => e = .returned (.tuple #[.float .f64 r, .nilIface]) ∧ w' = w := by
    clear p1
    go_enter Tryz.func151, Tryz.ntmps151
    go_wp2_with (go_at_call 157; refine H1.out.mono ?_; rintro e w1 ⟨rfl, hw1⟩; replace hw1 := hw1.symm; subst hw1)
    go_ret2
    exact ⟨rfl, rfl⟩
  have H2 := hide' p2
  have p3 : Calls Tryz.prog 144 #[.string t, .int .i64 64] w fun e w' => e = .returned (.tuple #[.float .f64 r, .nilIface]) ∧ w' = w := by
    clear p1 p2
    go_enter Tryz.func144, Tryz.ntmps144
    go_wp2_with (go_at_call 151; refine H2.out.mono ?_; rintro e w1 ⟨rfl, hw1⟩; replace hw1 := hw1.symm; subst hw1)
    go_ret2
    exact ⟨rfl, rfl⟩
  have H3 := hide' p3
  clear p1 p2 p3 H1 H2 HA
  go_enter Tryz.func133, Tryz.ntmps133
  go_wp2_with (go_at_call 144; refine H3.out.mono ?_; rintro e w1 ⟨rfl, hw1⟩; replace hw1 := hw1.symm; subst hw1)
  go_ret
  exact ⟨rfl, rfl⟩
end Go.Proofs.YtppcofopnelgjaaGreatDoor
set_option linter.unusedVariables false
set_option linter.unusedSimpArgs false
namespace Go.Proofs.YtppcofopnelgjaaGreatDoor
open Go.RowKit
theorem allD_bytes (s : ByteArray) (f i : Nat) (hf : s.size ≤ i + f) (h : L.allD s f i = true) : ∀ j, i ≤ j → j < s.size → 48 ≤ L.bt s j ∧ L.bt s j ≤ 57 := by
  induction f generalizing i with
  | zero => intro j h1 h2; omega
  | succ f ih =>
    intro j h1 h2
    rw [L.allD, if_pos (show i < s.size by omega), Bool.and_eq_true] at h
    obtain ⟨hd, hr⟩ := h
    have hd' : 48 ≤ L.rn s i ∧ L.rn s i ≤ 57 := by simpa [L.isDigit] using hd
    have hlt : L.bt s i < 128 := by
      rcases Nat.lt_or_ge (L.bt s i) 128 with q | q
      · exact q
      · have := L.rn_ge s i q; omega
    obtain ⟨e1, e2⟩ := L.rn_lt s i hlt
    rw [e2] at hr
    by_cases hj : j = i
    · subst hj; omega
    · exact ih (i + 1) (by omega) hr j (by omega) h2
namespace F
theorem fold_digits (ds : List UInt8) (hd : ∀ c ∈ ds, 48 ≤ c.toNat ∧ c.toNat ≤ 57) : ∀ (nd : Nat) (dp : Int) (m : Nat), (nd = 0 → m = 0) →
    (ds.foldl (fun s c => step s c.toNat) ⟨true, true, nd, dp, m⟩).m = ds.foldl (fun n c => 10 * n + (c.toNat - 48)) m ∧ (ds.foldl (fun s c => step s c.toNat) ⟨true, true, nd, dp, m⟩).dot = true ∧
    (ds.foldl (fun s c => step s c.toNat) ⟨true, true, nd, dp, m⟩).dp - ((ds.foldl (fun s c => step s c.toNat) ⟨true, true, nd, dp, m⟩).nd : Int) = dp - (nd : Int) - (ds.length : Int) := by
  induction ds with
  | nil => intro nd dp m _; simp
  | cons c cs ih =>
    intro nd dp m h0
    have hc := hd c (List.mem_cons_self ..)
    have hcs := fun x hx => hd x (List.mem_cons_of_mem c hx)
    simp only [List.foldl_cons]
    have hst : step ⟨true, true, nd, dp, m⟩ c.toNat = if c.toNat = 48 ∧ nd = 0 then ⟨true, true, nd, dp - 1, m⟩ else ⟨true, true, nd + 1, dp, m * 10 + (c.toNat - 48)⟩ := by
      unfold step; rw [if_neg (by omega)]
    rw [hst]
    by_cases hz : c.toNat = 48 ∧ nd = 0
    · rw [if_pos hz]
      obtain ⟨q1, q2, q3⟩ := ih hcs nd (dp - 1) m h0
      have hm := h0 hz.2
      refine ⟨?_, q2, ?_⟩
      · rw [q1]; congr 1; omega
      · rw [q3]; simp; omega
    · rw [if_neg hz]
      obtain ⟨q1, q2, q3⟩ := ih hcs (nd + 1) dp (m * 10 + (c.toNat - 48)) (by omega)
      refine ⟨?_, q2, ?_⟩
      · rw [q1]; congr 1; omega
      · rw [q3]; simp; omega
theorem digs_lt (ds : List UInt8) (hd : ∀ c ∈ ds, 48 ≤ c.toNat ∧ c.toNat ≤ 57) : ∀ n k, n < 10 ^ k → ds.foldl (fun n c => 10 * n + (c.toNat - 48)) n < 10 ^ (k + ds.length) := by
  induction ds with
  | nil => intro n k h; exact h
  | cons c cs ih =>
    intro n k h
    have hc := hd c (List.mem_cons_self ..)
    simp only [List.foldl_cons, List.length_cons]
    have := ih (fun x hx => hd x (List.mem_cons_of_mem c hx)) (10 * n + (c.toNat - 48)) (k + 1) (by rw [Nat.pow_succ]; omega)
    rw [show k + (cs.length + 1) = k + 1 + cs.length by omega]
    exact this
theorem pow_read (k : Nat) (h1 : 1 ≤ k) (h9 : k ≤ 9) : (match FloatKind.f64.format.read (FloatKind.f64.nearest (10 ^ k : Nat)) with | .number _ n _ => decide (n ≠ 0) | _ => false) = true := by
  obtain rfl | rfl | rfl | rfl | rfl | rfl | rfl | rfl | rfl : k = 1 ∨ k = 2 ∨ k = 3 ∨ k = 4 ∨ k = 5 ∨ k = 6 ∨ k = 7 ∨ k = 8 ∨ k = 9 := by omega
  all_goals kernel_rfl
theorem zero_quo (k : Nat) (h1 : 1 ≤ k) (h9 : k ≤ 9) : FloatKind.f64.format.div (FloatKind.f64.nearest 0) (FloatKind.f64.nearest (10 ^ k : Nat)) = some 0 := by
  obtain rfl | rfl | rfl | rfl | rfl | rfl | rfl | rfl | rfl : k = 1 ∨ k = 2 ∨ k = 3 ∨ k = 4 ∨ k = 5 ∨ k = 6 ∨ k = 7 ∨ k = 8 ∨ k = 9 := by omega
  all_goals kernel_rfl
theorem read_not_nan (f : Ieee.Format) (x : Nat) (hx : x ≤ f.infRung) (hlt : f.infRung < f.signWeight) : ∀ s t, f.read x ≠ .nan s t := by
  intro s t h
  unfold Ieee.Format.read at h
  generalize f.signWeight = S at *
  generalize f.infRung = R at *
  generalize f.binade = B at *
  rw [Nat.mod_eq_of_lt (show x < S by omega)] at h
  simp only at h
  split at h
  · cases h
  · split at h
    · cases h
    · split at h
      · cases h
      · omega
theorem nearest_le (f : Ieee.Format) (mag : Nat) (place : Int) : f.nearest false mag place ≤ f.infRung := by
  unfold Ieee.Format.nearest
  split
  · exact Nat.zero_le _
  · exact Nat.min_le_right _ _
theorem nearest_nat (m : Nat) : FloatKind.f64.nearest (m : Int) = FloatKind.f64.format.nearest false m 0 := by
  unfold FloatKind.nearest FloatKind.encode Ieee.Format.write
  rw [show decide ((m : Int) < 0) = false by simp, Int.natAbs_natCast]
theorem inf_lt : FloatKind.f64.format.infRung < FloatKind.f64.format.signWeight := by decide
theorem read_nearest (m : Nat) : ∀ s f, FloatKind.f64.format.read (FloatKind.f64.nearest (m : Int)) ≠ .nan s f := by
  rw [nearest_nat]
  exact read_not_nan _ _ (nearest_le _ _ _) inf_lt
theorem quo_some (m k : Nat) (h1 : 1 ≤ k) (h9 : k ≤ 9) : ∃ r, FloatKind.f64.format.div (FloatKind.f64.nearest (m : Int)) (FloatKind.f64.nearest (10 ^ k : Nat)) = some r := by
  have hx := read_nearest m
  have hy := pow_read k h1 h9
  unfold Ieee.Format.div
  generalize FloatKind.f64.format.read (FloatKind.f64.nearest (m : Int)) = x at *
  generalize FloatKind.f64.format.read (FloatKind.f64.nearest (10 ^ k : Nat)) = y at *
  cases y with
  | nan => simp at hy
  | infinity => simp at hy
  | number t n j =>
    have hn : n ≠ 0 := by simpa using hy
    cases x with
    | nan s f => exact absurd rfl (hx s f)
    | infinity s => exact ⟨_, rfl⟩
    | number s m i => simp [Ieee.Datum.quotient, hn]
end F
end Go.Proofs.YtppcofopnelgjaaGreatDoor
set_option linter.unusedVariables false
set_option linter.unusedSimpArgs false
namespace Go.Proofs.YtppcofopnelgjaaGreatDoor
open Go.RowKit
theorem get_list (t : ByteArray) (k : Nat) (h : k < t.size) (c : UInt8) (hc : t.data.toList[k]? = some c) : t[k]'h = c := by
  have hl : k < t.data.toList.length := by rw [Array.length_toList]; exact h
  rw [List.getElem?_eq_getElem hl] at hc
  have e2 : t.data.toList[k]'hl = t[k]'h := by simp [ByteArray.getElem_eq_getElem_data]
  rw [← e2]; exact Option.some.inj hc
theorem size_list (t : ByteArray) : t.size = t.data.toList.length := by rw [Array.length_toList]; rfl
/-- a number is read, and what it means -/
theorem num_ok (t : ByteArray) (h : L.isNum t = true) : ∃ hsz : 0 < t.size, t.size ≤ 11 ∧ F.Chr t ∧ (1 < t.size → (t[0]'hsz).toNat = 48) ∧ F.Is (F.run t.data.toList) (R.val t) := by
  unfold L.isNum at h
  rw [Bool.or_eq_true, Bool.or_eq_true, ByteArray.toList_eq] at h
  have hsl := size_list t
  rcases h with h | h | h
  · have e : t.data.toList = [48] := by simpa using h
    have hs : t.size = 1 := by rw [hsl, e]; rfl
    refine ⟨by omega, by omega, ?_, fun q => by omega, ?_⟩
    · intro k hk
      obtain rfl : k = 0 := by omega
      rw [get_list t 0 hk 48 (by rw [e]; rfl)]
      right; decide
    · left
      rw [e]
      refine ⟨by decide, ?_⟩
      unfold R.val
      rw [ByteArray.toList_eq, e]; rfl
  · have e : t.data.toList = [49] := by simpa using h
    have hs : t.size = 1 := by rw [hsl, e]; rfl
    refine ⟨by omega, by omega, ?_, fun q => by omega, ?_⟩
    · intro k hk
      obtain rfl : k = 0 := by omega
      rw [get_list t 0 hk 49 (by rw [e]; rfl)]
      right; decide
    · right; left
      rw [e]
      refine ⟨by decide, by decide, by decide, ?_⟩
      unfold R.val
      rw [ByteArray.toList_eq, e]; rfl
  · simp only [Bool.and_eq_true, decide_eq_true_eq] at h
    obtain ⟨hp, h3, h11, hd⟩ := h
    obtain ⟨ds, hds⟩ := List.isPrefixOf_iff_prefix.1 hp
    have e : t.data.toList = 48 :: 46 :: ds := hds.symm
    have hlen : t.size = ds.length + 2 := by rw [hsl, e]; rfl
    have hex : (t.extract 2 t.size).data.toList = ds := by
      rw [ByteArray.data_extract, Array.toList_extract, e]
      simp [List.extract]
      exact List.take_of_length_le (by omega)
    have hexs : (t.extract 2 t.size).size = ds.length := by rw [size_list, hex]
    have hall := allD_bytes _ _ 0 (by omega) hd
    have hdig : ∀ c ∈ ds, 48 ≤ c.toNat ∧ c.toNat ≤ 57 := by
      intro c hc
      obtain ⟨j, hj, rfl⟩ := List.getElem_of_mem hc
      have := hall j (by omega) (by omega)
      have hb : L.bt (t.extract 2 t.size) j = (ds[j]'hj).toNat := by
        unfold L.bt
        have : (t.extract 2 t.size).get! j = ds[j]'hj := by
          have hj2 : j < (t.extract 2 t.size).size := by omega
          have q := get_list (t.extract 2 t.size) j hj2 (ds[j]'hj) (by rw [hex, List.getElem?_eq_getElem hj])
          rw [← q]
          unfold ByteArray.get!
          show (t.extract 2 t.size).data[j]! = _
          rw [getElem!_pos _ j (by exact hj2)]
          simp [ByteArray.getElem_eq_getElem_data]
        rw [this]
      omega
    have hk : ds.length ≤ 9 := by omega
    have hk1 : 1 ≤ ds.length := by omega
    refine ⟨by omega, h11, ?_, fun _ => ?_, ?_⟩
    · intro k hkk
      match k, hkk with
      | 0, hkk => right; rw [get_list t 0 hkk 48 (by rw [e]; rfl)]; decide
      | 1, hkk => left; rw [get_list t 1 hkk 46 (by rw [e]; rfl)]; decide
      | k + 2, hkk =>
        right
        have hj : k < ds.length := by omega
        rw [get_list t (k + 2) hkk (ds[k]'hj) (by rw [e]; simp [List.getElem?_eq_getElem hj])]
        exact ⟨by omega, hdig _ (List.getElem_mem _)⟩
    · rw [get_list t 0 (by omega) 48 (by rw [e]; rfl)]; decide
    · have hrun : F.run t.data.toList = ds.foldl (fun s c => F.step s c.toNat) ⟨true, true, 0, 0, 0⟩ := by rw [e]; rfl
      obtain ⟨f1, f2, f3⟩ := F.fold_digits ds hdig 0 0 0 (fun _ => rfl)
      rw [← hrun] at f1 f2 f3
      have hdg : R.digs (t.data.toList.drop 2) = (F.run t.data.toList).m := by rw [f1, e]; rfl
      have hlt : (F.run t.data.toList).m < 1000000000 := by
        rw [f1]
        have := F.digs_lt ds hdig 0 0 (by decide)
        have q : 10 ^ (0 + ds.length) ≤ 10 ^ 9 := Nat.pow_le_pow_right (by omega) (by omega)
        have q2 : (10 : Nat) ^ 9 = 1000000000 := by decide
        omega
      have hval : R.val t = (FloatKind.f64.format.div (FloatKind.f64.nearest ((F.run t.data.toList).m : Nat)) (FloatKind.f64.nearest (10 ^ ds.length : Nat))).getD 0 := by
        unfold R.val
        rw [ByteArray.toList_eq, hdg, show t.size - 2 = ds.length by omega, e]
        have n1 : ((48 :: 46 :: ds : List UInt8) == [48]) = false := by simp
        have n2 : ((48 :: 46 :: ds : List UInt8) == [49]) = false := by simp
        rw [n1, n2]; rfl
      by_cases hm : (F.run t.data.toList).m = 0
      · left
        refine ⟨hm, ?_⟩
        rw [hval, hm]
        have := F.zero_quo ds.length hk1 hk
        rw [show ((0 : Nat) : Int) = 0 from rfl, this]; rfl
      · right; right
        obtain ⟨r, hr⟩ := F.quo_some (F.run t.data.toList).m ds.length hk1 hk
        refine ⟨hm, hlt, ds.length, hk1, hk, ?_, ?_⟩
        · unfold F.exp
          rw [if_neg hm, f2, if_pos rfl, f3]; omega
        · rw [hval, hr]; rfl
theorem meaning_any (t : ByteArray) (h : L.isNum t = true) (w : World) (hT : Tb w) :
    Calls Tryz.prog 133 #[.string t] w fun e w' => e = .returned (.float .f64 (R.val t)) ∧ w' = w := by
  obtain ⟨h1, h2, h3, h4, h5⟩ := num_ok t h
  exact meaning_of t h1 h2 h3 h4 _ h5 w hT
end Go.Proofs.YtppcofopnelgjaaGreatDoor
