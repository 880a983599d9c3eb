import Derived.Test.YtppcofopnelgjaaGreatDoorRNu
import Derived.Test.YtppcofopnelgjaaGreatDoorHex
import Derived.WalkMore
set_option linter.unusedVariables false
set_option linter.unusedSimpArgs false
namespace Go.Proofs.YtppcofopnelgjaaGreatDoor
open Go.RowKit
namespace F
/-- the reading of a number, character by character -/
structure St where
  dot : Bool
  dig : Bool
  nd : Nat
  dp : Int
  m : Nat
def st0 : St := ⟨false, false, 0, 0, 0⟩
def step (s : St) (c : Nat) : St :=
  if c = 46 then { s with dot := true, dp := (s.nd : Int) } else
  if c = 48 ∧ s.nd = 0 then { s with dig := true, dp := s.dp - 1 } else { s with dig := true, nd := s.nd + 1, m := s.m * 10 + (c - 48) }
def run (l : List UInt8) : St := l.foldl (fun s c => step s c.toNat) st0
end F
set_option maxHeartbeats 8000000 in
set_option maxRecDepth 100000 in
theorem special_no (t : ByteArray) (hsz : 0 < t.size) (hb : 48 ≤ (t[0]'hsz).toNat ∧ (t[0]'hsz).toNat ≤ 57) (w : World) :
    Calls Tryz.prog 168 #[.string t] w fun e w' => e = .returned (.tuple #[.float .f64 0, .int .i64 0, .bool false]) ∧ w' = w := by
  have hemp : t.toList.isEmpty = false := by
    rw [← decide_eq_emptyBytes]
    exact decide_eq_false (fun h => by rw [h] at hsz; simp at hsz)
  obtain ⟨n, hn⟩ : ∃ n, (t[0]'hsz).toNat = n := ⟨_, rfl⟩
  rw [hn] at hb
  have b1 : ((n : Int) == 43) = false := by simp; omega
  have b2 : ((n : Int) == 45) = false := by simp; omega
  have b3 : ((n : Int) == 105) = false := by simp; omega
  have b4 : ((n : Int) == 73) = false := by simp; omega
  have b5 : ((n : Int) == 110) = false := by simp; omega
  have b6 : ((n : Int) == 78) = false := by simp; omega
  have Hb := hide' hb
  clear hb
  go_enter Tryz.func168, Tryz.ntmps168
  go_wp2
  first | go_ret2 | go_ret3
  exact ⟨rfl, rfl⟩
theorem results_tmp7 {fn : Func} {a b c d e f g : Tmp} (h : fn.results = #[.tmp a, .tmp b, .tmp c, .tmp d, .tmp e, .tmp f, .tmp g]) (tmps : Array Value) (P : Program) (w : World) :
    (results fn tmps).run P w = .ok (.tuple #[tmps.getD a undef, tmps.getD b undef, tmps.getD c undef, tmps.getD d undef, tmps.getD e undef, tmps.getD f undef, tmps.getD g undef]) w := by
  simp [results, h]
namespace F
def exp (s : St) : Int := if s.m = 0 then 0 else (if s.dot then s.dp else (s.nd : Int)) - (s.nd : Int)
/-- what holds of the reading behind k characters -/
structure Inv (s : St) (k : Nat) : Prop where
  dot : s.dot = decide (2 ≤ k)
  dig : s.dig = decide (1 ≤ k)
  nd : s.nd ≤ k
  m : s.m < 10 ^ s.nd
  dp0 : -(k : Int) ≤ s.dp
  dp1 : s.dp ≤ (k : Int)
def Chr (t : ByteArray) : Prop := ∀ k (h : k < t.size), (k = 1 ∧ (t[k]'h).toNat = 46) ∨ (k ≠ 1 ∧ 48 ≤ (t[k]'h).toNat ∧ (t[k]'h).toNat ≤ 57)
theorem run_take (t : ByteArray) (k : Nat) (h : k < t.size) : run (t.data.toList.take (k + 1)) = step (run (t.data.toList.take k)) (t[k]'h).toNat := by
  have hl : k < t.data.toList.length := by rw [Array.length_toList]; exact h
  have e : t.data.toList.take (k + 1) = t.data.toList.take k ++ [t.data.toList[k]'hl] := by rw [List.take_add_one, List.getElem?_eq_getElem hl]; rfl
  have e2 : t.data.toList[k]'hl = t[k]'h := by simp [ByteArray.getElem_eq_getElem_data]
  unfold run
  rw [e, List.foldl_append, e2]
  rfl
theorem inv0 : Inv st0 0 := ⟨rfl, rfl, Nat.le_refl _, by decide, by decide, by decide⟩
end F
set_option maxHeartbeats 8000000 in
set_option maxRecDepth 100000 in
theorem readFloat_any (t : ByteArray) (hsz : 0 < t.size) (hmax : t.size ≤ 11) (hch : F.Chr t) (h0 : 1 < t.size → (t[0]'hsz).toNat = 48) (w : World) :
    Calls Tryz.prog 169 #[.string t] w fun e w' => e = .returned (.tuple #[.int .u64 (F.run t.data.toList).m, .int .i64 (F.exp (F.run t.data.toList)), .bool false, .bool false, .bool false, .int .i64 t.size, .bool true]) ∧ w' = w := by
  have hne : ¬ t = ByteArray.empty := fun h => by rw [h] at hsz; simp at hsz
  obtain ⟨n, hn⟩ : ∃ n, (t[0]'hsz).toNat = n := ⟨_, rfl⟩
  have hb : 48 ≤ n ∧ n ≤ 57 := by
    have := hch 0 hsz
    rw [hn] at this; omega
  have b1 : ((n : Int) == 43) = false := by simp; omega
  have b2 : ((n : Int) == 45) = false := by simp; omega
  have Hch := hide' hch
  clear hb
  by_cases h3 : 2 < t.size
  · have q1 : (t[1]'(by omega)).toNat = 46 := by
      have := hch 1 (by omega); omega
    have q0 := h0 (by omega)
    rw [hn] at q0
    subst q0
    have hor : bits .or .u8 46 32 = 46 := rfl
    clear hch h0
    go_enter Tryz.func169, Tryz.ntmps169
    go_wp2
    go_step3
    go_wp2_with ((go_at_call 182; refine (sh.internal_strconv_lower _ _).mono ?_; rintro e w1 ⟨rfl, hw1⟩; replace hw1 := hw1.symm; subst hw1))
    go_step3
    go_wp2
    go_loop [2, 5, 7, 9, 13, 14, 15, 16, 17] (fun v2 v5 v7 v9 v13 v14 v15 v16 v17 => ∃ (k : Nat) (s : F.St) (M : Int), k ≤ t.size ∧ v5 = .bool false ∧ v9 = .bool false ∧ v2 = .int .u64 M ∧ v7 = .int .i64 (k : Int) ∧ v13 = .bool s.dot ∧ v14 = .bool s.dig ∧ v15 = .int .i64 (s.nd : Int) ∧ v16 = .int .i64 (s.nd : Int) ∧ v17 = .int .i64 s.dp ∧ Hid (M = (s.m : Int) ∧ s = F.run (t.data.toList.take k) ∧ F.Inv s k)) (fun _ _ v7 _ _ _ _ _ _ => t.size - (intOf v7).toNat)
    case atStart => exact ⟨0, F.st0, 0, Nat.zero_le _, rfl, rfl, rfl, rfl, rfl, rfl, rfl, rfl, rfl, rfl, rfl, F.inv0⟩
    case round =>
      obtain ⟨k, s, M, hk, rfl, rfl, rfl, rfl, rfl, rfl, rfl, rfl, rfl, hh⟩ := hrel
      obtain ⟨hM, hs, hinv⟩ := hh.out
      clear hh
      obtain ⟨dot, dig, nd, dp, m⟩ := s
      have i1 := hinv.dot
      have i2 := hinv.dig
      have i3 := hinv.nd
      have i4 := hinv.m
      have i5 := hinv.dp0
      have i6 := hinv.dp1
      simp only at i1 i2 i3 i4 i5 i6 ⊢
      have i7 : 10 ^ nd ≤ 10 ^ 11 := Nat.pow_le_pow_right (by omega) (by omega)
      have hM' : M = (m : Int) := hM
      have i8 : M < 100000000000 := by
        have : (10 : Nat) ^ 11 = 100000000000 := by decide
        omega
      have i9 : 0 ≤ M := by omega
      have HM := hide' hM'
      clear i7 hM hM'
      by_cases hkn : k < t.size
      · have hrun := F.run_take t k hkn
        have hcc := Hch.out k hkn
        obtain ⟨c, hc⟩ : ∃ c, (t[k]'hkn).toNat = c := ⟨_, rfl⟩
        rw [hc] at hcc hrun
        rw [← hs] at hrun
        rcases hcc with ⟨rfl, rfl⟩ | ⟨hk1, d0, d1⟩
        · have i1' : dot = false := i1
          subst i1'
          have i2' : dig = true := i2
          subst i2'
          have HF := hide' hrun
          have HI : Hid (F.Inv ⟨true, true, nd, (nd : Int), m⟩ 2) := ⟨rfl, rfl, (show nd ≤ 2 by omega), i4, (show -((2 : Nat) : Int) ≤ (nd : Int) by omega), (show (nd : Int) ≤ ((2 : Nat) : Int) by omega)⟩
          clear hrun hs hinv i1 i2 i4
          go_wp2
          refine ⟨⟨2, ⟨true, true, nd, (nd : Int), m⟩, M, by omega, rfl, rfl, rfl, rfl, rfl, rfl, rfl, rfl, rfl, HM.out, ?_, HI.out⟩, by simp [intOf]; omega⟩
          rw [HF.out]; rfl
        · have i2' : Hid (F.step ⟨dot, dig, nd, dp, m⟩ c = if c = 48 ∧ nd = 0 then ⟨dot, true, nd, dp - 1, m⟩ else ⟨dot, true, nd + 1, dp, m * 10 + (c - 48)⟩) := by
            show _ = _
            unfold F.step
            rw [if_neg (by omega)]
          have hdk : Hid (dot = decide (2 ≤ k + 1)) := by
            show _ = _
            rw [i1]; simp; omega
          have p1 : ((c : Int) == 95) = false := by simp; omega
          have p2 : ((c : Int) == 46) = false := by simp; omega
          have d0' : (48 : Int) ≤ (c : Int) := by omega
          have d1' : (c : Int) ≤ 57 := by omega
          have hnd : (nd : Int) < 19 := by omega
          by_cases hz : c = 48 ∧ nd = 0
          · obtain ⟨rfl, rfl⟩ := hz
            rw [i2'.out] at hrun
            have HF : Hid (F.run (List.take (k + 1) t.data.toList) = ⟨dot, true, 0, dp - 1, m⟩) := by
              show _ = _; rw [hrun]; simp
            have HI : Hid (F.Inv ⟨dot, true, 0, dp - 1, m⟩ (k + 1)) := ⟨hdk.out, by simp, Nat.zero_le _, i4, (show -((k + 1 : Nat) : Int) ≤ dp - 1 by omega), (show dp - 1 ≤ ((k + 1 : Nat) : Int) by omega)⟩
            clear hrun hs hinv i1 i2 i2' i4 hdk hnd
            go_wp2
            refine ⟨⟨k + 1, ⟨dot, true, 0, dp - 1, m⟩, M, by omega, rfl, rfl, rfl, (by first | rfl | (congr 1; omega)), rfl, rfl, rfl, rfl, (by first | rfl | (congr 1; omega)), HM.out, HF.out.symm, HI.out⟩, by simp [intOf]; omega⟩
          · rw [i2'.out, if_neg hz] at hrun
            have HF := hide' hrun
            have hmc : Hid (M * 10 + ((c : Int) - 48) = ((m * 10 + (c - 48) : Nat) : Int)) := by
              show _ = _
              rw [HM.out]; omega
            have HI : Hid (F.Inv ⟨dot, true, nd + 1, dp, m * 10 + (c - 48)⟩ (k + 1)) := ⟨hdk.out, by simp, (show nd + 1 ≤ k + 1 by omega), (show m * 10 + (c - 48) < 10 ^ (nd + 1) by rw [Nat.pow_succ]; omega), (show -((k + 1 : Nat) : Int) ≤ dp by omega), (show dp ≤ ((k + 1 : Nat) : Int) by omega)⟩
            have hzz : ((c : Int) == 48 && ((nd : Int) == 0)) = false := by
              simp; omega
            have Hzz := hide' hz
            clear hrun hs hinv i1 i2 i2' i4 hdk
            by_cases z1 : c = 48
            · subst z1
              have z2 : ((nd : Int) == 0) = false := by simp; omega
              clear hzz hz
              go_wp2
              refine ⟨⟨k + 1, ⟨dot, true, nd + 1, dp, m * 10 + (48 - 48)⟩, M * 10 + (((48 : Nat) : Int) - 48), by omega, rfl, rfl, (by first | rfl | (congr 1; omega)), (by first | rfl | (congr 1; omega)), rfl, rfl, (by first | rfl | (congr 1; omega)), (by first | rfl | (congr 1; omega)), rfl, hmc.out, HF.out.symm, HI.out⟩, by simp [intOf]; omega⟩
            · have z2 : ((c : Int) == 48) = false := by simp; omega
              clear hzz hz
              go_wp2
              refine ⟨⟨k + 1, ⟨dot, true, nd + 1, dp, m * 10 + (c - 48)⟩, M * 10 + ((c : Int) - 48), by omega, rfl, rfl, (by first | rfl | (congr 1; omega)), (by first | rfl | (congr 1; omega)), rfl, rfl, (by first | rfl | (congr 1; omega)), (by first | rfl | (congr 1; omega)), rfl, hmc.out, HF.out.symm, HI.out⟩, by simp [intOf]; omega⟩
      · have hke : k = t.size := by omega
        have hfin : F.run t.data.toList = ⟨dot, dig, nd, dp, m⟩ := by
          rw [hs, hke, List.take_of_length_le (by rw [Array.length_toList]; exact Nat.le_refl _)]
        have hdig : dig = true := by rw [i2]; simp; omega
        have hd0 : m = 0 → M = 0 := fun q => by have := HM.out; omega
        subst hdig
        have HD := hide' hd0
        have Hfin := hide' hfin
        clear hfin hs hinv i1 i2 i4 hd0
        have HK := hide' hke
        clear hke
        have hfe : Hid (∀ a b : Int, a = M → b = F.exp (F.run t.data.toList) → Ending.returned (.tuple #[.int .u64 a, .int .i64 b, .bool false, .bool false, .bool false, .int .i64 (k : Int), .bool true]) = .returned (.tuple #[.int .u64 (F.run t.data.toList).m, .int .i64 (F.exp (F.run t.data.toList)), .bool false, .bool false, .bool false, .int .i64 t.size, .bool true])) := by
          intro a b ha hb
          rw [ha, hb, HM.out, Hfin.out, HK.out]
        by_cases hm : m = 0
        · have hM0 := HD.out hm
          subst hM0
          have he : Hid (0 = F.exp (F.run t.data.toList)) := by
            show _ = _
            rw [Hfin.out]; simp [F.exp, hm]
          cases dot
          all_goals
            go_wp2
            refine bodyPost_ret (results_tmp7 rfl _ _ _) rfl ?_
            exact ⟨hfe.out _ _ rfl he.out, rfl⟩
        · have hM0 : (M == 0) = false := by
            have := HM.out
            simp; omega
          cases dot
          · have he : Hid ((nd : Int) - (nd : Int) = F.exp (F.run t.data.toList)) := by
              show _ = _
              rw [Hfin.out]; simp [F.exp, hm]
            go_wp2
            refine bodyPost_ret (results_tmp7 rfl _ _ _) rfl ?_
            exact ⟨hfe.out _ _ rfl (by first | exact he.out | (rw [← he.out]; omega)), rfl⟩
          · have he : Hid (dp - (nd : Int) = F.exp (F.run t.data.toList)) := by
              show _ = _
              rw [Hfin.out]; simp [F.exp, hm]
            go_wp2
            refine bodyPost_ret (results_tmp7 rfl _ _ _) rfl ?_
            exact ⟨hfe.out _ _ rfl (by first | exact he.out | (rw [← he.out]; omega)), rfl⟩
  · clear hch h0
    go_enter Tryz.func169, Tryz.ntmps169
    go_wp2
    go_step3
    go_wp2
    go_step3
    go_wp2
    go_loop [2, 5, 7, 9, 13, 14, 15, 16, 17] (fun v2 v5 v7 v9 v13 v14 v15 v16 v17 => ∃ (k : Nat) (s : F.St) (M : Int), k ≤ t.size ∧ v5 = .bool false ∧ v9 = .bool false ∧ v2 = .int .u64 M ∧ v7 = .int .i64 (k : Int) ∧ v13 = .bool s.dot ∧ v14 = .bool s.dig ∧ v15 = .int .i64 (s.nd : Int) ∧ v16 = .int .i64 (s.nd : Int) ∧ v17 = .int .i64 s.dp ∧ Hid (M = (s.m : Int) ∧ s = F.run (t.data.toList.take k) ∧ F.Inv s k)) (fun _ _ v7 _ _ _ _ _ _ => t.size - (intOf v7).toNat)
    case atStart => exact ⟨0, F.st0, 0, Nat.zero_le _, rfl, rfl, rfl, rfl, rfl, rfl, rfl, rfl, rfl, rfl, rfl, F.inv0⟩
    case round =>
      obtain ⟨k, s, M, hk, rfl, rfl, rfl, rfl, rfl, rfl, rfl, rfl, rfl, hh⟩ := hrel
      obtain ⟨hM, hs, hinv⟩ := hh.out
      clear hh
      obtain ⟨dot, dig, nd, dp, m⟩ := s
      have i1 := hinv.dot
      have i2 := hinv.dig
      have i3 := hinv.nd
      have i4 := hinv.m
      have i5 := hinv.dp0
      have i6 := hinv.dp1
      simp only at i1 i2 i3 i4 i5 i6 ⊢
      have i7 : 10 ^ nd ≤ 10 ^ 11 := Nat.pow_le_pow_right (by omega) (by omega)
      have hM' : M = (m : Int) := hM
      have i8 : M < 100000000000 := by
        have : (10 : Nat) ^ 11 = 100000000000 := by decide
        omega
      have i9 : 0 ≤ M := by omega
      have HM := hide' hM'
      clear i7 hM hM'
      by_cases hkn : k < t.size
      · have hrun := F.run_take t k hkn
        have hcc := Hch.out k hkn
        obtain ⟨c, hc⟩ : ∃ c, (t[k]'hkn).toNat = c := ⟨_, rfl⟩
        rw [hc] at hcc hrun
        rw [← hs] at hrun
        rcases hcc with ⟨rfl, rfl⟩ | ⟨hk1, d0, d1⟩
        · have i1' : dot = false := i1
          subst i1'
          have i2' : dig = true := i2
          subst i2'
          have HF := hide' hrun
          have HI : Hid (F.Inv ⟨true, true, nd, (nd : Int), m⟩ 2) := ⟨rfl, rfl, (show nd ≤ 2 by omega), i4, (show -((2 : Nat) : Int) ≤ (nd : Int) by omega), (show (nd : Int) ≤ ((2 : Nat) : Int) by omega)⟩
          clear hrun hs hinv i1 i2 i4
          go_wp2
          refine ⟨⟨2, ⟨true, true, nd, (nd : Int), m⟩, M, by omega, rfl, rfl, rfl, rfl, rfl, rfl, rfl, rfl, rfl, HM.out, ?_, HI.out⟩, by simp [intOf]; omega⟩
          rw [HF.out]; rfl
        · have i2' : Hid (F.step ⟨dot, dig, nd, dp, m⟩ c = if c = 48 ∧ nd = 0 then ⟨dot, true, nd, dp - 1, m⟩ else ⟨dot, true, nd + 1, dp, m * 10 + (c - 48)⟩) := by
            show _ = _
            unfold F.step
            rw [if_neg (by omega)]
          have hdk : Hid (dot = decide (2 ≤ k + 1)) := by
            show _ = _
            rw [i1]; simp; omega
          have p1 : ((c : Int) == 95) = false := by simp; omega
          have p2 : ((c : Int) == 46) = false := by simp; omega
          have d0' : (48 : Int) ≤ (c : Int) := by omega
          have d1' : (c : Int) ≤ 57 := by omega
          have hnd : (nd : Int) < 19 := by omega
          by_cases hz : c = 48 ∧ nd = 0
          · obtain ⟨rfl, rfl⟩ := hz
            rw [i2'.out] at hrun
            have HF : Hid (F.run (List.take (k + 1) t.data.toList) = ⟨dot, true, 0, dp - 1, m⟩) := by
              show _ = _; rw [hrun]; simp
            have HI : Hid (F.Inv ⟨dot, true, 0, dp - 1, m⟩ (k + 1)) := ⟨hdk.out, by simp, Nat.zero_le _, i4, (show -((k + 1 : Nat) : Int) ≤ dp - 1 by omega), (show dp - 1 ≤ ((k + 1 : Nat) : Int) by omega)⟩
            clear hrun hs hinv i1 i2 i2' i4 hdk hnd
            go_wp2
            refine ⟨⟨k + 1, ⟨dot, true, 0, dp - 1, m⟩, M, by omega, rfl, rfl, rfl, (by first | rfl | (congr 1; omega)), rfl, rfl, rfl, rfl, (by first | rfl | (congr 1; omega)), HM.out, HF.out.symm, HI.out⟩, by simp [intOf]; omega⟩
          · rw [i2'.out, if_neg hz] at hrun
            have HF := hide' hrun
            have hmc : Hid (M * 10 + ((c : Int) - 48) = ((m * 10 + (c - 48) : Nat) : Int)) := by
              show _ = _
              rw [HM.out]; omega
            have HI : Hid (F.Inv ⟨dot, true, nd + 1, dp, m * 10 + (c - 48)⟩ (k + 1)) := ⟨hdk.out, by simp, (show nd + 1 ≤ k + 1 by omega), (show m * 10 + (c - 48) < 10 ^ (nd + 1) by rw [Nat.pow_succ]; omega), (show -((k + 1 : Nat) : Int) ≤ dp by omega), (show dp ≤ ((k + 1 : Nat) : Int) by omega)⟩
            have hzz : ((c : Int) == 48 && ((nd : Int) == 0)) = false := by
              simp; omega
            have Hzz := hide' hz
            clear hrun hs hinv i1 i2 i2' i4 hdk
            by_cases z1 : c = 48
            · subst z1
              have z2 : ((nd : Int) == 0) = false := by simp; omega
              clear hzz hz
              go_wp2
              refine ⟨⟨k + 1, ⟨dot, true, nd + 1, dp, m * 10 + (48 - 48)⟩, M * 10 + (((48 : Nat) : Int) - 48), by omega, rfl, rfl, (by first | rfl | (congr 1; omega)), (by first | rfl | (congr 1; omega)), rfl, rfl, (by first | rfl | (congr 1; omega)), (by first | rfl | (congr 1; omega)), rfl, hmc.out, HF.out.symm, HI.out⟩, by simp [intOf]; omega⟩
            · have z2 : ((c : Int) == 48) = false := by simp; omega
              clear hzz hz
              go_wp2
              refine ⟨⟨k + 1, ⟨dot, true, nd + 1, dp, m * 10 + (c - 48)⟩, M * 10 + ((c : Int) - 48), by omega, rfl, rfl, (by first | rfl | (congr 1; omega)), (by first | rfl | (congr 1; omega)), rfl, rfl, (by first | rfl | (congr 1; omega)), (by first | rfl | (congr 1; omega)), rfl, hmc.out, HF.out.symm, HI.out⟩, by simp [intOf]; omega⟩
      · have hke : k = t.size := by omega
        have hfin : F.run t.data.toList = ⟨dot, dig, nd, dp, m⟩ := by
          rw [hs, hke, List.take_of_length_le (by rw [Array.length_toList]; exact Nat.le_refl _)]
        have hdig : dig = true := by rw [i2]; simp; omega
        have hd0 : m = 0 → M = 0 := fun q => by have := HM.out; omega
        subst hdig
        have HD := hide' hd0
        have Hfin := hide' hfin
        clear hfin hs hinv i1 i2 i4 hd0
        have HK := hide' hke
        clear hke
        have hfe : Hid (∀ a b : Int, a = M → b = F.exp (F.run t.data.toList) → Ending.returned (.tuple #[.int .u64 a, .int .i64 b, .bool false, .bool false, .bool false, .int .i64 (k : Int), .bool true]) = .returned (.tuple #[.int .u64 (F.run t.data.toList).m, .int .i64 (F.exp (F.run t.data.toList)), .bool false, .bool false, .bool false, .int .i64 t.size, .bool true])) := by
          intro a b ha hb
          rw [ha, hb, HM.out, Hfin.out, HK.out]
        by_cases hm : m = 0
        · have hM0 := HD.out hm
          subst hM0
          have he : Hid (0 = F.exp (F.run t.data.toList)) := by
            show _ = _
            rw [Hfin.out]; simp [F.exp, hm]
          cases dot
          all_goals
            go_wp2
            refine bodyPost_ret (results_tmp7 rfl _ _ _) rfl ?_
            exact ⟨hfe.out _ _ rfl he.out, rfl⟩
        · have hM0 : (M == 0) = false := by
            have := HM.out
            simp; omega
          cases dot
          · have he : Hid ((nd : Int) - (nd : Int) = F.exp (F.run t.data.toList)) := by
              show _ = _
              rw [Hfin.out]; simp [F.exp, hm]
            go_wp2
            refine bodyPost_ret (results_tmp7 rfl _ _ _) rfl ?_
            exact ⟨hfe.out _ _ rfl (by first | exact he.out | (rw [← he.out]; omega)), rfl⟩
          · have he : Hid (dp - (nd : Int) = F.exp (F.run t.data.toList)) := by
              show _ = _
              rw [Hfin.out]; simp [F.exp, hm]
            go_wp2
            refine bodyPost_ret (results_tmp7 rfl _ _ _) rfl ?_
            exact ⟨hfe.out _ _ rfl (by first | exact he.out | (rw [← he.out]; omega)), rfl⟩
end Go.Proofs.YtppcofopnelgjaaGreatDoor
