import Derived.Test.YtclmnkilfijeaaaDoorNuG
set_option linter.unusedVariables false
set_option linter.unusedSimpArgs false
namespace Go.Proofs.YtclmnkilfijeaaaDoor
open Go.RowKit
theorem Digs.turn {w w' : World} {b k n : Nat} {S : Nat → Prop} (h : Digs w b k n) (t : Turn S w w') (hb : b < w.heap.size) (hS : ¬ S b) : Digs w' b k n := fun j hj => (t.cell (p := ⟨b, j, none⟩) hb hS).trans (h j hj)
def Stay (p : Prop) : Prop := p
theorem stay {p : Prop} (h : Stay p) : p := h
theorem stay_app {P : Program} {ops : Array Oper} {rest : List Oper} {o : Oper} {a : Act} {Q : Exit → Act → World → Prop} {w : World} (s x : Operand) (ts : Array TypeId) (ho : o.op = .call { callee := .builtin .append, args := #[s, x], argTypes := ts }) (h : Stay (wpList P ops Q (o :: rest) a w)) : wpList P ops Q (o :: rest) a w := h
theorem take_dg (k n j : Nat) (h : j < k) : (Fp.dg k n).take (j + 1) = (Fp.dg k n).take j ++ [Lib.dg n (k - 1 - j)] := by
  have hl : j < (Fp.dg k n).length := by rw [Fp.dg_length]; exact h
  have e := dg_at k n j h
  rw [List.getElem?_eq_getElem hl] at e
  rw [List.take_succ_eq_append_getElem hl, Option.some.inj e]
set_option maxRecDepth 100000 in
set_option maxHeartbeats 8000000 in
theorem fmt_frac (B g0 g cap b d nd0 nd D : Nat) (w0 w : World) (h : RowB B g0 w0 [] g cap w) (hD : Digs w0 b nd0 d) (hb : b < w0.heap.size ∧ b ≠ g0) (hnd : nd ≤ nd0) (hnd0 : nd0 ≤ 24) (hDl : D ≤ 1100) (hp : 0 < nd + D) :
    Calls Tryd.prog 21 #[.slice (some ⟨g, 0, none⟩) 0 cap, .bool false, .slice (some ⟨b, 0, none⟩) 32 32, .int .i64 (-(D : Int)), .int .i64 nd, .int .i64 ((nd : Int) + D), .int .u8 102, .bool true] w fun e w' =>
      ∃ g' cap' l, e = .returned (.slice (some ⟨g', 0, none⟩) l.length cap') ∧ l = [48, 46] ++ List.replicate D 48 ++ (Fp.dg nd0 d).take nd ∧ RowB B g0 w0 l g' cap' w' := by
  obtain ⟨i0, hi, hz0, hz1, hz2⟩ := info_parts info5
  have H := hide' h
  have HD := hide' hD
  have n1 : (nd : Int) ≤ 24 := by omega
  have n2 : (D : Int) ≤ 1100 := by omega
  have n3 : 0 < (nd : Int) + D := by omega
  have n4 : 0 ≤ (D : Int) := by omega
  have n5 : 0 ≤ (nd : Int) := by omega
  have e1 : max (0 : Int) (D : Int) = D := by omega
  have e2 : min ((nd : Int) + D) (D : Int) = D := by omega
  have e3 : -(D : Int) + D = 0 := by omega
  have e4 : max (0 : Int) (nd : Int) = nd := by omega
  have HS := hide' (And.intro hb (And.intro hnd (And.intro hnd0 hDl)))
  clear h hD hb hnd hnd0 hp
  go_enter Tryd.func21, Tryd.ntmps21
  go_wp2_with (at_builtin; refine stay_app _ _ _ rfl ?_)
  unfold Stay
  refine wpList_append_lies _ rfl _ _ 33 rfl B 5 i0 (.int .u8 0) 1 1 Tryd.underlying33 hi hz0 hz1 hz2 rfl (by decide) _ _ _ rfl (H.out.row.alloc _) ⟨w.heap.size, 0, none⟩ 1 1 [.int .u8 48] rfl rfl (one_new _ _ _) (by simp [Value.oneCell']) (by decide) (by unfold maxLen; simp) (by simp) (by have := H.out.le'; simp; omega) (w.heap.size + 1) (by simp) ?_
  intro g3 rc3 w3 hrow3 hgrow3 hat3 hlt3
  have H1 := hide' (H.out.grow 48 _ hrow3 hgrow3 hat3 (by simp))
  clear hrow3 hgrow3 hat3 hlt3
  go_wp2_with (at_builtin; refine stay_app _ _ _ rfl ?_)
  unfold Stay
  refine wpList_append_lies _ rfl _ _ 33 rfl B 5 i0 (.int .u8 0) 1 1 Tryd.underlying33 hi hz0 hz1 hz2 rfl (by decide) _ _ _ rfl (H1.out.row.alloc _) ⟨w3.heap.size, 0, none⟩ 1 1 [.int .u8 46] rfl rfl (one_new _ _ _) (by simp [Value.oneCell']) (by decide) (by unfold maxLen; simp) (by simp) (by have := H1.out.le'; simp; omega) (w3.heap.size + 1) (by simp) ?_
  intro g4 rc4 w4 hrow4 hgrow4 hat4 hlt4
  have H2 := hide' (H1.out.grow 46 _ hrow4 hgrow4 hat4 (by simp))
  clear hrow4 hgrow4 hat4 hlt4
  go_wp2_with (at_builtin; refine stay_app _ _ _ rfl ?_)
  go_loopw [0, 240] (fun v i wx => ∃ (k g' c' : Nat) (l : List UInt8), k ≤ D ∧ i = .int .i64 (k : Int) ∧ v = .slice (some ⟨g', 0, none⟩) l.length c' ∧ Hid (l = [48, 46] ++ List.replicate k 48 ∧ RowB B g0 w0 l g' c' wx)) (fun _ i _ => D - (intOf i).toNat)
  case atStart => exact ⟨0, g4, rc4, [48, 46], by omega, rfl, rfl, rfl, H2.out⟩
  case round =>
    obtain ⟨k, g5, c5, l, hk, rfl, rfl, HR⟩ := hrel
    by_cases hlt : k < D
    · have hlt' : (k : Int) < (D : Int) := by omega
      have hlen : l.length = k + 2 := by rw [HR.out.1]; simp
      have HL := hide' hlen
      clear hlen
      go_wp2_with (at_builtin; refine stay_app _ _ _ rfl ?_)
      unfold Stay
      have HQ := hide' HR.out.2
      refine wpList_append_lies _ rfl _ _ 33 rfl B 5 i0 (.int .u8 0) 1 1 Tryd.underlying33 hi hz0 hz1 hz2 rfl (by decide) _ _ _ rfl (HQ.out.row.alloc _) ⟨wr.heap.size, 0, none⟩ 1 1 [.int .u8 48] rfl rfl (one_new _ _ _) (by simp [Value.oneCell']) (by decide) (by have := HQ.out.short; unfold maxLen; omega) (by have := HQ.out.short; omega) (by have := HQ.out.le'; simp; omega) (wr.heap.size + 1) (by simp) ?_
      intro g6 rc6 w6 hrow6 hgrow6 hat6 hlt6
      have H6 := hide' (HQ.out.grow 48 _ hrow6 hgrow6 hat6 (by rw [HL.out]; have := HS.out.2.2.2; omega))
      clear hrow6 hgrow6 hat6 hlt6
      go_wp2_with (fail)
      refine ⟨⟨k + 1, g6, rc6, l ++ [48], by omega, by simp, by simp, ?_, H6.out⟩, by simp [intOf]; omega⟩
      rw [HR.out.1, List.replicate_succ', List.append_assoc]
    · have hk2 : k = D := by omega
      subst hk2
      go_wp2_with (fail)
      go_loopw [0, 247] (fun v i wx => ∃ (j g' c' : Nat) (l : List UInt8), j ≤ nd ∧ i = .int .i64 (j : Int) ∧ v = .slice (some ⟨g', 0, none⟩) l.length c' ∧ Hid (l = [48, 46] ++ List.replicate k 48 ++ (Fp.dg nd0 d).take j ∧ RowB B g0 w0 l g' c' wx)) (fun _ i _ => nd - (intOf i).toNat)
      case atStart => exact ⟨0, g5, c5, l, by omega, rfl, rfl, by rw [List.take_zero, List.append_nil]; exact HR.out.1, HR.out.2⟩
      case round =>
        clear HR
        obtain ⟨j, g7, c7, l7, hj, rfl, rfl, HR⟩ := hrel
        by_cases hlt2 : j < nd
        · have hlt2' : (j : Int) < (nd : Int) := by omega
          have hlen : l7.length = j + k + 2 := by
            rw [HR.out.1, List.length_append, List.length_append, List.length_take, Fp.dg_length]
            have := HS.out.2.1
            simp; omega
          have hc := (HD.out.turn HR.out.2.oth HS.out.1.1 HS.out.1.2) j (by have := HS.out.2.1; omega)
          have HL := hide' hlen
          clear hlen
          obtain ⟨c, hcd⟩ : ∃ c : UInt8, c = Lib.dg d (nd0 - 1 - j) := ⟨_, rfl⟩
          rw [← hcd] at hc
          have HC := hide' hcd
          clear hcd
          go_wp2_with (at_builtin; refine stay_app _ _ _ rfl ?_)
          unfold Stay
          have HQ := hide' HR.out.2
          refine wpList_append_lies _ rfl _ _ 33 rfl B 5 i0 (.int .u8 0) 1 1 Tryd.underlying33 hi hz0 hz1 hz2 rfl (by decide) _ _ _ rfl (HQ.out.row.alloc _) ⟨wr.heap.size, 0, none⟩ 1 1 [.int .u8 (c.toNat : Nat)] rfl rfl (one_new _ _ _) (by simp [Value.oneCell']) (by decide) (by have := HQ.out.short; unfold maxLen; omega) (by have := HQ.out.short; omega) (by have := HQ.out.le'; simp; omega) (wr.heap.size + 1) (by simp) ?_
          intro g6 rc6 w6 hrow6 hgrow6 hat6 hlt6
          have H6 := hide' (HQ.out.grow c _ hrow6 hgrow6 hat6 (by rw [HL.out]; have := HS.out.2.2.2; have := HS.out.2.1; have := HS.out.2.2.1; omega))
          clear hrow6 hgrow6 hat6 hlt6
          go_wp2_with (fail)
          refine ⟨⟨j + 1, g6, rc6, l7 ++ [c], by omega, by simp, by simp, ?_, H6.out⟩, by simp [intOf]; omega⟩
          rw [HR.out.1, take_dg nd0 d j (by have := HS.out.2.1; omega), ← HC.out]
          simp only [List.append_assoc]
        · have hj2 : j = nd := by omega
          subst hj2
          go_wp2_with (fail)
          go_loopw [0, 261] (fun v i wx => v = .slice (some ⟨g7, 0, none⟩) l7.length c7 ∧ i = .int .i64 0 ∧ wx = wr) (fun _ _ _ => 0)
          case atStart => exact ⟨rfl, rfl, rfl⟩
          case round =>
            obtain ⟨rfl, rfl, rfl⟩ := hrel
            go_wp2_with (fail)
            go_ret
            exact ⟨g7, c7, l7, rfl, HR.out.1, HR.out.2⟩
end Go.Proofs.YtclmnkilfijeaaaDoor
