import Derived.Test.YtkipcdjadmocaaaMaskedW
set_option linter.unusedVariables false
set_option linter.unusedSimpArgs false
namespace Go.Proofs.Ytkipcdjadmocaaa
open Go.RowKit
theorem row_frozen {B n rc g : Nat} {e : TypeId} {xs : List Value} {w : World} (h : w.ownsRow B e 1 (.slice (some ⟨g, 0, none⟩) n rc) n xs) (hn : 0 < n) (j : Nat) : w.frozen? ⟨g, j, none⟩ = false := by
  obtain ⟨g', hg, _, _, hf⟩ := row_some h hn
  simp at hg
  subst hg
  exact hf j
theorem at_end {T : List Value} {k : Nat} {v : Value} (h : T.length = k) : (T ++ [v])[k]? = some v := by subst h; simp
theorem own_lt {g n rc D : Nat} (h : g < D) : ∀ j, (Value.slice (some ⟨g, 0, none⟩) n rc).ownBlock = some j → ¬ D ≤ j := fun j hj => by
  cases hj
  exact Nat.not_le.2 h
theorem turn_from {D : Nat} {w w' : World} (b : Below D w w') : Turn (fun j => D ≤ j) w w' := ⟨b.os, b.tape, b.output, b.size, fun k hk hS => b.block k (by omega)⟩
set_option maxHeartbeats 4000000 in
set_option maxRecDepth 100000 in
theorem masked_any (a : Option Addr) (len cap : Nat) (ns : List Int) (w : World) (h : IsInts w a len cap ns) (hn : len ≤ 17592186043904) : Calls Try.prog 21 #[.slice a len cap] w fun e w' => e = .returned (.bool true) ∧ Below w.heap.size w w' := by
  obtain ⟨i0, hi, hz0, hz1, hz2⟩ := info_parts info3
  have HI := hide' h
  have Hlen : Hid (ns.length = len) := h.2.2.1
  have hcap := h.1
  have hmax := h.2.1
  unfold maxLen at hmax
  have Hn : Hid (len ≤ 17592186043904) := hn
  have hn' : (len : Int) ≤ 17592186043904 := by omega
  have HM := hide' (rmask_any a len cap ns w h)
  have HL := hide' (lent_any a len cap ns w h hn)
  clear h hn
  obtain ⟨C, hC⟩ : ∃ C, w.heap.size = C := ⟨_, rfl⟩
  have HC := hide' hC
  rw [hC] at HL ⊢
  clear hC
  go_enter Try.func21, Try.ntmps21
  go_wp2_with fail
  refine HM.out.mono ?_
  rintro e w0 ⟨rfl, rfl⟩
  go_wp2_with fail
  refine HL.out.mono ?_
  rintro e w1 ⟨ro, rc, rfl, hrow, b1⟩
  obtain ⟨g, hro, hCg, hgs, hfz⟩ := row_some hrow (by omega)
  subst hro
  have hall : IsInts w1 (some ⟨g, 0, none⟩) (len + 64) rc (ns ++ marks 64) := zs_row hrow (by rw [List.length_append, marks_len, Hlen.out])
  have hfr := ints_front hall Hlen.out
  have hrc : len + 64 ≤ rc := hall.1
  have hrm : rc ≤ maxLen := hall.2.1
  unfold maxLen at hrm
  have HMa := hide' (mask_any (some ⟨g, 0, none⟩) len rc ns w1 hfr)
  have HSt := hide' (stands_any (some ⟨g, 0, none⟩) a len cap rc ns w1 hall (HI.out.below (Nat.le_of_eq HC.out) b1) Hn.out)
  have HR := hide' hrow
  have HB1 := hide' b1
  have HA := hide' hall
  have HF := hide' hfz
  clear hrow b1 hall hfr hfz
  go_wp2_with fail
  refine HMa.out.mono ?_
  rintro e w2 ⟨rfl, rfl⟩
  go_wp2_with fail
  refine HMa.out.mono ?_
  rintro e w2 ⟨rfl, rfl⟩
  go_wp2_with fail
  refine HSt.out.mono ?_
  rintro e w3 ⟨rfl, b3⟩
  obtain ⟨D, hD⟩ : ∃ D, w3.heap.size = D := ⟨_, rfl⟩
  have HD := hide' hD
  have hgD : g < D := by rw [← hD]; exact Nat.lt_of_lt_of_le hgs b3.size
  have hCD : C ≤ D := by omega
  have hrow3 : w3.ownsRow C 3 1 (.slice (some ⟨g, 0, none⟩) (len + 64) rc) (len + 64) (zf (mixf ns 0) (len + 64)) := by
    have := (turn_below' (S := fun _ => False) b3).row HR.out (fun _ _ q => q)
    rw [mix_start, Hlen.out] at this
    exact this
  have hC2 : C ≤ w2.heap.size := by rw [← HC.out]; exact HB1.out.size
  have hb3 : Below C w0 w3 := HB1.out.trans (b3.mono hC2)
  clear b3 hD hgs hC2
  have Hstep : Hid (∀ k, k < len → (zf (mixf ns k) (len + 64)).set k (.int .i64 (tz (ns.getD k 0))) = zf (mixf ns (k + 1)) (len + 64)) := fun k hk => by
    have := mix_step ns k (by rw [Hlen.out]; exact hk)
    rwa [Hlen.out] at this
  have Htz : Hid (∀ k, k < len → zs ((ns.map tz).take (k + 1)) = zs ((ns.map tz).take k) ++ [.int .i64 (tz (ns.getD k 0))]) := fun k hk => tz_step ns k (by rw [Hlen.out]; exact hk)
  have Hc : Hid (∀ j, j < len → ∃ b off, a = some ⟨b, off, none⟩ ∧ b < C ∧ ∀ wx, Below C w0 wx → wx.cell? ⟨b, off + j, none⟩ = some (.int .i64 (ns.getD j 0))) := fun j hj => by
    rcases HI.out.2.2.2 with q | ⟨b, off, rfl, hb, hc⟩
    · exfalso; omega
    · rw [HC.out] at hb
      exact ⟨b, off, rfl, hb, fun wx bx => (bx.cell (p := ⟨b, off + j, none⟩) hb).trans (hc j hj)⟩
  go_wp2_with fail
  go_loopw [9, 10] (fun v i wx => ∃ (k : Nat) (to : Option Addr) (tc : Nat), k ≤ len ∧ i = .int .i64 (k : Int) ∧ v = .slice to k tc ∧ wx.ownsRow D 3 1 (.slice to k tc) k (zs ((ns.map tz).take k)) ∧ wx.ownsRow C 3 1 (.slice (some ⟨g, 0, none⟩) (len + 64) rc) (len + 64) (zf (mixf ns k) (len + 64)) ∧ Below C w0 wx ∧ D ≤ wx.heap.size) (fun _ i _ => len - (intOf i).toNat)
  case atStart => exact ⟨0, none, 0, by omega, rfl, rfl, World.ownsRow_nil _ _ _ _, hrow3, hb3, Nat.le_of_eq HD.out.symm⟩
  case round =>
    clear hrow3 hb3
    obtain ⟨k, to, tc, hk, rfl, rfl, hrt, hrl, bk, hsD⟩ := hrel
    by_cases hlt : k < len
    · have hlt' : (k : Int) < (len : Int) := by omega
      obtain ⟨b, off, rfl, hbC, hcx⟩ := Hc.out k hlt
      have cw := hcx _ bk
      have hst := hide' (Hstep.out k hlt)
      have htz := hide' (Htz.out k hlt)
      have hwz : IntKind.i64.wrap (15 - ns.getD k 0) = tz (ns.getD k 0) := rfl
      have hrB := own_ge hrt
      have hbd : hide' hlt = hide' hlt := rfl
      have HK : Hid (k + 1 ≤ 17592186043904) := by have := Hn.out; show _ ≤ _; omega
      generalize ns.getD k 0 = z at *
      generalize tz z = tv at *
      have HT : Hid ((zs ((ns.map tz).take k)).length = k) := by show _ = _; have := Hlen.out; rw [zs_len, List.length_take, List.length_map]; omega
      have Hmx : Hid ((zf (mixf ns k) (len + 64))[k]? = some (.int .i64 (mixf ns k k))) := zf_at _ _ _ (by omega)
      generalize mixf ns k k = mv at *
      generalize zs ((ns.map tz).take k) = T at *
      generalize zf (mixf ns k) (len + 64) = Lk at *
      clear hcx hbd
      go_wp2_with (first | (at_builtin; refine wpList_append_lies _ rfl _ _ 22 rfl D 3 i0 (.int .i64 0) 1 8 Try.underlying22 hi hz0 hz1 hz2 rfl (by decide) _ _ _ rfl (hrt.alloc _) ⟨wr.heap.size, 0, none⟩ 1 1 [.int .i64 tv] rfl rfl (cell_one_new _ _ _) (by simp [Value.oneCell']) (by decide) (by have := HK.out; unfold maxLen; omega) (by have := HK.out; omega) (by simp; omega) (wr.heap.size + 1) (by simp) ?_; intro g3 rc' w4 hrow4 hgrow4 hat4 hlt4; have c4 := row_at hrow4 k _ (at_end HT.out); have bD : Below D wr w4 := (Below.refl D wr).grown ((World.grownBy_alloc wr _ _).trans hgrow4) hsD hrB; have b4 : Below C w0 w4 := bk.grown ((World.grownBy_alloc wr _ _).trans hgrow4) (Nat.le_trans hCD hsD) (fun j hj => Nat.le_trans hCD (hrB j hj)); have hrl4 := (turn_from bD).row hrl (own_lt hgD); have c5 := row_at hrl4 k _ Hmx.out; have f5 := row_frozen hrl4 (Nat.succ_pos _) k; have H4 := hide' hrow4; have H5 := hide' hrl4; have H6 := hide' bD; have H7 := hide' b4; clear hrow4 hgrow4 hat4 hrl4 bD b4 hlt4))
      have hg3 : D ≤ g3 := own_ge H4.out g3 rfl
      exact ⟨⟨k + 1, some ⟨g3, 0, none⟩, rc', by omega, by go_num, rfl, by rw [htz.out]; exact ((Turn.refl (fun j => j = g) w4).setCell (p := ⟨g, k, none⟩) (fun _ => rfl) _).row H4.out (fun g' hg' q => by cases hg'; simp at q; omega), by rw [← hst.out]; exact (H5.out.stored k (.int .i64 tv)).1, H7.out.setCell hCg _, by rw [World.size_setCell]; exact Nat.le_trans hsD H6.out.size⟩, by simp [intOf]; omega⟩
    · have hkl : k = len := by omega
      subst hkl
      have hlt' : ¬ (k : Int) < (k : Int) := by omega
      have hlm : (ns.map tz).length = k := by rw [List.length_map]; exact Hlen.out
      have htake : (ns.map tz).take k = ns.map tz := List.take_of_length_le (by omega)
      rw [htake] at hrt
      have hti : IsInts wr to k tc (ns.map tz) := zs_row hrt hlm
      have hend : zf (mixf ns k) (k + 64) = zs (ns.map tz ++ marks 64) := by have := mix_end ns; rwa [Hlen.out] at this
      rw [hend] at hrl
      have hli : IsInts wr (some ⟨g, 0, none⟩) (k + 64) rc (ns.map tz ++ marks 64) := zs_row hrl (by rw [List.length_append, marks_len, hlm])
      have hfr := ints_front hli hlm
      have HM2 := hide' (rmask_any to k tc (ns.map tz) wr hti)
      have HM3 := hide' (mask_any (some ⟨g, 0, none⟩) k rc (ns.map tz) wr hfr)
      have HS2 := hide' (stands_any (some ⟨g, 0, none⟩) to k tc rc (ns.map tz) wr hli hti Hn.out)
      have HBk := hide' bk
      have hCr : C ≤ wr.heap.size := Nat.le_trans hCD hsD
      clear hrt hrl hti hli hfr hend htake hlm bk hsD
      generalize mb (inM ns) = M1 at *
      generalize mb (inM (ns.map tz)) = M2 at *
      go_wp2_with fail
      refine HM2.out.mono ?_
      rintro e w5 ⟨rfl, rfl⟩
      go_wp2_with fail
      refine HM3.out.mono ?_
      rintro e w6 ⟨rfl, rfl⟩
      go_wp2_with fail
      refine HS2.out.mono ?_
      rintro e w7 ⟨rfl, b7⟩
      have HB7 := hide' b7
      clear b7
      go_wp2_with fail
      go_ret
      exact ⟨rfl, HBk.out.trans (HB7.out.mono hCr)⟩
end Go.Proofs.Ytkipcdjadmocaaa
