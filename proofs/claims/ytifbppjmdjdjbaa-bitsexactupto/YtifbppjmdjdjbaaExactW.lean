import Derived.Test.YtifbppjmdjdjbaaPsM
set_option linter.unusedVariables false
set_option linter.unusedSimpArgs false
namespace Go.Proofs.Ytifbppjmdjdjbaa
open Go.RowKit
theorem Row.turn {C : Nat} {ro : Option Addr} {rc n : Nat} {X Y : Nat → Nat} {w w' : World} (h : Row C ro rc n X Y w) {x g R B0 y : Nat} {ao : Option Addr} {cap : Nat} {p : Nat → Bool} (hp : Pr x g R B0 y ao cap p w) (t : Turn (Two g ao) w w') : Row C ro rc n X Y w' :=
  ⟨t.row h.row (fun b hb q => by
    obtain ⟨_, cur, hc⟩ := h.apart b (own_row hb)
    have hn := hp.not31 hc
    rcases q with q | q
    · exact hn.2.1 q
    · exact hn.2.2.2 q)⟩
theorem Row.below {C : Nat} {ro : Option Addr} {rc n : Nat} {X Y : Nat → Nat} {w w' : World} (h : Row C ro rc n X Y w) (b : Below w.heap.size w w') : Row C ro rc n X Y w' := ⟨(turn_below' (S := fun _ => False) b).row h.row (fun _ _ q => q)⟩
/-- the script as it came in -/
def IsOps (w : World) (a : Option Addr) (len cap : Nat) (op : Nat → Int × Int × Int × Int) : Prop :=
  len ≤ cap ∧ cap ≤ maxLen ∧ (len = 0 ∨ ∃ b off, a = some ⟨b, off, none⟩ ∧ b < w.heap.size ∧ ∀ j, j < len → (w.cell? ⟨b, off + j * 4, none⟩ = some (.int .i64 (op j).1) ∧ w.cell? ⟨b, off + j * 4 + 1, none⟩ = some (.int .i64 (op j).2.1) ∧ w.cell? ⟨b, off + j * 4 + 2, none⟩ = some (.int .i64 (op j).2.2.1) ∧ w.cell? ⟨b, off + j * 4 + 3, none⟩ = some (.int .i64 (op j).2.2.2)) ∧ (-9223372036854775808 ≤ (op j).2.1 ∧ (op j).2.1 ≤ 9223372036854775807) ∧ (-9223372036854775808 ≤ (op j).2.2.1 ∧ (op j).2.2.1 ≤ 9223372036854775807))
set_option maxHeartbeats 8000000 in
set_option maxRecDepth 100000 in
theorem exact_walk (a : Option Addr) (len cap : Nat) (ns : List Int) (a2 : Option Addr) (len2 cap2 : Nat) (op : Nat → Int × Int × Int × Int) (w : World) (h : IsInts w a len cap ns) (hs : len ≤ 1048576) (ho : IsOps w a2 len2 cap2 op) :
    Calls Try.prog 3 #[.slice a len cap, .slice a2 len2 cap2] w fun e w' => e = .returned (.bool true) ∧ Below w.heap.size w w' := by
  obtain ⟨i0, hi, hz0, hz1, hz2⟩ := info_parts info31
  obtain ⟨h1, h2, h3, h4⟩ := h
  unfold maxLen at h2
  have Hc : Hid (∀ k wx, k < len → Below w.heap.size w wx → ∃ b off, a = some ⟨b, off, none⟩ ∧ b < w.heap.size ∧ wx.cell? ⟨b, off + k, none⟩ = some (.int .i64 (ns.getD k 0))) := fun k wx hk bx => by
    rcases h4 with q | ⟨b, off, ha, hb, hc⟩
    · omega
    · exact ⟨b, off, ha, hb, (bx.cell (p := ⟨b, off + k, none⟩) hb).trans (hc k hk)⟩
  obtain ⟨o1, o2, o3⟩ := ho
  unfold maxLen at o2
  have Hoc : Hid (∀ k wx, k < len2 → Below w.heap.size w wx → ∃ b off, a2 = some ⟨b, off, none⟩ ∧ b < w.heap.size ∧ (wx.cell? ⟨b, off + k * 4, none⟩ = some (.int .i64 (op k).1) ∧ wx.cell? ⟨b, off + k * 4 + 1, none⟩ = some (.int .i64 (op k).2.1) ∧ wx.cell? ⟨b, off + k * 4 + 2, none⟩ = some (.int .i64 (op k).2.2.1) ∧ wx.cell? ⟨b, off + k * 4 + 3, none⟩ = some (.int .i64 (op k).2.2.2)) ∧ (-9223372036854775808 ≤ (op k).2.1 ∧ (op k).2.1 ≤ 9223372036854775807) ∧ (-9223372036854775808 ≤ (op k).2.2.1 ∧ (op k).2.2.1 ≤ 9223372036854775807)) := fun k wx hk bx => by
    rcases o3 with q | ⟨b, off, ha, hb, hc⟩
    · omega
    · obtain ⟨⟨c0, c1, c2, c3⟩, d1, d2⟩ := hc k hk
      exact ⟨b, off, ha, hb, ⟨(bx.cell (p := ⟨b, off + k * 4, none⟩) hb).trans c0, (bx.cell (p := ⟨b, off + k * 4 + 1, none⟩) hb).trans c1, (bx.cell (p := ⟨b, off + k * 4 + 2, none⟩) hb).trans c2, (bx.cell (p := ⟨b, off + k * 4 + 3, none⟩) hb).trans c3⟩, d1, d2⟩
  clear h4 o3
  have Hf := hide' (fun w => fixed_any w)
  have Hnew := hide' (fun n w => new_any n w)
  have Hrn := hide' (fun n w => rnew_any n w)
  obtain ⟨C, hC⟩ : ∃ C, w.heap.size = C := ⟨_, rfl⟩
  have HC := hide' hC
  rw [hC] at Hc Hoc ⊢
  clear hC
  go_enter Try.func3, Try.ntmps3
  go_wp2_with fail
  refine (Hf.out _).mono ?_
  rintro e w1 ⟨rfl, b1'⟩
  have b1 : Below C w w1 := by rw [← HC.out]; exact b1'
  clear b1'
  go_wp2_with fail
  go_loopw [6, 7] (fun v i wx => ∃ (k : Nat) (ro : Option Addr) (rc : Nat) (X G R Y : Nat → Nat) (AO : Nat → Option Addr) (CP : Nat → Nat) (P : Nat → Nat → Bool), k ≤ len ∧ i = .int .i64 (k : Int) ∧ v = .slice ro k rc ∧ Ps C k X G R Y AO CP P wx ∧ Row C ro rc k X Y wx ∧ Below C w wx) (fun _ i _ => len - (intOf i).toNat)
  case atStart => exact ⟨0, none, 0, fun _ => 0, fun _ => 0, fun _ => 0, fun _ => 0, fun _ => none, fun _ => 0, fun _ _ => false, by omega, rfl, rfl, ⟨fun j hj => by omega, fun j hj => by omega, fun i j hi => by omega, fun i j hi => by omega⟩, ⟨World.ownsRow_nil _ _ _ _⟩, b1⟩
  case round =>
    clear b1
    obtain ⟨k, ro, rc, X, G, R, Y, AO, CP, P, hk, rfl, rfl, hps, hrow, bk⟩ := hrel
    have hsk : C ≤ wr.heap.size := by rw [← HC.out]; exact bk.size
    by_cases hlt : k < len
    · have hlt' : (k : Int) < (len : Int) := by omega
      obtain ⟨b, off, rfl, hbC, ck⟩ := Hc.out k _ hlt bk
      have hbl : b < wr.heap.size := by omega
      generalize ns.getD k 0 = rm at *
      go_wp2_with fail
      have nb0 : wr.heap.size ≠ b := Nat.ne_of_gt hbl
      have nb0' : b ≠ wr.heap.size := Nat.ne_of_lt hbl
      go_region_held3 (fun w' => w'.cell? ⟨b, off + k, none⟩ = some (.int .i64 rm)) (first | go_keep | exact k2 | exact k1) ((first | (go_at_call 10; refine (Hrn.out rm _).mono ?_; rintro e v2 ⟨y, rfl, ao, cp, hR, b2⟩; have k2 := (b2.cell (p := ⟨b, off + k, none⟩) (by first | exact hb1 | (simp; omega))).trans (by assumption); first | (have q0 := b2.cell (p := ⟨v1.heap.size, 0, none⟩) (Nat.lt_of_lt_of_eq (Nat.lt_succ_self _) (World.size_alloc v1 _).symm); have q1 := b2.cell (p := ⟨v1.heap.size, 1, none⟩) (Nat.lt_of_lt_of_eq (Nat.lt_succ_self _) (World.size_alloc v1 _).symm); have qf := (fun o => b2.frozen (p := ⟨v1.heap.size, o, none⟩) (Nat.lt_of_lt_of_eq (Nat.lt_succ_self _) (World.size_alloc v1 _).symm))) | (have q0 := (b2.cell (p := ⟨wr.heap.size, 0, none⟩) p2).trans p0; have q1 := (b2.cell (p := ⟨wr.heap.size, 1, none⟩) p2).trans p1; have qf := (fun o => (b2.frozen (p := ⟨wr.heap.size, o, none⟩) p2).trans (pf o))) | skip) | (go_at_call 9; refine (Hnew.out rm _).mono ?_; rintro e v1 ⟨x, rfl, g, hB, b1, hx, hg⟩; have hb1 : b < v1.heap.size := Nat.lt_of_lt_of_le (by first | exact hbl | (simp; omega)) b1.size; have nb1 : v1.heap.size ≠ b := Nat.ne_of_gt hb1; have nb1' : b ≠ v1.heap.size := Nat.ne_of_lt hb1; have k1 := (b1.cell (p := ⟨b, off + k, none⟩) (by first | exact hbl | (simp; omega))).trans (by assumption); first | (have p0 := b1.cell (p := ⟨wr.heap.size, 0, none⟩) (Nat.lt_of_lt_of_eq (Nat.lt_succ_self _) (World.size_alloc wr _).symm); have p1 := b1.cell (p := ⟨wr.heap.size, 1, none⟩) (Nat.lt_of_lt_of_eq (Nat.lt_succ_self _) (World.size_alloc wr _).symm); have pf := (fun o => b1.frozen (p := ⟨wr.heap.size, o, none⟩) (Nat.lt_of_lt_of_eq (Nat.lt_succ_self _) (World.size_alloc wr _).symm)); have p2 := Nat.lt_of_lt_of_le (Nat.lt_of_lt_of_eq (Nat.lt_succ_self wr.heap.size) (World.size_alloc wr _).symm) b1.size) | skip)))
      · have M := mk1 hsk hB b1 hg hR b2
        generalize (v2.alloc (.cells #[.pointer (some ⟨x, 0, none⟩), .pointer (some ⟨y, 0, none⟩)] 31)) = FF at *
        generalize v2.heap.size = blk at *
        obtain ⟨hpr, bel, c0, c1, lg, lr⟩ := M
        have hpsF := hps.below bel
        have hrowF : FF.ownsRow C 31 2 (.slice ro k rc) k (prs X Y k) := (turn_below' (S := fun _ => False) bel).row hrow.row (fun _ _ q => q)
        have hRowF : Row C ro rc k X Y FF := ⟨hrowF⟩
        have hpsM := hpsF.more hpr (Nat.le_trans hsk lg) (fun j hj e => by have := (hps.pr j hj).b.ltg; omega) (fun j hj b hb q => by have := ((hps.pr j hj).r.apart b hb).2.2; have := lr b q; omega)
        have bF : Below C w FF := bk.trans (bel.mono hsk)
        have hsF : C ≤ FF.heap.size := Nat.le_trans hsk bel.size
        have hrB := fun j (hj : (Value.slice ro k rc).ownBlock = some j) => (hRowF.apart j (own_row hj))
        have hpx : (prs (upd X k x) (upd Y k y) (k + 1)) = prs X Y k ++ [.pointer (some ⟨x, 0, none⟩), .pointer (some ⟨y, 0, none⟩)] := by
          rw [prs_succ, upd_at, upd_at, prs_congr (upd X k x) (upd Y k y) X Y k (fun j hj => ⟨upd_ne _ _ _ _ (by omega), upd_ne _ _ _ _ (by omega)⟩)]
        have Hpx := hide' hpx
        have HpsM := hide' hpsM
        clear hpr lg lr hpsF hpsM hpx hps hrow bk bel ck
        go_wp2_with (first | (at_builtin; refine wpList_append_lies _ rfl _ _ 25 rfl C 31 i0 (.agg #[.pointer none, .pointer none]) 2 16 Try.underlying25 hi hz0 hz1 hz2 rfl (by decide) _ k (prs X Y k) rfl (hrowF.alloc _) ⟨FF.heap.size, 0, none⟩ 1 1 [.pointer (some ⟨x, 0, none⟩), .pointer (some ⟨y, 0, none⟩)] rfl rfl (cell_two_new _ _ _ _) (by simp [Value.oneCell']) (by decide) (by unfold maxLen; omega) (by omega) (by simp; omega) (FF.heap.size + 1) (by simp) ?_; intro g3 rc' w3 hrow3 hgrow3 hat3 hlt3))
        have t3 : Turn (Rrow ro) FF w3 := ((Turn.refl _ FF).alloc _).grown hgrow3 (fun j hj _ => own_row hj)
        have hps3 := HpsM.out.kept31 t3 (fun j hj => (hRowF.apart j hj).2)
        have b3 : Below C w w3 := bF.grown ((World.grownBy_alloc FF _ _).trans hgrow3) hsF (fun j hj => (hrB j hj).1)
        exact ⟨⟨k + 1, some ⟨g3, 0, none⟩, rc', _, _, _, _, _, _, _, by omega, by go_num, rfl, hps3, ⟨by rw [Hpx.out]; exact hrow3⟩, b3⟩, by simp [intOf]; omega⟩
      · have M := mk2 hsk hB b1 hg hR b2 (by rw [q0]; go_simp) (by rw [q1]; go_simp)
        generalize ((v2.setCell ⟨v1.heap.size, 0, none⟩ (.pointer (some ⟨x, 0, none⟩))).setCell ⟨v1.heap.size, 1, none⟩ (.pointer (some ⟨y, 0, none⟩))) = FF at *
        generalize v1.heap.size = blk at *
        obtain ⟨hpr, bel, c0, c1, lg, lr⟩ := M
        have hpsF := hps.below bel
        have hrowF : FF.ownsRow C 31 2 (.slice ro k rc) k (prs X Y k) := (turn_below' (S := fun _ => False) bel).row hrow.row (fun _ _ q => q)
        have hRowF : Row C ro rc k X Y FF := ⟨hrowF⟩
        have hpsM := hpsF.more hpr (Nat.le_trans hsk lg) (fun j hj e => by have := (hps.pr j hj).b.ltg; omega) (fun j hj b hb q => by have := ((hps.pr j hj).r.apart b hb).2.2; have := lr b q; omega)
        have bF : Below C w FF := bk.trans (bel.mono hsk)
        have hsF : C ≤ FF.heap.size := Nat.le_trans hsk bel.size
        have hrB := fun j (hj : (Value.slice ro k rc).ownBlock = some j) => (hRowF.apart j (own_row hj))
        have hpx : (prs (upd X k x) (upd Y k y) (k + 1)) = prs X Y k ++ [.pointer (some ⟨x, 0, none⟩), .pointer (some ⟨y, 0, none⟩)] := by
          rw [prs_succ, upd_at, upd_at, prs_congr (upd X k x) (upd Y k y) X Y k (fun j hj => ⟨upd_ne _ _ _ _ (by omega), upd_ne _ _ _ _ (by omega)⟩)]
        have Hpx := hide' hpx
        have HpsM := hide' hpsM
        clear hpr lg lr hpsF hpsM hpx hps hrow bk bel ck
        go_wp2_with (first | (at_builtin; refine wpList_append_lies _ rfl _ _ 25 rfl C 31 i0 (.agg #[.pointer none, .pointer none]) 2 16 Try.underlying25 hi hz0 hz1 hz2 rfl (by decide) _ k (prs X Y k) rfl (hrowF.alloc _) ⟨FF.heap.size, 0, none⟩ 1 1 [.pointer (some ⟨x, 0, none⟩), .pointer (some ⟨y, 0, none⟩)] rfl rfl (cell_two_new _ _ _ _) (by simp [Value.oneCell']) (by decide) (by unfold maxLen; omega) (by omega) (by simp; omega) (FF.heap.size + 1) (by simp) ?_; intro g3 rc' w3 hrow3 hgrow3 hat3 hlt3))
        have t3 : Turn (Rrow ro) FF w3 := ((Turn.refl _ FF).alloc _).grown hgrow3 (fun j hj _ => own_row hj)
        have hps3 := HpsM.out.kept31 t3 (fun j hj => (hRowF.apart j hj).2)
        have b3 : Below C w w3 := bF.grown ((World.grownBy_alloc FF _ _).trans hgrow3) hsF (fun j hj => (hrB j hj).1)
        exact ⟨⟨k + 1, some ⟨g3, 0, none⟩, rc', _, _, _, _, _, _, _, by omega, by go_num, rfl, hps3, ⟨by rw [Hpx.out]; exact hrow3⟩, b3⟩, by simp [intOf]; omega⟩
      · have M := mk3 hsk (by simp) (by exact ⟨rfl, rfl, rfl, by simp, fun k hk => Below.heap_alloc _ _ _ hk⟩) hB b1 hx hg hR b2 (by rw [q0]; go_simp) (by rw [q1]; go_simp)
        generalize ((v2.setCell ⟨wr.heap.size, 0, none⟩ (.pointer (some ⟨x, 0, none⟩))).setCell ⟨wr.heap.size, 1, none⟩ (.pointer (some ⟨y, 0, none⟩))) = FF at *
        obtain ⟨hpr, bel, c0, c1, lg, lr⟩ := M
        have hpsF := hps.below bel
        have hrowF : FF.ownsRow C 31 2 (.slice ro k rc) k (prs X Y k) := (turn_below' (S := fun _ => False) bel).row hrow.row (fun _ _ q => q)
        have hRowF : Row C ro rc k X Y FF := ⟨hrowF⟩
        have hpsM := hpsF.more hpr (Nat.le_trans hsk lg) (fun j hj e => by have := (hps.pr j hj).b.ltg; omega) (fun j hj b hb q => by have := ((hps.pr j hj).r.apart b hb).2.2; have := lr b q; omega)
        have bF : Below C w FF := bk.trans (bel.mono hsk)
        have hsF : C ≤ FF.heap.size := Nat.le_trans hsk bel.size
        have hrB := fun j (hj : (Value.slice ro k rc).ownBlock = some j) => (hRowF.apart j (own_row hj))
        have hpx : (prs (upd X k x) (upd Y k y) (k + 1)) = prs X Y k ++ [.pointer (some ⟨x, 0, none⟩), .pointer (some ⟨y, 0, none⟩)] := by
          rw [prs_succ, upd_at, upd_at, prs_congr (upd X k x) (upd Y k y) X Y k (fun j hj => ⟨upd_ne _ _ _ _ (by omega), upd_ne _ _ _ _ (by omega)⟩)]
        have Hpx := hide' hpx
        have HpsM := hide' hpsM
        clear hpr lg lr hpsF hpsM hpx hps hrow bk bel ck
        go_wp2_with (first | (at_builtin; refine wpList_append_lies _ rfl _ _ 25 rfl C 31 i0 (.agg #[.pointer none, .pointer none]) 2 16 Try.underlying25 hi hz0 hz1 hz2 rfl (by decide) _ k (prs X Y k) rfl (hrowF.alloc _) ⟨FF.heap.size, 0, none⟩ 1 1 [.pointer (some ⟨x, 0, none⟩), .pointer (some ⟨y, 0, none⟩)] rfl rfl (cell_two_new _ _ _ _) (by simp [Value.oneCell']) (by decide) (by unfold maxLen; omega) (by omega) (by simp; omega) (FF.heap.size + 1) (by simp) ?_; intro g3 rc' w3 hrow3 hgrow3 hat3 hlt3))
        have t3 : Turn (Rrow ro) FF w3 := ((Turn.refl _ FF).alloc _).grown hgrow3 (fun j hj _ => own_row hj)
        have hps3 := HpsM.out.kept31 t3 (fun j hj => (hRowF.apart j hj).2)
        have b3 : Below C w w3 := bF.grown ((World.grownBy_alloc FF _ _).trans hgrow3) hsF (fun j hj => (hrB j hj).1)
        exact ⟨⟨k + 1, some ⟨g3, 0, none⟩, rc', _, _, _, _, _, _, _, by omega, by go_num, rfl, hps3, ⟨by rw [Hpx.out]; exact hrow3⟩, b3⟩, by simp [intOf]; omega⟩
    · have hkl : k = len := by omega
      subst hkl
      have hlt' : ¬ (k : Int) < (k : Int) := by omega
      clear hlt
      have hk0 : k ≤ 1048576 := hs
      clear Hf Hnew Hrn
      go_wp2_with fail
      have Hat := hide' (fun i n w h1 h2 h3 => at_any i n w h1 h2 h3)
      have Hone := hide' (fun x g R y ao cap p t s o n w h => one_any x g R C y ao cap p t s o n w h)
      have Htwo := hide' (fun x g R y ao cap p v0 v1 t s o n w h ho => two_any x g R C y ao cap p v0 v1 t s o n w h ho)
      go_loopw [5, 9] (fun v i wx => ∃ (k2 : Nat) (P : Nat → Nat → Bool), k2 ≤ len2 ∧ i = .int .i64 (k2 : Int) ∧ v = .bool true ∧ Ps C k X G R Y AO CP P wx ∧ Row C ro rc k X Y wx ∧ Below C w wx) (fun _ i _ => len2 - (intOf i).toNat)
      case atStart => exact ⟨0, P, by omega, rfl, rfl, hps, hrow, bk⟩
      case round =>
        clear hps hrow bk
        obtain ⟨k2, P, hk2, rfl, rfl, hps, hrow, bk⟩ := hrel
        have hsk2 : C ≤ wr.heap.size := by rw [← HC.out]; exact bk.size
        by_cases hlt : k2 < len2 ∧ 0 < k
        · obtain ⟨hl2, hkp⟩ := hlt
          have hl2' : (k2 : Int) < (len2 : Int) := by omega
          have hkp' : (0 : Int) < (k : Int) := by omega
          obtain ⟨b, off, rfl, hbC, ⟨o0, o1', o2', o3'⟩, hs1, hs2⟩ := Hoc.out k2 _ hl2 bk
          obtain ⟨gA, rfl, hgC, hgl, hcA, cur, hcur⟩ := hrow.at' hkp
          generalize op k2 = q at o0 o1' o2' o3' hs1 hs2
          obtain ⟨t, s, o, n⟩ := q
          simp only at o0 o1' o2' o3' hs1 hs2
          obtain ⟨j1, hj1⟩ : ∃ j1 : Nat, s % (k : Int) = (j1 : Int) := ⟨(s % (k : Int)).toNat, by have := Int.emod_nonneg s (show (k : Int) ≠ 0 by omega); omega⟩
          have hj1k : j1 < k := by have := Int.emod_lt_of_pos s hkp'; omega
          have hj1k' : (j1 : Int) < (k : Int) := by omega
          have Ha1 := hide' (fun w => Hat.out s k w hkp (by omega) hs1)
          rw [hj1] at Ha1
          obtain ⟨cx1, cy1⟩ := hcA j1 hj1k
          have HcA := hide' hcA
          clear hcA hj1
          by_cases hm : o = -1
          · subst hm
            go_wp2_with (first | (go_at_call 11; refine (Ha1.out _).mono ?_; rintro e z ⟨rfl, hz⟩; replace hz := hz.symm; subst hz))
            have bW : Below wr.heap.size wr (((wr.alloc (.cells #[.int .i64 t, .int .i64 s, .int .i64 (-1), .int .i64 n] 33)).alloc (.cells #[.pointer (some ⟨X j1, 0, none⟩), .pointer (some ⟨Y j1, 0, none⟩)] 31)).alloc (.cells #[.pointer none, .pointer none] 31)) := (((Below.refl _ _).alloc (Nat.le_refl _) _).alloc (by simp) _).alloc (by simp; omega) _
            have d0 : (((wr.alloc (.cells #[.int .i64 t, .int .i64 s, .int .i64 (-1), .int .i64 n] 33)).alloc (.cells #[.pointer (some ⟨X j1, 0, none⟩), .pointer (some ⟨Y j1, 0, none⟩)] 31)).alloc (.cells #[.pointer none, .pointer none] 31)).cell? ⟨wr.heap.size, 0, none⟩ = some (.int .i64 t) := by go_simp
            have d1 : (((wr.alloc (.cells #[.int .i64 t, .int .i64 s, .int .i64 (-1), .int .i64 n] 33)).alloc (.cells #[.pointer (some ⟨X j1, 0, none⟩), .pointer (some ⟨Y j1, 0, none⟩)] 31)).alloc (.cells #[.pointer none, .pointer none] 31)).cell? ⟨wr.heap.size, 1, none⟩ = some (.int .i64 s) := by go_simp
            have d2 : (((wr.alloc (.cells #[.int .i64 t, .int .i64 s, .int .i64 (-1), .int .i64 n] 33)).alloc (.cells #[.pointer (some ⟨X j1, 0, none⟩), .pointer (some ⟨Y j1, 0, none⟩)] 31)).alloc (.cells #[.pointer none, .pointer none] 31)).cell? ⟨wr.heap.size, 2, none⟩ = some (.int .i64 (-1)) := by go_simp
            have d3 : (((wr.alloc (.cells #[.int .i64 t, .int .i64 s, .int .i64 (-1), .int .i64 n] 33)).alloc (.cells #[.pointer (some ⟨X j1, 0, none⟩), .pointer (some ⟨Y j1, 0, none⟩)] 31)).alloc (.cells #[.pointer none, .pointer none] 31)).cell? ⟨wr.heap.size, 3, none⟩ = some (.int .i64 n) := by go_simp
            have e0 : (((wr.alloc (.cells #[.int .i64 t, .int .i64 s, .int .i64 (-1), .int .i64 n] 33)).alloc (.cells #[.pointer (some ⟨X j1, 0, none⟩), .pointer (some ⟨Y j1, 0, none⟩)] 31)).alloc (.cells #[.pointer none, .pointer none] 31)).cell? ⟨wr.heap.size + 1, 0, none⟩ = some (.pointer (some ⟨X j1, 0, none⟩)) := by go_simp
            have e1 : (((wr.alloc (.cells #[.int .i64 t, .int .i64 s, .int .i64 (-1), .int .i64 n] 33)).alloc (.cells #[.pointer (some ⟨X j1, 0, none⟩), .pointer (some ⟨Y j1, 0, none⟩)] 31)).alloc (.cells #[.pointer none, .pointer none] 31)).cell? ⟨wr.heap.size + 1, 1, none⟩ = some (.pointer (some ⟨Y j1, 0, none⟩)) := by go_simp
            have f0 : (((wr.alloc (.cells #[.int .i64 t, .int .i64 s, .int .i64 (-1), .int .i64 n] 33)).alloc (.cells #[.pointer (some ⟨X j1, 0, none⟩), .pointer (some ⟨Y j1, 0, none⟩)] 31)).alloc (.cells #[.pointer none, .pointer none] 31)).cell? ⟨wr.heap.size + 1 + 1, 0, none⟩ = some (.pointer none) := by go_simp
            have f1 : (((wr.alloc (.cells #[.int .i64 t, .int .i64 s, .int .i64 (-1), .int .i64 n] 33)).alloc (.cells #[.pointer (some ⟨X j1, 0, none⟩), .pointer (some ⟨Y j1, 0, none⟩)] 31)).alloc (.cells #[.pointer none, .pointer none] 31)).cell? ⟨wr.heap.size + 1 + 1, 1, none⟩ = some (.pointer none) := by go_simp
            have hlW : wr.heap.size + 1 + 1 < (((wr.alloc (.cells #[.int .i64 t, .int .i64 s, .int .i64 (-1), .int .i64 n] 33)).alloc (.cells #[.pointer (some ⟨X j1, 0, none⟩), .pointer (some ⟨Y j1, 0, none⟩)] 31)).alloc (.cells #[.pointer none, .pointer none] 31)).heap.size := by simp
            have hTw : ∀ j, Two (G j1) (AO j1) j → j < wr.heap.size := by
              rintro j (q | q)
              · rw [q]; exact (hps.pr j1 hj1k).b.ltg
              · exact ((hps.pr j1 hj1k).r.apart j q).2.2
            have hpsW := hps.below bW
            have hrowW := hrow.below bW
            have bkW := bk.trans (bW.mono hsk2)
            generalize (((wr.alloc (.cells #[.int .i64 t, .int .i64 s, .int .i64 (-1), .int .i64 n] 33)).alloc (.cells #[.pointer (some ⟨X j1, 0, none⟩), .pointer (some ⟨Y j1, 0, none⟩)] 31)).alloc (.cells #[.pointer none, .pointer none] 31)) = W at *
            generalize wr.heap.size = bs at *
            clear hps hrow bk
            have hP1 := hpsW.pr j1 hj1k
            refine (Hone.out _ _ _ _ _ _ _ t s (-1) n _ hP1).mono ?_
            rintro e w3 ⟨rfl, p', hP3, t3⟩
            have hps3 := hpsW.turn hj1k hP3 t3
            have hrow3 := hrowW.turn hP1 t3
            have b3 := bkW.trans (t3.below (hpsW.two_lo hj1k) (by rw [← HC.out]; exact bkW.size))
            have hl3 : W.heap.size ≤ w3.heap.size := t3.size
            have g0 := (t3.cell (p := ⟨bs, 0, none⟩) (show bs < W.heap.size by omega) (fun q => Nat.lt_irrefl _ (hTw bs q))).trans d0
            have g1 := (t3.cell (p := ⟨bs, 1, none⟩) (show bs < W.heap.size by omega) (fun q => Nat.lt_irrefl _ (hTw bs q))).trans d1
            have g2 := (t3.cell (p := ⟨bs, 2, none⟩) (show bs < W.heap.size by omega) (fun q => Nat.lt_irrefl _ (hTw bs q))).trans d2
            have g3 := (t3.cell (p := ⟨bs, 3, none⟩) (show bs < W.heap.size by omega) (fun q => Nat.lt_irrefl _ (hTw bs q))).trans d3
            have k0 := (t3.cell (p := ⟨bs + 1, 0, none⟩) (show bs + 1 < W.heap.size by omega) (fun q => absurd (hTw (bs + 1) q) (by omega))).trans e0
            have k1 := (t3.cell (p := ⟨bs + 1, 1, none⟩) (show bs + 1 < W.heap.size by omega) (fun q => absurd (hTw (bs + 1) q) (by omega))).trans e1
            have l0 := (t3.cell (p := ⟨bs + 1 + 1, 0, none⟩) (show bs + 1 + 1 < W.heap.size by omega) (fun q => absurd (hTw (bs + 1 + 1) q) (by omega))).trans f0
            have l1 := (t3.cell (p := ⟨bs + 1 + 1, 1, none⟩) (show bs + 1 + 1 < W.heap.size by omega) (fun q => absurd (hTw (bs + 1 + 1) q) (by omega))).trans f1
            have hoth : Oth (X j1) (G j1) (Y j1) (AO j1) none none w3 := .inl ⟨rfl, rfl⟩
            have Hp3 := hide' (And.intro hps3 (And.intro hrow3 b3))
            clear d0 d1 d2 d3 e0 e1 f0 f1 hpsW hrowW bkW bW hps3 hrow3 b3 hP1 t3
            go_wp2_with fail
            refine (Htwo.out _ _ _ _ _ _ _ none none t s (-1) n _ hP3 hoth).mono ?_
            rintro e w4 ⟨rfl, p'', hP4, t4⟩
            have hps4 := Hp3.out.1.turn hj1k hP4 t4
            have hrow4 := Hp3.out.2.1.turn hP3 t4
            have b4 := Hp3.out.2.2.trans (t4.below (Hp3.out.1.two_lo hj1k) (by rw [← HC.out]; exact Hp3.out.2.2.size))
            clear g0 g1 g2 g3 k0 k1 l0 l1 hoth hP3 hP4 t4
            go_wp2_with fail
            exact ⟨⟨k2 + 1, _, by omega, by go_num, rfl, hps4, hrow4, b4⟩, by simp [intOf]; omega⟩
          · have hmf : (o != -1) = true := by simpa using hm
            obtain ⟨j2, hj2⟩ : ∃ j2 : Nat, o % (k : Int) = (j2 : Int) := ⟨(o % (k : Int)).toNat, by have := Int.emod_nonneg o (show (k : Int) ≠ 0 by omega); omega⟩
            have hj2k : j2 < k := by have := Int.emod_lt_of_pos o hkp'; omega
            have hj2k' : (j2 : Int) < (k : Int) := by omega
            have Ha2 := hide' (fun w => Hat.out o k w hkp (by omega) hs2)
            rw [hj2] at Ha2
            obtain ⟨cx2, cy2⟩ := HcA.out j2 hj2k
            have ng1 : gA < wr.heap.size + 1 := by omega
            have ng2 : gA < wr.heap.size + 1 + 1 := by omega
            have ng3 : gA ≠ wr.heap.size := by omega
            have ng4 : gA ≠ wr.heap.size + 1 := by omega
            have ng5 : gA ≠ wr.heap.size + 1 + 1 := by omega
            clear hj2
            go_wp2_with fail
            refine (Ha1.out _).mono ?_
            rintro e z ⟨rfl, hz⟩
            replace hz := hz.symm
            subst hz
            go_wp2_with fail
            refine (Ha2.out _).mono ?_
            rintro e z ⟨rfl, hz⟩
            replace hz := hz.symm
            subst hz
            go_wp2_with fail
            have bW : Below wr.heap.size wr (((wr.alloc (.cells #[.int .i64 t, .int .i64 s, .int .i64 o, .int .i64 n] 33)).alloc (.cells #[.pointer (some ⟨X j1, 0, none⟩), .pointer (some ⟨Y j1, 0, none⟩)] 31)).alloc (.cells #[.pointer (some ⟨X j2, 0, none⟩), .pointer (some ⟨Y j2, 0, none⟩)] 31)) := (((Below.refl _ _).alloc (Nat.le_refl _) _).alloc (by simp) _).alloc (by simp; omega) _
            have d0 : (((wr.alloc (.cells #[.int .i64 t, .int .i64 s, .int .i64 o, .int .i64 n] 33)).alloc (.cells #[.pointer (some ⟨X j1, 0, none⟩), .pointer (some ⟨Y j1, 0, none⟩)] 31)).alloc (.cells #[.pointer (some ⟨X j2, 0, none⟩), .pointer (some ⟨Y j2, 0, none⟩)] 31)).cell? ⟨wr.heap.size, 0, none⟩ = some (.int .i64 t) := by go_simp
            have d1 : (((wr.alloc (.cells #[.int .i64 t, .int .i64 s, .int .i64 o, .int .i64 n] 33)).alloc (.cells #[.pointer (some ⟨X j1, 0, none⟩), .pointer (some ⟨Y j1, 0, none⟩)] 31)).alloc (.cells #[.pointer (some ⟨X j2, 0, none⟩), .pointer (some ⟨Y j2, 0, none⟩)] 31)).cell? ⟨wr.heap.size, 1, none⟩ = some (.int .i64 s) := by go_simp
            have d2 : (((wr.alloc (.cells #[.int .i64 t, .int .i64 s, .int .i64 o, .int .i64 n] 33)).alloc (.cells #[.pointer (some ⟨X j1, 0, none⟩), .pointer (some ⟨Y j1, 0, none⟩)] 31)).alloc (.cells #[.pointer (some ⟨X j2, 0, none⟩), .pointer (some ⟨Y j2, 0, none⟩)] 31)).cell? ⟨wr.heap.size, 2, none⟩ = some (.int .i64 o) := by go_simp
            have d3 : (((wr.alloc (.cells #[.int .i64 t, .int .i64 s, .int .i64 o, .int .i64 n] 33)).alloc (.cells #[.pointer (some ⟨X j1, 0, none⟩), .pointer (some ⟨Y j1, 0, none⟩)] 31)).alloc (.cells #[.pointer (some ⟨X j2, 0, none⟩), .pointer (some ⟨Y j2, 0, none⟩)] 31)).cell? ⟨wr.heap.size, 3, none⟩ = some (.int .i64 n) := by go_simp
            have e0 : (((wr.alloc (.cells #[.int .i64 t, .int .i64 s, .int .i64 o, .int .i64 n] 33)).alloc (.cells #[.pointer (some ⟨X j1, 0, none⟩), .pointer (some ⟨Y j1, 0, none⟩)] 31)).alloc (.cells #[.pointer (some ⟨X j2, 0, none⟩), .pointer (some ⟨Y j2, 0, none⟩)] 31)).cell? ⟨wr.heap.size + 1, 0, none⟩ = some (.pointer (some ⟨X j1, 0, none⟩)) := by go_simp
            have e1 : (((wr.alloc (.cells #[.int .i64 t, .int .i64 s, .int .i64 o, .int .i64 n] 33)).alloc (.cells #[.pointer (some ⟨X j1, 0, none⟩), .pointer (some ⟨Y j1, 0, none⟩)] 31)).alloc (.cells #[.pointer (some ⟨X j2, 0, none⟩), .pointer (some ⟨Y j2, 0, none⟩)] 31)).cell? ⟨wr.heap.size + 1, 1, none⟩ = some (.pointer (some ⟨Y j1, 0, none⟩)) := by go_simp
            have f0 : (((wr.alloc (.cells #[.int .i64 t, .int .i64 s, .int .i64 o, .int .i64 n] 33)).alloc (.cells #[.pointer (some ⟨X j1, 0, none⟩), .pointer (some ⟨Y j1, 0, none⟩)] 31)).alloc (.cells #[.pointer (some ⟨X j2, 0, none⟩), .pointer (some ⟨Y j2, 0, none⟩)] 31)).cell? ⟨wr.heap.size + 1 + 1, 0, none⟩ = some (.pointer (some ⟨X j2, 0, none⟩)) := by go_simp
            have f1 : (((wr.alloc (.cells #[.int .i64 t, .int .i64 s, .int .i64 o, .int .i64 n] 33)).alloc (.cells #[.pointer (some ⟨X j1, 0, none⟩), .pointer (some ⟨Y j1, 0, none⟩)] 31)).alloc (.cells #[.pointer (some ⟨X j2, 0, none⟩), .pointer (some ⟨Y j2, 0, none⟩)] 31)).cell? ⟨wr.heap.size + 1 + 1, 1, none⟩ = some (.pointer (some ⟨Y j2, 0, none⟩)) := by go_simp
            have hlW : wr.heap.size + 1 + 1 < (((wr.alloc (.cells #[.int .i64 t, .int .i64 s, .int .i64 o, .int .i64 n] 33)).alloc (.cells #[.pointer (some ⟨X j1, 0, none⟩), .pointer (some ⟨Y j1, 0, none⟩)] 31)).alloc (.cells #[.pointer (some ⟨X j2, 0, none⟩), .pointer (some ⟨Y j2, 0, none⟩)] 31)).heap.size := by simp
            have hTw : ∀ j, Two (G j1) (AO j1) j → j < wr.heap.size := by
              rintro j (q | q)
              · rw [q]; exact (hps.pr j1 hj1k).b.ltg
              · exact ((hps.pr j1 hj1k).r.apart j q).2.2
            have hpsW := hps.below bW
            have hrowW := hrow.below bW
            have bkW := bk.trans (bW.mono hsk2)
            generalize (((wr.alloc (.cells #[.int .i64 t, .int .i64 s, .int .i64 o, .int .i64 n] 33)).alloc (.cells #[.pointer (some ⟨X j1, 0, none⟩), .pointer (some ⟨Y j1, 0, none⟩)] 31)).alloc (.cells #[.pointer (some ⟨X j2, 0, none⟩), .pointer (some ⟨Y j2, 0, none⟩)] 31)) = W at *
            generalize wr.heap.size = bs at *
            clear hps hrow bk
            have hP1 := hpsW.pr j1 hj1k
            refine (Hone.out _ _ _ _ _ _ _ t s o n _ hP1).mono ?_
            rintro e w3 ⟨rfl, p', hP3, t3⟩
            have hps3 := hpsW.turn hj1k hP3 t3
            have hrow3 := hrowW.turn hP1 t3
            have b3 := bkW.trans (t3.below (hpsW.two_lo hj1k) (by rw [← HC.out]; exact bkW.size))
            have hl3 : W.heap.size ≤ w3.heap.size := t3.size
            have g0 := (t3.cell (p := ⟨bs, 0, none⟩) (show bs < W.heap.size by omega) (fun q => Nat.lt_irrefl _ (hTw bs q))).trans d0
            have g1 := (t3.cell (p := ⟨bs, 1, none⟩) (show bs < W.heap.size by omega) (fun q => Nat.lt_irrefl _ (hTw bs q))).trans d1
            have g2 := (t3.cell (p := ⟨bs, 2, none⟩) (show bs < W.heap.size by omega) (fun q => Nat.lt_irrefl _ (hTw bs q))).trans d2
            have g3 := (t3.cell (p := ⟨bs, 3, none⟩) (show bs < W.heap.size by omega) (fun q => Nat.lt_irrefl _ (hTw bs q))).trans d3
            have k0 := (t3.cell (p := ⟨bs + 1, 0, none⟩) (show bs + 1 < W.heap.size by omega) (fun q => absurd (hTw (bs + 1) q) (by omega))).trans e0
            have k1 := (t3.cell (p := ⟨bs + 1, 1, none⟩) (show bs + 1 < W.heap.size by omega) (fun q => absurd (hTw (bs + 1) q) (by omega))).trans e1
            have l0 := (t3.cell (p := ⟨bs + 1 + 1, 0, none⟩) (show bs + 1 + 1 < W.heap.size by omega) (fun q => absurd (hTw (bs + 1 + 1) q) (by omega))).trans f0
            have l1 := (t3.cell (p := ⟨bs + 1 + 1, 1, none⟩) (show bs + 1 + 1 < W.heap.size by omega) (fun q => absurd (hTw (bs + 1 + 1) q) (by omega))).trans f1
            have hoth : Oth (X j1) (G j1) (Y j1) (AO j1) (some ⟨X j2, 0, none⟩) (some ⟨Y j2, 0, none⟩) w3 := by
              by_cases hjj : j2 = j1
              · subst hjj; exact .inr (.inl ⟨rfl, rfl⟩)
              · have hp2 := hps3.pr j2 hj2k
                exact .inr (.inr ⟨X j2, G j2, R j2, C, Y j2, AO j2, CP j2, _, rfl, rfl, hp2, hps3.ng j2 j1 hj2k hj1k hjj, hps3.nr j2 j1 hj2k hj1k hjj⟩)
            have Hp3 := hide' (And.intro hps3 (And.intro hrow3 b3))
            clear d0 d1 d2 d3 e0 e1 f0 f1 hpsW hrowW bkW bW hps3 hrow3 b3 hP1 t3
            go_wp2_with fail
            refine (Htwo.out _ _ _ _ _ _ _ (some ⟨X j2, 0, none⟩) (some ⟨Y j2, 0, none⟩) t s o n _ hP3 hoth).mono ?_
            rintro e w4 ⟨rfl, p'', hP4, t4⟩
            have hps4 := Hp3.out.1.turn hj1k hP4 t4
            have hrow4 := Hp3.out.2.1.turn hP3 t4
            have b4 := Hp3.out.2.2.trans (t4.below (Hp3.out.1.two_lo hj1k) (by rw [← HC.out]; exact Hp3.out.2.2.size))
            clear g0 g1 g2 g3 k0 k1 l0 l1 hoth hP3 hP4 t4
            go_wp2_with fail
            exact ⟨⟨k2 + 1, _, by omega, by go_num, rfl, hps4, hrow4, b4⟩, by simp [intOf]; omega⟩
        · have hPr : ∀ j, j < k → Pr (X j) (G j) (R j) C (Y j) (AO j) (CP j) (P j) wr := hps.pr
          have hex : ¬ (k2 : Int) < (len2 : Int) ∨ ¬ (0 : Int) < (k : Int) := by omega
          have Hal := hide' (fun x g R y ao cap p w h => alike_any x g R C y ao cap p w h)
          clear hlt
          by_cases hl2 : (k2 : Int) < (len2 : Int)
          · have hk0 : ¬ (0 : Int) < (k : Int) := by omega
            have hkz : k = 0 := by omega
            subst hkz
            clear hex hPr
            go_wp2_with fail
            go_loopw [5, 15] (fun v i wx => ∃ j : Nat, j ≤ 0 ∧ i = .int .i64 (j : Int) ∧ v = .bool true ∧ Below wr.heap.size wr wx) (fun _ i _ => 0 - (intOf i).toNat)
            case atStart => exact ⟨0, by omega, rfl, rfl, Below.refl _ _⟩
            case round =>
              obtain ⟨j, hj, rfl, rfl, bj⟩ := hrel
              by_cases hjk : j < 0
              · have hjk' : (j : Int) < (0 : Int) := by omega
                obtain ⟨gA, rfl, hgC, hgl, hcA, cur, hcur⟩ := (hrow.below bj).at' (by omega)
                obtain ⟨cx1, cy1⟩ := hcA j hjk
                have Hp := hide' ((hps.below bj).pr j hjk)
                clear hcA
                go_wp2_with fail
                refine (Hal.out _ _ _ _ _ _ _ _ Hp.out).mono ?_
                rintro e w5 ⟨rfl, b5⟩
                go_wp2_with fail
                exact ⟨⟨j + 1, by omega, by go_num, rfl, bj.trans (b5.mono bj.size)⟩, by simp [intOf]; omega⟩
              · have hjK : j = 0 := by omega
                have hjk' : ¬ (j : Int) < (0 : Int) := by omega
                have bfin : Below C w _ := bk.trans (bj.mono hsk2)
                clear hjk
                go_wp2_with fail
                go_ret
                exact ⟨rfl, bfin⟩
          · clear hex hPr
            go_wp2_with fail
            go_loopw [5, 15] (fun v i wx => ∃ j : Nat, j ≤ k ∧ i = .int .i64 (j : Int) ∧ v = .bool true ∧ Below wr.heap.size wr wx) (fun _ i _ => k - (intOf i).toNat)
            case atStart => exact ⟨0, by omega, rfl, rfl, Below.refl _ _⟩
            case round =>
              obtain ⟨j, hj, rfl, rfl, bj⟩ := hrel
              by_cases hjk : j < k
              · have hjk' : (j : Int) < (k : Int) := by omega
                obtain ⟨gA, rfl, hgC, hgl, hcA, cur, hcur⟩ := (hrow.below bj).at' (by omega)
                obtain ⟨cx1, cy1⟩ := hcA j hjk
                have Hp := hide' ((hps.below bj).pr j hjk)
                clear hcA
                go_wp2_with fail
                refine (Hal.out _ _ _ _ _ _ _ _ Hp.out).mono ?_
                rintro e w5 ⟨rfl, b5⟩
                go_wp2_with fail
                exact ⟨⟨j + 1, by omega, by go_num, rfl, bj.trans (b5.mono bj.size)⟩, by simp [intOf]; omega⟩
              · have hjK : j = k := by omega
                have hjk' : ¬ (j : Int) < (k : Int) := by omega
                have bfin : Below C w _ := bk.trans (bj.mono hsk2)
                clear hjk
                go_wp2_with fail
                go_ret
                exact ⟨rfl, bfin⟩
end Go.Proofs.Ytifbppjmdjdjbaa
