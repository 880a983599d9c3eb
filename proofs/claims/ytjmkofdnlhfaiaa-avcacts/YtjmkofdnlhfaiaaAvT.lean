import Derived.Test.YtjmkofdnlhfaiaaAvG
set_option linter.unusedVariables false
set_option linter.unusedSimpArgs false
namespace Go.Proofs.Ytjmkofdnlhfaiaa
open Go.RowKit
namespace C
variable {B c g n v : Nat} {b : Nat → Nat} {s : St} {w w' : World}
theorem nx_tmod {v k : Nat} (h : k < v) (h2 : v ≤ 8) : (wrap64 ((k : Int) + 1)).tmod (v : Int) = ((nx v k : Nat) : Int) := by
  rw [wsucN k (by omega), Int.tmod_eq_emod_of_nonneg (by omega), ← nx_mod h]
  omega
def sh (s : St) (i k : Nat) : St := ⟨s.f, fup s.h i k, s.hi, s.mi, s.ev⟩
set_option maxRecDepth 100000 in
set_option maxHeartbeats 1000000 in
theorem pass_any {i : Nat} (hi : i < n) (h : Ca B c g n v b s w) : Calls Try.prog 37 #[.pointer (some ⟨g, i * 2, none⟩)] w fun e w' => e = .returned (.pointer (some ⟨b i, s.h i * 7, none⟩)) ∧ Ca B c g n v b (sh s i (nx v (s.h i))) w' ∧ Turn (Own c g n b) w w' := by
  have HX : Hid (∀ m, (w.drewN m).cell? ⟨g, i * 2, none⟩ = some (.slice (some ⟨b i, 0, none⟩) v v) ∧ (w.drewN m).cell? ⟨g, i * 2 + 1, none⟩ = some (.int .i64 (s.h i : Nat)) ∧ (w.drewN m).frozen? ⟨g, i * 2 + 1, none⟩ = false) := hide' (fun m => ⟨h.g0 hi, h.g1 hi, h.fg _⟩)
  have g0 := h.g0 hi
  have g1 := h.g1 hi
  have hlt := h.hh i hi
  have hlt' : ((s.h i : Nat) : Int) < (v : Int) := by omega
  have v2 := h.v2
  have Hn := hide' (nx_tmod hlt v2)
  have hv0 : (0 : Int) < (v : Int) := by omega
  have HK : Hid (∀ m, Ca B c g n v b (sh s i (nx v (s.h i))) ((w.drewN m).setCell ⟨g, i * 2 + 1, none⟩ (.int .i64 (nx v (s.h i) : Nat))).drew ∧ Turn (Own c g n b) w ((w.drewN m).setCell ⟨g, i * 2 + 1, none⟩ (.int .i64 (nx v (s.h i) : Nat))).drew) := hide' (fun m => by
    have := (h.drewN m).hset hi (nx_lt hlt)
    exact ⟨this.1.kept (S := fun _ => False) ((Turn.refl _ _).drew) (fun _ _ q => q), (((Turn.refl _ w).drewN m).trans this.2).drew⟩)
  clear h v2 hlt
  generalize s.h i = k at *
  generalize b i = bb at *
  go_enter Try.func37, Try.ntmps37
  go_wp2_with fail
  go_quiet (fail)
  obtain ⟨y0, y1, yf⟩ := HX.out nq
  have HK' := hide' (HK.out nq)
  clear HK HX g0 g1
  generalize w.drewN nq = w2 at *
  go_wp2_with fail
  go_region
  rw [Hn.out]
  go_wp2
  go_ret
  exact ⟨rfl, HK'.out.1, HK'.out.2⟩
theorem pv6 (f : Pf) (j : Nat) : pv (f j) 6 = .bool (mkd f j) := by
  unfold mkd
  cases f j <;> rfl
/-- the marks, read off the world -/
def cm (w : World) (bb : Nat) : Nat → Nat
  | 0 => 0
  | m + 1 => cm w bb m + (match w.cell? ⟨bb, m * 7 + 6, none⟩ with | some (.bool true) => 1 | _ => 0)
theorem cm_eq {bb : Nat} {f : Pf} : ∀ m, (∀ j, j < m → w.cell? ⟨bb, j * 7 + 6, none⟩ = some (.bool (mkd f j))) → cm w bb m = cnt f m := by
  intro m
  induction m with
  | zero => intro _; rfl
  | succ m ih =>
    intro h
    unfold cm cnt
    rw [ih (fun j hj => h j (by omega)), h m (by omega)]
    cases mkd f m <;> rfl
def sf (s : St) (i : Nat) (f : Pf) (k : Nat) : St := ⟨fup s.f i f, fup s.h i k, s.hi, s.mi, s.ev⟩
theorem fup_id {α : Type} (f : Nat → α) (k : Nat) : fup f k (f k) = f := by
  funext j
  by_cases e : j = k
  · subst e; exact fup_self _ _ _
  · exact fup_ne _ _ e
theorem fup_fup {α : Type} (f : Nat → α) (k : Nat) (x y : α) : fup (fup f k x) k y = fup f k y := by
  funext j
  by_cases e : j = k
  · subst e; rw [fup_self, fup_self]
  · rw [fup_ne _ _ e, fup_ne _ _ e, fup_ne _ _ e]
theorem Ca.cm {i : Nat} (h : Ca B c g n v b s w) (hi : i < n) : C.cm w (b i) v = cnt (s.f i) v := cm_eq v (fun j hj => by rw [h.pc hi hj (by omega), pv6])
theorem Ca.unm {i k : Nat} {f : Pf} {h0 : Nat} (h : Ca B c g n v b (sf s i f h0) w) (hi : i < n) (hk : k < v) (hm : mkd f k = true) : Ca B c g n v b (sf s i (C.unm f k) h0) (w.setCell ⟨b i, k * 7 + 6, none⟩ (.bool false)) ∧ Turn (Own c g n b) w (w.setCell ⟨b i, k * 7 + 6, none⟩ (.bool false)) := by
  obtain ⟨d, hd, _⟩ := mkd_true hm
  have e : (sf s i f h0).f i = f := fup_self _ _ _
  have := h.pset hi hk (k := 6) (by omega) (some (umk d)) (.bool false) (fun q hq => by
    rw [e, hd]
    have : q = 0 ∨ q = 1 ∨ q = 2 ∨ q = 3 ∨ q = 4 ∨ q = 5 ∨ q = 6 := by omega
    rcases this with rfl | rfl | rfl | rfl | rfl | rfl | rfl <;> rfl)
  have e2 : fup2 (sf s i f h0).f i k (some (umk d)) = fup s.f i (C.unm f k) := by
    unfold fup2
    rw [e]
    show fup (fup s.f i f) i _ = _
    rw [fup_fup]
    unfold C.unm
    rw [hd]
    rfl
  rw [e2] at this
  exact this
theorem pt_eq {bb k j : Nat} (h : (Value.pointer (some ⟨bb, k * 7, none⟩)) = .pointer (some ⟨bb, j * 7, none⟩)) : k = j := by
  simp at h
  omega
set_option maxRecDepth 100000 in
set_option maxHeartbeats 1000000 in
theorem turn_any {i : Nat} (hi : i < n) (h : Ca B c g n v b s w) : Calls Try.prog 32 #[.pointer (some ⟨g, i * 2, none⟩)] w fun e w' => e = .returned (.pointer (some ⟨b i, (trn v (s.f i) (s.h i) v).2 * 7, none⟩)) ∧ Ca B c g n v b (sf s i (trn v (s.f i) (s.h i) v).1 (nx v (trn v (s.f i) (s.h i) v).2)) w' ∧ Turn (Own c g n b) w w' := by
  have HP := hide' (pass_any hi h)
  have e0 : sh s i (nx v (s.h i)) = sf s i (s.f i) (nx v (s.h i)) := by unfold sh sf; rw [fup_id]
  rw [e0] at HP
  have HS := hide' (And.intro (h.hh i hi) (show ∀ j, j < v → mkd (s.f i) j = true → dst v (s.h i) j < v from fun j hj _ => dst_lt (h.hh i hi) hj))
  clear h e0
  obtain ⟨R, hR⟩ : ∃ R, R = trn v (s.f i) (s.h i) v := ⟨_, rfl⟩
  rw [← hR]
  have HR := hide' hR
  clear hR
  go_enter Try.func32, Try.ntmps32
  go_wp2_with fail
  refine HP.out.mono ?_
  rintro e w1 ⟨rfl, h1, t1⟩
  have H1 := hide' (And.intro h1 t1)
  clear h1 t1 HP
  go_wp2_with fail
  go_loopw [3] (fun p wx => ∃ k m f, p = .pointer (some ⟨b i, k * 7, none⟩) ∧ Hid (k < v ∧ R = trn v f k m ∧ (∀ j, j < v → mkd f j = true → dst v k j < m) ∧ Ca B c g n v b (sf s i f (nx v k)) wx ∧ Turn (Own c g n b) w wx)) (fun _ wx => cm wx (b i) v)
  case atStart => exact ⟨s.h i, v, s.f i, rfl, hide' ⟨HS.out.1, HR.out, HS.out.2, H1.out.1, H1.out.2⟩⟩
  case round =>
    clear H1 HS HR
    obtain ⟨k, m, f, rfl, HK⟩ := hrel
    have p6 := HK.out.2.2.2.1.pc hi HK.out.1 (k := 6) (by omega)
    have e : (sf s i f (nx v k)).f i = f := fup_self _ _ _
    rw [e, pv6] at p6
    clear e
    cases hm : mkd f k with
    | false =>
      rw [hm] at p6
      have HE : Hid (R = (f, k) ∧ Ca B c g n v b (sf s i f (nx v k)) wr ∧ Turn (Own c g n b) w wr) := hide' ⟨HK.out.2.1.trans (trn_no hm), HK.out.2.2.2⟩
      clear hm HK
      go_wp2
      go_ret
      rw [HE.out.1]
      exact ⟨rfl, HE.out.2⟩
    | true =>
      rw [hm] at p6
      have f6 := HK.out.2.2.2.1.fb hi (k * 7 + 6)
      obtain ⟨h2, t2⟩ := HK.out.2.2.2.1.unm hi HK.out.1 hm
      have HC := hide' (pass_any hi h2)
      have e1 : (sf s i (C.unm f k) (nx v k)).h i = nx v k := fup_self _ _ _
      rw [e1, show sh (sf s i (C.unm f k) (nx v k)) i (nx v (nx v k)) = sf s i (C.unm f k) (nx v (nx v k)) by unfold sh sf; rw [fup_fup]] at HC
      have HM : Hid (∀ w3, Ca B c g n v b (sf s i (C.unm f k) (nx v (nx v k))) w3 → cm w3 (b i) v < cm wr (b i) v) := hide' (fun w3 h3 => by
        rw [h3.cm hi, HK.out.2.2.2.1.cm hi, show (sf s i (C.unm f k) (nx v (nx v k))).f i = C.unm f k from fup_self _ _ _, show (sf s i f (nx v k)).f i = f from fup_self _ _ _]
        exact cnt_unm HK.out.1 hm)
      have HN : Hid (nx v k < v ∧ R = trn v (C.unm f k) (nx v k) (m - 1) ∧ (∀ j, j < v → mkd (C.unm f k) j = true → dst v (nx v k) j < m - 1) ∧ Turn (Own c g n b) w (wr.setCell ⟨b i, k * 7 + 6, none⟩ (.bool false))) := hide' (by
        have hd := HK.out.2.2.1 k HK.out.1 hm
        obtain ⟨q, rfl⟩ : ∃ q, m = q + 1 := ⟨m - 1, by omega⟩
        exact ⟨nx_lt HK.out.1, HK.out.2.1.trans (trn_yes hm), trn_inv HK.out.1 HK.out.2.2.1 hm, HK.out.2.2.2.2.trans t2⟩)
      clear hm HK h2 t2 e1
      go_wp2_with fail
      refine HC.out.mono ?_
      rintro e w3 ⟨rfl, h3, t3⟩
      have HE := hide' (And.intro h3 (HN.out.2.2.2.trans t3))
      clear h3 t3 HC
      go_wp2
      exact ⟨⟨nx v k, m - 1, C.unm f k, rfl, hide' ⟨HN.out.1, HN.out.2.1, HN.out.2.2.1, HE.out.1, HE.out.2⟩⟩, HM.out w3 HE.out.1⟩
end C
end Go.Proofs.Ytjmkofdnlhfaiaa
