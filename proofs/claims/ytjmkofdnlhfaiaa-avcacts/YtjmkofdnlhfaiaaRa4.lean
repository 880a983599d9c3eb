import Derived.Test.YtjmkofdnlhfaiaaRa3
set_option linter.unusedVariables false
set_option linter.unusedSimpArgs false
namespace Go.Proofs.Ytjmkofdnlhfaiaa
open Go.RowKit
namespace C
variable {n v : Nat} {s : St} {L : List Dc} {B r hb : Nat} {lo : Option Addr} {lc : Nat} {w w' : World}
theorem info82 : (Try.prog.info? 82).map (fun i => (i.zero, i.size, i.bytes)) = some (some (.agg #[.int .i64 0, .int .i64 0, .int .i64 0, .int .i64 0, .int .i64 0, .int .i64 0, .bool false, .bool false]), 8, 56) := by kernel_rfl
theorem Rf.range (h : Rf B r hb n v s L lo lc w) {k : Nat} {x : Dc} (hx : L[k]? = some x) : ∃ g, lo = some ⟨g, 0, none⟩ ∧ w.rangeAt g (k * 8) [.int .i64 (x.i : Nat), .int .i64 (x.j : Nat), .int .i64 x.d.t.s, .int .i64 x.d.t.o, .int .i64 x.d.t.a, .int .i64 x.d.tag, .bool x.d.al, .bool x.d.mr] := by
  obtain ⟨g, hg, hc, _⟩ := h.ent hx
  exact ⟨g, hg, fun q u hu => hc q u hu⟩
theorem row_low {w : World} {B B' e m k : Nat} {u : Value} {xs : List Value} (h : w.ownsRow B e m u k xs) (hb : B' ≤ B) : w.ownsRow B' e m u k xs := ⟨h.1, h.2.imp id (fun ⟨g, cap, cur, a, b, c⟩ => ⟨g, cap, cur, a, Nat.le_trans hb b, c⟩)⟩
/-- the list up to q, without k -/
def er (L : List Dc) (k q : Nat) : List Dc := (L.take q).eraseIdx k
theorem er0 (L : List Dc) (k : Nat) : er L k 0 = [] := by unfold er; simp
theorem er_all (L : List Dc) (k : Nat) : er L k L.length = L.eraseIdx k := by unfold er; rw [List.take_length]
theorem er_skip {L : List Dc} {k : Nat} (hk : k < L.length) : er L k (k + 1) = er L k k := by
  unfold er
  apply List.ext_getElem?
  intro i
  rw [get_erase, get_erase]
  split
  · rw [List.getElem?_take, List.getElem?_take, if_pos (by omega), if_pos (by omega)]
  · rw [List.getElem?_take, List.getElem?_take, if_neg (by omega), if_neg (by omega)]
theorem er_next {L : List Dc} {k q : Nat} {x : Dc} (hx : L[q]? = some x) (hne : q ≠ k) : er L k (q + 1) = er L k q ++ [x] := by
  unfold er
  have hq := (List.getElem?_eq_some_iff.1 hx).1
  have e : L.take (q + 1) = L.take q ++ [x] := by rw [List.take_add_one, hx]; rfl
  rw [e]
  by_cases hl : k < q
  · rw [List.eraseIdx_append_of_lt_length (by rw [List.length_take]; omega)]
  · rw [List.eraseIdx_of_length_le (by rw [List.length_append, List.length_take, List.length_singleton]; omega), List.eraseIdx_of_length_le (by rw [List.length_take]; omega)]
theorem er_len (L : List Dc) (k q : Nat) : (er L k q).length ≤ L.length := by
  unfold er
  exact Nat.le_trans (List.length_eraseIdx_le _ _) (by rw [List.length_take]; omega)
/-- amid out: the new list -/
def Ro (B r hb n v : Nat) (s : St) (L : List Dc) (lo : Option Addr) (lc k q : Nat) (mo : Option Addr) (mc : Nat) (w0 w : World) : Prop :=
  Rf B r hb n v s L lo lc w ∧ Below w0.heap.size w0 w ∧ w.ownsRow w0.heap.size 82 8 (.slice mo (er L k q).length mc) (er L k q).length (dcl (er L k q))
set_option maxRecDepth 100000 in
set_option maxHeartbeats 1000000 in
theorem out_any {k : Nat} (hk : k < L.length) {s' : St} (h1 : s'.h = s.h) (h2 : s'.hi = s.hi ∧ s'.mi = s.mi ∧ s'.ev = s.ev) (hlr : Lr n v s' (L.eraseIdx k)) (h : Rf B r hb n v s L lo lc w) :
    Calls Try.prog 35 #[.pointer (some ⟨r, 0, none⟩), .int .i64 (k : Int)] w fun e w' => e = .returned (.tuple #[]) ∧ ∃ lo' lc', Rf B r hb n v s' (L.eraseIdx k) lo' lc' w' ∧ Turn (RO r hb lo) w w' ∧ ∀ j, At lo' j → w.heap.size ≤ j := by
  have Hfew := hide' (h.lr.few h.nv.1.2 h.nv.2.2)
  have HLow : Hid (∀ j, RO r hb lo j → j < w.heap.size) := hide' (fun j hj => (h.low hj).2)
  have H0 : Hid (Ro B r hb n v s L lo lc k 0 none 0 w w) := hide' ⟨h, Below.refl _ _, by rw [er0]; exact ⟨rfl, .inl ⟨rfl, rfl⟩⟩⟩
  have HR : Hid (∀ mo mc w1, Ro B r hb n v s L lo lc k L.length mo mc w w1 → ∃ lo' lc', Rf B r hb n v s' (L.eraseIdx k) lo' lc' (w1.setCell ⟨r, 3, none⟩ (.slice mo (er L k L.length).length mc)) ∧ Turn (RO r hb lo) w (w1.setCell ⟨r, 3, none⟩ (.slice mo (er L k L.length).length mc)) ∧ ∀ j, At lo' j → w.heap.size ≤ j) := hide' (fun mo mc w1 ⟨hf, hbel, hrow⟩ => by
    have t := turn_b r 3 (.slice mo (er L k L.length).length mc) w1
    have hrs := lt_of_heap h.hr
    refine ⟨mo, mc, ⟨?_, ?_, ?_, h.lb, h.nv, by rw [h1]; exact h.hv, hlr⟩, (turn_below hbel).trans (t.mono (fun j _ e => .inl e)), fun j hj => (row_atk hrow hj).1⟩
    · have := set_block (off := 3) (v := .slice mo (er L k L.length).length mc) hf.hr
      rw [h2.1, h2.2.1, h2.2.2, ← er_all]
      exact this
    · rw [h1]; exact (t.block hb (lt_of_heap hf.hh) (fun e => hf.ne e.symm)).trans hf.hh
    · rw [er_all] at hrow
      refine row_low (t.row hrow (fun j hj e => ?_)) (by have := h.lb.1; omega)
      have := (row_atk hrow (own_at hj)).1
      omega)
  clear h h1 h2 hlr
  go_enter Try.func35, Try.ntmps35
  go_wp2_with fail
  go_loopw [4, 5] (fun l i wx => ∃ (q : Nat) (mo : Option Addr) (mc ml : Nat), q ≤ L.length ∧ i = .int .i64 (q : Int) ∧ l = .slice mo ml mc ∧ Hid (ml = (er L k q).length) ∧ Hid (Ro B r hb n v s L lo lc k q mo mc w wx)) (fun _ i _ => L.length - (intOf i).toNat)
  case atStart => exact ⟨0, none, 0, 0, by omega, rfl, rfl, hide' (by rw [er0]; rfl), H0⟩
  case round =>
    clear H0
    obtain ⟨q, mo, mc, ml, hq, rfl, rfl, HM, H1⟩ := hrel
    have c3 := H1.out.1.c3
    have fr3 := H1.out.1.fr 3
    by_cases hlt : q < L.length
    · have hlt' : (q : Int) < (L.length : Int) := by omega
      have Hw := hide' (wsucN q (by have := Hfew.out; omega))
      by_cases e : q = k
      · obtain rfl : k = q := e.symm
        have HN : Hid (ml = (er L k (k + 1)).length ∧ Ro B r hb n v s L lo lc k (k + 1) mo mc w wr) := hide' (by
          have h1 := H1.out
          have h2 := HM.out
          unfold Ro at h1 ⊢
          rw [er_skip hlt]
          exact ⟨h2, h1⟩)
        clear e H1 HM
        go_wp2
        exact ⟨⟨k + 1, mo, mc, ml, by omega, by rw [Hw.out], rfl, hide' HN.out.1, hide' HN.out.2⟩, msr' hlt _ (Hw.out.trans (by omega))⟩
      · have e' : ¬ (q : Int) = (k : Int) := by omega
        obtain ⟨y, hy⟩ : ∃ y, L[q]? = some y := ⟨_, List.getElem?_eq_getElem hlt⟩
        obtain ⟨g, rfl, hra⟩ := H1.out.1.range hy
        have HRa := hide' hra
        have hml := HM.out
        subst hml
        have HL := hide' (show (er L k q).length < 1500000000000 by have := er_len L k q; have := Hfew.out; omega)
        have HB : Hid (w.heap.size ≤ wr.heap.size) := hide' H1.out.2.1.size
        have HE := hide' (er_next hy e)
        clear hra hy e HM
        go_wp2_with (with_reducible refine stay_load 82 _ rfl ?_)
        unfold Stay
        refine wpList_load_mid rfl 82 _ rfl g (q * 8) rfl _ _ HRa.out Try.underlying82 rfl (by kernel_rfl) ?_
        go_wp2_with (at_builtin; refine wpList_more (e := 82) (m := 8) Try.underlying58 info82 rfl (by decide) (by decide) wr rfl _ _ rfl H1.out.2.2 HL.out HB.out [.int .i64 (y.i : Nat), .int .i64 (y.j : Nat), .int .i64 y.d.t.s, .int .i64 y.d.t.o, .int .i64 y.d.t.a, .int .i64 y.d.tag, .bool y.d.al, .bool y.d.mr] rfl (by simp [Value.oneCell']) _ rfl rfl ?_; intro gg cap' w6 hr6 t6 hg6)
        have H6 : Hid ((er L k q).length + 1 = (er L k (q + 1)).length ∧ Ro B r hb n v s L (some ⟨g, 0, none⟩) lc k (q + 1) (some ⟨gg, 0, none⟩) cap' w w6) := hide' (by
          have hb6 := t6.below (fun j hj => (row_atk H1.out.2.2 hj).1) H1.out.2.1.size
          unfold Ro
          rw [HE.out, List.length_append, List.length_singleton, dcl_add]
          refine ⟨rfl, H1.out.1.kept t6 (fun j hj z => ?_), H1.out.2.1.trans hb6, hr6⟩
          have h1 := (row_atk H1.out.2.2 z).1
          have h2 : j < w.heap.size := HLow.out j hj
          omega)
        clear H1 hr6 t6 hg6
        go_wp2
        exact ⟨⟨q + 1, some ⟨gg, 0, none⟩, cap', _, by omega, by rw [Hw.out], rfl, hide' H6.out.1, hide' H6.out.2⟩, msr' hlt _ (Hw.out.trans (by omega))⟩
    · obtain rfl : q = L.length := by omega
      have hml := HM.out
      subst hml
      have HE := hide' (HR.out _ _ _ H1.out)
      clear H1 HR HM
      go_wp2
      exact ⟨rfl, _, results_none rfl _ _ _, rfl, HE.out⟩
end C
end Go.Proofs.Ytjmkofdnlhfaiaa
