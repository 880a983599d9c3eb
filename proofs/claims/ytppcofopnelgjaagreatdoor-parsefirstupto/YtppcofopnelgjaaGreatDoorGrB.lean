import Derived.Test.YtppcofopnelgjaaGreatDoorRPs
set_option linter.unusedVariables false
set_option linter.unusedSimpArgs false
namespace Go.Proofs.YtppcofopnelgjaaGreatDoor
open Go.RowKit
theorem two_kept {w W2 : World} {o1 o2 : Obj} (bw : Below ((w.alloc o1).alloc o2).heap.size ((w.alloc o1).alloc o2).drew W2) : W2.heap[w.heap.size]? = some o1 ∧ W2.heap[w.heap.size + 1]? = some o2 ∧ Below w.heap.size w W2 := by
  have b0 : Below w.heap.size w ((w.alloc o1).alloc o2).drew := (((Below.refl _ _).alloc (Nat.le_refl _) _).alloc (by simp) _).drew
  refine ⟨(bw.block _ (by simp; omega)).trans ?_, (bw.block _ (by simp)).trans ?_, b0.trans (bw.mono (by simp; omega))⟩
  · exact (Below.heap_alloc _ _ _ (by simp)).trans (heap_alloc_new _ _)
  · have := heap_alloc_new (w.alloc o1) o2
    show ((w.alloc o1).alloc o2).heap[w.heap.size + 1]? = some o2
    simpa using this
structure Tri (g : Nat) (a b c : Value) (w : World) : Prop where
  c0 : w.cell? ⟨g, 0, none⟩ = some a
  c1 : w.cell? ⟨g, 1, none⟩ = some b
  c2 : w.cell? ⟨g, 2, none⟩ = some c
  f : ∀ k, k < 3 → w.frozen? ⟨g, k, none⟩ = false
theorem Tri.of_block {g : Nat} {a b c : Value} {w w' : World} (h : Tri g a b c w) (k : w'.heap[g]? = w.heap[g]?) : Tri g a b c w' :=
  ⟨(World.cell?_of_block k).trans h.c0, (World.cell?_of_block k).trans h.c1, (World.cell?_of_block k).trans h.c2, fun i hi => (World.frozen?_of_block k).trans (h.f i hi)⟩
theorem Tri.of_cells {g : Nat} {a b c : Value} {w : World} {t : TypeId} (h : w.heap[g]? = some (.cells #[a, b, c] t (0, 0))) : Tri g a b c w := by
  refine ⟨?_, ?_, ?_, fun k hk => ?_⟩
  all_goals first | (simp [World.cell?, World.frozen?, h]; done) | skip
theorem Tri.frz {g : Nat} {a b c : Value} {w : World} (h : Tri g a b c w) : w.frozen? ⟨g, 0, none⟩ = false ∧ w.frozen? ⟨g, 1, none⟩ = false ∧ w.frozen? ⟨g, 2, none⟩ = false := ⟨h.f 0 (by omega), h.f 1 (by omega), h.f 2 (by omega)⟩
theorem Tri.set {g : Nat} {a b c : Value} {w : World} (h : Tri g a b c w) (a' b' c' : Value) :
    Tri g a' b' c' (((w.setCell ⟨g, 0, none⟩ a').setCell ⟨g, 1, none⟩ b').setCell ⟨g, 2, none⟩ c') := by
  obtain ⟨c0, c1, c2, f⟩ := h
  refine ⟨?_, ?_, ?_, fun k hk => ?_⟩
  · go_simp
  · go_simp
  · go_simp
  · simp only [World.frozen?_setCell]; exact f k hk
theorem Tri.drew {g : Nat} {a b c : Value} {w : World} (h : Tri g a b c w) : Tri g a b c w.drew := h.of_block rfl
theorem below3 {B g : Nat} (w : World) (hg : B ≤ g) (a b c : Value) : Below B w (((w.setCell ⟨g, 0, none⟩ a).setCell ⟨g, 1, none⟩ b).setCell ⟨g, 2, none⟩ c) :=
  ((((Below.refl _ _).setCell (p := ⟨g, 0, none⟩) hg _).setCell (p := ⟨g, 1, none⟩) hg _).setCell (p := ⟨g, 2, none⟩) hg _)
theorem turn3 (w : World) (g : Nat) (a b c : Value) : Turn (fun k => k = g) w (((w.setCell ⟨g, 0, none⟩ a).setCell ⟨g, 1, none⟩ b).setCell ⟨g, 2, none⟩ c) :=
  ((((Turn.refl (fun k => k = g) w).setCell (p := ⟨g, 0, none⟩) (fun _ => rfl) a).setCell (p := ⟨g, 1, none⟩) (fun _ => rfl) b).setCell (p := ⟨g, 2, none⟩) (fun _ => rfl) c)
theorem results55 {fn : Func} {p : Tmp} (h : fn.results = #[.cell p 55]) (tmps : Array Value) (w : World) (g : Nat) (a b c : Value) (hp : tmps.getD p undef = .pointer (some ⟨g, 0, none⟩)) (t : Tri g a b c w) :
    (results fn tmps).run Tryz.prog w = .ok (.agg #[a, b, c]) w := results_cells h tmps w g _ [a, b, c] hp Tryz.underlying55 rfl (by kernel_rfl) (cells3 t.c0 t.c1 t.c2)
set_option maxRecDepth 100000 in
set_option maxHeartbeats 4000000 in
theorem wordOf_any (t : R.Tok) (w : World) (ht : t.2.1.size ≤ 281474976710656) :
    Calls Tryz.prog 57 #[tv t] w fun e w' => e = .returned (wv (R.wdOf t)) ∧ Below w.heap.size w w' := by
  obtain ⟨tk, tt, tl, tc⟩ := t
  unfold tv wv R.wdOf
  simp only at ht ⊢
  have HC := hide' fun w => rclone_any tt w ht
  clear ht
  go_enter Tryz.func57, Tryz.ntmps57
  go_wp2
  go_region_with (go_at_call 76; refine (HC.out _).mono ?_; rintro e W2 ⟨rfl, bw⟩; have k := two_kept bw; have k1 := Tk.of_cells k.1; have k2 := Tri.of_cells k.2.1; have a2 := k1.c2; have a3 := k1.c3; have z0 := k2.c0; have z1 := k2.c1; have z2 := k2.c2; obtain ⟨y0, y1, y2⟩ := k2.frz; have K := hide' (And.intro k2 k.2.2); clear k k1 k2 bw)
  all_goals try go_wp2
  all_goals
    refine bodyPost_ret_by (results55 rfl _ _ (w.heap.size + 1) _ _ _ rfl (K.out.1.set _ _ _)) rfl ?_
    exact ⟨rfl, K.out.2.trans (below3 _ (by omega) _ _ _)⟩
end Go.Proofs.YtppcofopnelgjaaGreatDoor
set_option linter.unusedVariables false
set_option linter.unusedSimpArgs false
namespace Go.Proofs.YtppcofopnelgjaaGreatDoor
open Go.RowKit
/-- WHAT A PART OF THE READING COMES TO: a value and the reader behind it, or the panic -/
def RdIs {α : Type} (I : R.Src) (ao : Option Addr) (cap b : Nat) (r : R.Rd α) (enc : α → World → Value → Prop) (w : World) (e : Ending) (w' : World) : Prop :=
  match r with
  | .ok a j => (∃ v, e = .returned v ∧ enc a w' v) ∧ Rdr I ao cap b j w' ∧ Turn (fun k => k = b) w w'
  | .bad j c => e = .panicked [{ v := mf (I.at j) c, recovered := false }] ∧ Turn (fun k => k = b) w w'
theorem RdIs.cases {α : Type} {I : R.Src} {ao : Option Addr} {cap b : Nat} {r : R.Rd α} {enc : α → World → Value → Prop} {w : World} {e : Ending} {w' : World} (h : RdIs I ao cap b r enc w e w') :
    (∃ a j v, r = .ok a j ∧ e = .returned v ∧ enc a w' v ∧ Rdr I ao cap b j w' ∧ Turn (fun k => k = b) w w') ∨ (∃ j c, r = .bad j c ∧ e = .panicked [{ v := mf (I.at j) c, recovered := false }] ∧ Turn (fun k => k = b) w w') := by
  cases r with
  | ok a j => obtain ⟨⟨v, h1, h2⟩, h3, h4⟩ := h; exact Or.inl ⟨a, j, v, rfl, h1, h2, h3, h4⟩
  | bad j c => obtain ⟨h1, h2⟩ := h; exact Or.inr ⟨j, c, rfl, h1, h2⟩
set_option maxRecDepth 100000 in
theorem passSign_any {I : R.Src} {ao : Option Addr} {cap b i : Nat} {w : World} (h : Rdr I ao cap b i w) (s : ByteArray) :
    Calls Tryz.prog 109 #[.pointer (some ⟨b, 0, none⟩), .string s] w fun e w' => e = .returned (.bool (R.is 4 s.toList (I.at i))) ∧ Rdr I ao cap b (if R.is 4 s.toList (I.at i) then i + 1 else i) w' ∧ Turn (fun k => k = b) w w' := by
  have HP := hide' (rpass_any h 4 s (by decide))
  clear h
  generalize R.is 4 s.toList (I.at i) = q at *
  generalize (if q = true then i + 1 else i) = i' at *
  go_enter Tryz.func109, Tryz.ntmps109
  go_wp2_with (go_at_call 131; refine HP.out.mono ?_; rintro e w1 ⟨rfl, hr, ht⟩)
  go_ret
  exact ⟨rfl, hr, ht⟩
set_option maxRecDepth 100000 in
theorem passKey_any {I : R.Src} {ao : Option Addr} {cap b i : Nat} {w : World} (h : Rdr I ao cap b i w) (s : ByteArray) :
    Calls Tryz.prog 110 #[.pointer (some ⟨b, 0, none⟩), .string s] w fun e w' => e = .returned (.bool (R.is 1 s.toList (I.at i))) ∧ Rdr I ao cap b (if R.is 1 s.toList (I.at i) then i + 1 else i) w' ∧ Turn (fun k => k = b) w w' := by
  have HP := hide' (rpass_any h 1 s (by decide))
  clear h
  generalize R.is 1 s.toList (I.at i) = q at *
  generalize (if q = true then i + 1 else i) = i' at *
  go_enter Tryz.func110, Tryz.ntmps110
  go_wp2_with (go_at_call 131; refine HP.out.mono ?_; rintro e w1 ⟨rfl, hr, ht⟩)
  go_ret
  exact ⟨rfl, hr, ht⟩
theorem Rdr.newj {I : R.Src} {ao : Option Addr} {cap b i i2 : Nat} {w w' w2 : World} (h : Rdr I ao cap b i w') (h0 : Rdr I ao cap b i2 w2) {g : Nat} (hg : w2.heap.size ≤ g) (t : Turn (fun k => k = g) w' w) : Rdr I ao cap b i w := by
  refine h.turn1 t (fun e => by have := h0.lt; omega) (fun tb to e hl q => ?_)
  obtain ⟨tb', to', e', _, hlt, _⟩ := h0.tok 0 _ (List.getElem?_eq_getElem hl)
  rw [e] at e'; cases e'
  omega
def encU : Unit → World → Value → Prop := fun _ _ v => v = .tuple #[]
set_option maxRecDepth 100000 in
theorem sign_any {I : R.Src} {ao : Option Addr} {cap b i : Nat} {w : World} (h : Rdr I ao cap b i w) (s : ByteArray) :
    Calls Tryz.prog 81 #[.pointer (some ⟨b, 0, none⟩), .string s] w fun e w' => RdIs I ao cap b (I.one 4 s.toList i) encU w e w' := by
  have HP := hide' (passSign_any h s)
  unfold R.Src.one
  cases hq : R.is 4 s.toList (I.at i)
  · rw [hq] at HP
    unfold RdIs
    simp only [Bool.false_eq_true, if_false] at HP ⊢
    go_enter Tryz.func81, Tryz.ntmps81
    go_wp2_with (first | (go_at_call 109; refine HP.out.mono ?_; rintro e w1 ⟨rfl, hr, ht⟩) | (go_at_call 108; refine (refuse_any hr _).mono ?_; rintro e w2 ⟨rfl, b2⟩))
    exact ⟨rfl, rfl, ht.trans (turn_below b2)⟩
  · rw [hq] at HP
    unfold RdIs
    simp only [if_true] at HP ⊢
    go_enter Tryz.func81, Tryz.ntmps81
    go_wp2_with (go_at_call 109; refine HP.out.mono ?_; rintro e w1 ⟨rfl, hr, ht⟩)
    go_end0
    exact ⟨⟨_, rfl, rfl⟩, hr, ht⟩
set_option maxRecDepth 100000 in
theorem keyword_any {I : R.Src} {ao : Option Addr} {cap b i : Nat} {w : World} (h : Rdr I ao cap b i w) (s : ByteArray) :
    Calls Tryz.prog 113 #[.pointer (some ⟨b, 0, none⟩), .string s] w fun e w' => RdIs I ao cap b (I.one 1 s.toList i) encU w e w' := by
  have HP := hide' (passKey_any h s)
  unfold R.Src.one
  cases hq : R.is 1 s.toList (I.at i)
  · rw [hq] at HP
    unfold RdIs
    simp only [Bool.false_eq_true, if_false] at HP ⊢
    go_enter Tryz.func113, Tryz.ntmps113
    go_wp2_with (first | (go_at_call 110; refine HP.out.mono ?_; rintro e w1 ⟨rfl, hr, ht⟩) | (go_at_call 108; refine (refuse_any hr _).mono ?_; rintro e w2 ⟨rfl, b2⟩))
    exact ⟨rfl, rfl, ht.trans (turn_below b2)⟩
  · rw [hq] at HP
    unfold RdIs
    simp only [if_true] at HP ⊢
    go_enter Tryz.func113, Tryz.ntmps113
    go_wp2_with (go_at_call 110; refine HP.out.mono ?_; rintro e w1 ⟨rfl, hr, ht⟩)
    go_end0
    exact ⟨⟨_, rfl, rfl⟩, hr, ht⟩
def encW : R.Wd → World → Value → Prop := fun x _ v => v = wv x
set_option maxRecDepth 100000 in
set_option maxHeartbeats 2000000 in
theorem name_any {I : R.Src} {ao : Option Addr} {cap b i : Nat} {w : World} (h : Rdr I ao cap b i w) :
    Calls Tryz.prog 80 #[.pointer (some ⟨b, 0, none⟩)] w fun e w' => RdIs I ao cap b (I.name i) encW w e w' := by
  have H := hide' h
  have lt := h.lt
  have HP := hide' fun w (h : Rdr I ao cap b i w) => rpeek_any h
  have HN := hide' (isName_any (I.at i))
  have hsm := h.ok.small i
  have hlen : i < R.lim + 1 := by have := h.ok.few; have := h.le; omega
  have hw : IntKind.i64.wrap ((i : Int) + 1) = (i : Int) + 1 := by
    unfold R.lim at hlen
    rw [IntKind.wrap_i64]; omega
  have HW := hide' fun w => wordOf_any (I.at i) w (by unfold R.lim at hsm; omega)
  have hon : R.isNm (I.at i) = true → i < I.l.length := fun q => h.at_on (fun e => by
    unfold R.isNm at q; rw [e] at q; simp at q)
  have Hon := hide' hon
  have hbad : (mf (I.at i) 40) = (mf (I.at i) 40) := rfl
  unfold R.Src.name
  clear h hsm hlen hon
  cases hq : R.isNm (I.at i)
  · rw [hq] at HN
    unfold RdIs
    simp only [Bool.false_eq_true, if_false]
    generalize hx : I.at i = t at *
    have Hx := hide' hx
    clear hx hbad
    obtain ⟨tk, tt, tl, tc⟩ := t
    unfold tv at HP HN
    simp only at HP HN
    have HR := hide' fun w (h : Rdr I ao cap b i w) => refuse_any h 40
    rw [Hx.out] at HR
    go_enter Tryz.func80, Tryz.ntmps80
    go_wp2_with (first | (go_at_call 106; refine (HP.out _ (H.out.alloc _)).mono ?_; rintro e w1 ⟨rfl, b1⟩; have r1 := hide' (And.intro (((H.out.alloc _).below b1).alloc (.cells #[.int .i8 tk, .string tt, .int .i64 tl, .int .i64 tc] 44)) (old_kept b1)); clear b1) | (go_at_call 112; refine (HN.out _).mono ?_; rintro e w2 ⟨rfl, b2⟩) | (go_at_call 108; refine (HR.out _ (r1.out.1.below b2)).mono ?_; rintro e w3 ⟨rfl, b3⟩))
    exact ⟨rfl, rfl, (turn_below ((r1.out.2.trans ((Below.refl _ _).alloc r1.out.2.size _)))).trans ((turn_below b2).trans (turn_below b3))⟩
  · have hi := Hon.out hq
    rw [hq] at HN
    unfold RdIs
    simp only [if_true]
    generalize hx : I.at i = t at *
    have Hx := hide' hx
    clear hx hbad Hon
    obtain ⟨tk, tt, tl, tc⟩ := t
    unfold tv at HP HN HW
    unfold wv R.wdOf at HW
    unfold encW wv R.wdOf
    simp only at HP HN HW ⊢
    go_enter Tryz.func80, Tryz.ntmps80
    go_wp2_with (first | (go_at_call 106; refine (HP.out _ (H.out.alloc _)).mono ?_; rintro e w1 ⟨rfl, b1⟩; have r1 := hide' (And.intro (((H.out.alloc _).below b1).alloc (.cells #[.int .i8 tk, .string tt, .int .i64 tl, .int .i64 tc] 44)) (And.intro (new_kept b1) (old_kept b1))); have z1 := (old_kept b1).size; have z1' : w.heap.size < w1.heap.size := (by have := b1.size; simp at this; omega); clear b1) | (go_at_call 112; refine (HN.out _).mono ?_; rintro e w2 ⟨rfl, b2⟩; have q2 := r1.out.1.below b2; have c5 := q2.c5; have f5 := q2.f; have k2 := Tk.of_cells ((b2.block w1.heap.size (by simp)).trans (heap_alloc_new _ _)); have k0 := (b2.block w.heap.size (by simp; omega)).trans ((Below.heap_alloc _ _ _ z1').trans r1.out.2.1); have m0 := k2.c0; have m1 := k2.c1; have m2 := k2.c2; have m3 := k2.c3; have n2 : ¬ w1.heap.size = b := (by omega); have r2 := hide' (And.intro (q2.step hi) (And.intro k0 (r1.out.2.2.trans (((Below.refl _ _).alloc z1 _).trans (b2.mono (by simp; omega)))))); have z2 : w.heap.size < w2.heap.size := (by have := b2.size; simp at this; omega); clear q2 k2 k0 b2) | (go_at_call 57; refine (HW.out _).mono ?_; rintro e w3 ⟨rfl, b3⟩; have k3 := Tri.of_cells ((b3.block w.heap.size (by simp; omega)).trans ((Below.heap_setCell _ _ _ _ (by simp; omega)).trans r2.out.2.1)); have y0 := k3.c0; have y1 := k3.c1; have y2 := k3.c2; obtain ⟨v0, v1, v2⟩ := k3.frz; have K := hide' (And.intro k3 (And.intro (r2.out.1.1.below b3) ((turn_below r2.out.2.2).trans (r2.out.1.2.trans (turn_below b3))))); clear k3 b3))
    refine bodyPost_ret_by (results55 rfl _ _ w.heap.size _ _ _ rfl (K.out.1.set _ _ _)) rfl ?_
    have tr := turn3 w3 w.heap.size (.string tt) (.int .i64 tl) (.int .i64 tc)
    exact ⟨⟨_, rfl, rfl⟩, K.out.2.1.newj H.out (Nat.le_refl _) tr, K.out.2.2.then tr (fun k hk e => by omega)⟩
end Go.Proofs.YtppcofopnelgjaaGreatDoor
