import Derived.Test.YtppcofopnelgjaaGreatDoorGrB
import Derived.Test.YtppcofopnelgjaaGreatDoorChOf
set_option linter.unusedVariables false
set_option linter.unusedSimpArgs false
namespace Go.Proofs.YtppcofopnelgjaaGreatDoor
open Go.RowKit
def wcells (x : R.Wd) : List Value := [.string x.1, .int .i64 x.2.1, .int .i64 x.2.2]
def encL (B : Nat) : List R.Wd → World → Value → Prop := fun l w v => w.ownsRow B 55 3 v l.length (l.flatMap wcells)
theorem info55 : (Tryz.prog.info? 55).map (fun i => (i.zero, i.size, i.bytes)) = some (some (.agg #[.string ByteArray.empty, .int .i64 0, .int .i64 0]), 3, 32) := by kernel_rfl
theorem three_new (w : World) (x y z : Value) (t : TypeId) : ∀ j u, [x, y, z][j]? = some u → (w.alloc (.cells #[x, y, z] t)).cell? ((⟨w.heap.size, 0, none⟩ : Addr).add j) = some u := by
  intro j u hj
  exact World.news_of_block (heap_alloc_new w (.cells #[x, y, z] t)) j u (by simpa using hj)
/-- the place that a reader holds -/
def atOf (b : Nat) (w : World) : Nat := match w.cell? ⟨b, 5, none⟩ with | some (.int _ n) => n.toNat | _ => 0
theorem atOf_of {I : R.Src} {ao : Option Addr} {cap b i : Nat} {w : World} (h : Rdr I ao cap b i w) : atOf b w = i := by simp [atOf, h.c5]
theorem row_one {w : World} {B : Nat} {x : R.Wd} (hB : B ≤ w.heap.size) : (w.alloc (.cells #[.string x.1, .int .i64 x.2.1, .int .i64 x.2.2] 55)).ownsRow B 55 3 (.slice (some ⟨w.heap.size, 0, none⟩) 1 1) 1 (wcells x) :=
  ⟨rfl, Or.inr ⟨w.heap.size, 1, _, rfl, hB, heap_alloc_new _ _, Nat.le_refl _, by unfold maxLen; omega, rfl, rfl⟩⟩
theorem R.more_no {I : R.Src} {f : Nat} {acc : List R.Wd} {i : Nat} (h : R.is 4 [44] (I.at i) = false) : I.more f acc i = .ok acc i := by
  cases f with
  | zero => rfl
  | succ f => simp [R.Src.more, h]
theorem R.more_bad {I : R.Src} {f : Nat} {acc : List R.Wd} {i j : Nat} {c : Int} (h : R.is 4 [44] (I.at i) = true) (k : I.name (i + 1) = .bad j c) : I.more (f + 1) acc i = .bad j c := by
  simp [R.Src.more, h, k, R.Rd.bind]
theorem R.more_on {I : R.Src} {f : Nat} {acc : List R.Wd} {i j : Nat} {x : R.Wd} (h : R.is 4 [44] (I.at i) = true) (k : I.name (i + 1) = .ok x j) : I.more (f + 1) acc i = I.more f (acc ++ [x]) j := by
  simp [R.Src.more, h, k, R.Rd.bind]
theorem R.name_ok {I : R.Src} {i j : Nat} {x : R.Wd} (h : I.name i = .ok x j) : j = i + 1 := by
  unfold R.Src.name at h
  split at h
  · cases h; rfl
  · cases h
theorem Rdr.newS {I : R.Src} {ao : Option Addr} {cap b i i2 : Nat} {w w' w2 : World} (h : Rdr I ao cap b i w') (h0 : Rdr I ao cap b i2 w2) {S : Nat → Prop} (hS : ∀ k, S k → w2.heap.size ≤ k) (t : Turn S w' w) : Rdr I ao cap b i w := by
  have hb : ¬ S b := fun q => by have := hS b q; have := h0.lt; omega
  refine ⟨h.ok, h.le, Nat.lt_of_lt_of_le h.lt t.size, (t.cell h.lt hb).trans h.c0, (t.cell h.lt hb).trans h.c1, (t.cell h.lt hb).trans h.c2, (t.cell h.lt hb).trans h.c3, (t.cell h.lt hb).trans h.c4, (t.cell h.lt hb).trans h.c5, (World.frozen?_of_block (w := w') (t.block b h.lt hb)).trans h.f, ?_⟩
  intro j x hx
  obtain ⟨tb, to, e, hne, hl, q0, q1, q2, q3⟩ := h.tok j x hx
  obtain ⟨tb', to', e', _, hlt, _⟩ := h0.tok j x hx
  rw [e] at e'; cases e'
  have hn : ¬ S tb := fun q => by have := hS tb q; omega
  exact ⟨tb, to, e, hne, Nat.lt_of_lt_of_le hl t.size, (t.cell (p := ⟨tb, _, none⟩) hl hn).trans q0, (t.cell (p := ⟨tb, _, none⟩) hl hn).trans q1, (t.cell (p := ⟨tb, _, none⟩) hl hn).trans q2, (t.cell (p := ⟨tb, _, none⟩) hl hn).trans q3⟩
set_option maxRecDepth 100000 in
set_option maxHeartbeats 4000000 in
theorem names_any {I : R.Src} {ao : Option Addr} {cap b i : Nat} {w : World} (h : Rdr I ao cap b i w) :
    Calls Tryz.prog 78 #[.pointer (some ⟨b, 0, none⟩)] w fun e w' => RdIs I ao cap b (I.names i) (encL w.heap.size) w e w' := by
  have H := hide' h
  have HN := hide' (name_any h)
  have lt := h.lt
  unfold R.Src.names
  clear h
  cases hn : I.name i with
  | bad j c =>
    rw [hn] at HN
    unfold RdIs at HN
    simp only [R.Rd.bind]
    unfold RdIs
    simp only at HN ⊢
    go_enter Tryz.func78, Tryz.ntmps78
    go_wp2_with (go_at_call 80; refine HN.out.mono ?_; rintro e w1 ⟨rfl, ht⟩)
    exact ⟨rfl, rfl, ht⟩
  | ok x j =>
    rw [hn] at HN
    unfold RdIs encW wv at HN
    simp only [R.Rd.bind]
    simp only at HN
    obtain ⟨tgt, htgt⟩ : ∃ tgt, I.more I.l.length [x] j = tgt := ⟨_, rfl⟩
    rw [htgt]
    have Hj := hide' (And.intro htgt (R.name_ok hn))
    clear hn htgt
    have hi55 := info55
    cases hq55 : Tryz.prog.info? 55 with
    | none => simp [hq55] at hi55
    | some i0 =>
    obtain ⟨hz0, hz1, hz2⟩ : i0.zero = some (.agg #[.string ByteArray.empty, .int .i64 0, .int .i64 0]) ∧ i0.size = 3 ∧ i0.bytes = 32 := by simpa [hq55] using hi55
    have Hz := hide' (And.intro hq55 (And.intro hz0 (And.intro hz1 hz2)))
    clear hi55 hq55 hz0 hz1 hz2
    go_enter Tryz.func78, Tryz.ntmps78
    go_wp2_with (go_at_call 80; refine HN.out.mono ?_; rintro e w1 ⟨⟨v, rfl, rfl⟩, hr1, ht1⟩; have r1 := hide' (And.intro hr1 ht1); clear hr1 ht1)
    go_loopw [3] (fun v wx => ∃ (k f : Nat) (acc : List R.Wd), Rdr I ao cap b k wx ∧ Turn (fun k => k = b) w wx ∧ wx.ownsRow w.heap.size 55 3 v acc.length (acc.flatMap wcells) ∧ I.more f acc k = tgt ∧ I.l.length < k + f ∧ acc.length ≤ k) (fun _ wx => I.l.length + 1 - atOf b wx)
    case atStart =>
      have e1 := Hj.out.2
      refine ⟨j, I.l.length, [x], r1.out.1.alloc _, r1.out.2.alloc _, ?_, Hj.out.1, by omega, by simp; omega⟩
      have := row_one (w := w1) (B := w.heap.size) (x := x) r1.out.2.size
      simpa using this
    case round =>
      obtain ⟨k, f, acc, hr, ht, hrow, hm, hkf, hak⟩ := hrel
      have hkl := hr.le
      have hat := atOf_of hr
      have hfew := hr.ok.few
      have PS := hide' (passSign_any hr ⟨#[44]⟩)
      have HR := hide' (And.intro hr (And.intro ht (And.intro hrow (And.intro H.out hfew))))
      clear hr ht hrow hfew
      cases hc : R.is 4 [44] (I.at k)
      · have e : tgt = .ok acc k := hm.symm.trans (R.more_no hc)
        clear hm
        subst e
        rw [show (⟨#[44]⟩ : ByteArray).toList = [44] from (by first | kernel_rfl | decide | simp), hc] at PS
        simp only [Bool.false_eq_true, if_false] at PS
        go_wp2_with (go_at_call 109; refine PS.out.mono ?_; rintro e w2 ⟨rfl, hr2, ht2⟩)
        go_ret
        unfold RdIs encL
        refine ⟨⟨_, rfl, ?_⟩, hr2, HR.out.2.1.trans ht2⟩
        exact ht2.row HR.out.2.2.1 (fun g hg => by have := (HR.out.2.2.1.lt g hg).1; omega)
      · rw [show (⟨#[44]⟩ : ByteArray).toList = [44] from (by first | kernel_rfl | decide | simp), hc] at PS
        simp only [if_true] at PS
        obtain ⟨f', rfl⟩ : ∃ f', f = f' + 1 := ⟨f - 1, by omega⟩
        have HN2 := hide' fun w (h : Rdr I ao cap b (k + 1) w) => name_any h
        cases hn : I.name (k + 1) with
        | bad j' c =>
          have e : tgt = .bad j' c := hm.symm.trans (R.more_bad hc hn)
          clear hm
          subst e
          rw [hn] at HN2
          unfold RdIs at HN2
          simp only at HN2
          go_wp2_with (first | (go_at_call 109; refine PS.out.mono ?_; rintro e w2 ⟨rfl, hr2, ht2⟩) | (go_at_call 80; refine (HN2.out _ hr2).mono ?_; rintro e w3 ⟨rfl, ht3⟩))
          refine ⟨rfl, ?_⟩
          unfold RdIs
          exact ⟨rfl, (HR.out.2.1.trans ht2).trans ht3⟩
        | ok y j' =>
          have hj' := R.name_ok hn
          have e : I.more f' (acc ++ [y]) j' = tgt := (R.more_on hc hn).symm.trans hm
          clear hm
          rw [hn] at HN2
          unfold RdIs encW wv at HN2
          simp only at HN2
          have b1' : Hid (acc.length + 1 ≤ maxLen) := (show acc.length + 1 ≤ maxLen by have := HR.out.2.2.2.2; unfold R.lim at this; unfold maxLen; omega)
          have b2' : Hid ((acc.length + 1) * 32 ≤ 140737488355328) := (show (acc.length + 1) * 32 ≤ 140737488355328 by have := HR.out.2.2.2.2; unfold R.lim at this; omega)
          have He := hide' e
          clear e
          go_wp2_with (first | (go_at_call 109; refine PS.out.mono ?_; rintro e w2 ⟨rfl, hr2, ht2⟩) | (go_at_call 80; refine (HN2.out _ hr2).mono ?_; rintro e w3 ⟨⟨v3, rfl, rfl⟩, hr3, ht3⟩; have R3 := hide' (And.intro hr3 (And.intro ((HR.out.2.1.trans ht2).trans ht3) ((ht2.trans ht3).row HR.out.2.2.1 (fun g hg => by have := (HR.out.2.2.1.lt g hg).1; omega)))); clear hr2 ht2 hr3 ht3) | (at_builtin; refine wpList_append_lies _ rfl _ _ 56 rfl w.heap.size 55 i0 _ 3 32 Tryz.underlying56 Hz.out.1 Hz.out.2.1 Hz.out.2.2.1 Hz.out.2.2.2 rfl (by decide) _ _ _ rfl (R3.out.2.2.alloc _) ⟨w3.heap.size, 0, none⟩ 1 1 (wcells y) rfl rfl (three_new _ _ _ _ _) (by simp [wcells, Value.oneCell']) (by decide) b1'.out b2'.out (by have := R3.out.2.1.size; simp; omega) _ rfl ?_; intro g cp w4 hrow4 hgrow4 hat4 hlt4))
          replace hgrow4 : (w3.alloc (.cells #[.string y.1, .int .i64 y.2.1, .int .i64 y.2.2] 55)).grownBy w4 u3.ownBlock := hgrow4
          clear hat4
          have tg : Turn (fun k => w.heap.size ≤ k) (w3.alloc (.cells #[.string y.1, .int .i64 y.2.1, .int .i64 y.2.2] 55)) w4 := (Turn.refl _ _).grown hgrow4 (fun k hk _ => (R3.out.2.2.lt k hk).1)
          have hr4 := (R3.out.1.alloc (.cells #[.string y.1, .int .i64 y.2.1, .int .i64 y.2.2] 55)).newS HR.out.2.2.2.1 (fun k q => q) tg
          refine ⟨⟨j', f', acc ++ [y], hr4, (R3.out.2.1.alloc _).then tg (fun k hk q => by omega), ?_, He.out, by omega, by simp; omega⟩, ?_⟩
          · simpa using hrow4
          · rw [atOf_of hr4, hat]; omega
end Go.Proofs.YtppcofopnelgjaaGreatDoor
