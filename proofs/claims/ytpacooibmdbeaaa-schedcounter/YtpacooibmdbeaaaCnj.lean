import Derived.Test.YtpacooibmdbeaaaMac
import Derived.Test.YtpacooibmdbeaaaRoW
set_option linter.unusedVariables false
set_option linter.unusedSimpArgs false
namespace Go.Proofs.Ytpacooibmdbeaaa
open Go.RowKit
namespace K
open C (lst stp)
/-- two counters, and the document's beside them -/
structure Jc (w0 : World) (n m : Int) (ca cb xa xb : Nat) (Da Db Dx Dy : Nat → Prop) (ts us xs ys : List Int) (w : World) : Prop where
  a : C.Ct Da w0.heap.size ca n ts w
  b : C.Ct Db w0.heap.size cb m us w
  x : R.Ct Dx w0.heap.size xa n xs w
  y : R.Ct Dy w0.heap.size xb m ys w
  dab : ∀ j, Da j → ¬ Db j
  dax : ∀ j, Da j → ¬ Dx j
  day : ∀ j, Da j → ¬ Dy j
  dbx : ∀ j, Db j → ¬ Dx j
  dby : ∀ j, Db j → ¬ Dy j
  dxy : ∀ j, Dx j → ¬ Dy j
  bel : Below w0.heap.size w0 w
variable {w0 w w' : World} {n m : Int} {ca cb xa xb : Nat} {Da Db Dx Dy : Nat → Prop} {ts us xs ys zs : List Int}
theorem Jc.below (h : Jc w0 n m ca cb xa xb Da Db Dx Dy ts us xs ys w) (b : Below w.heap.size w w') : Jc w0 n m ca cb xa xb Da Db Dx Dy ts us xs ys w' :=
  have t : Turn (fun _ => False) w w' := turn_below b
  ⟨h.a.kept t (fun _ _ q => q), h.b.kept t (fun _ _ q => q), h.x.kept t (fun _ _ q => q), h.y.kept t (fun _ _ q => q), h.dab, h.dax, h.day, h.dbx, h.dby, h.dxy, h.bel.trans (b.mono h.bel.size)⟩
/-- what has new blocks stays apart -/
theorem apart_new {D D' E : Nat → Prop} {s : Nat} (h : ∀ j, D' j → D j ∨ s ≤ j) (d : ∀ j, D j → ¬ E j) (l : ∀ j, E j → j < s) : ∀ j, D' j → ¬ E j := fun j hj q => by
  rcases h j hj with r | r
  · exact d j r q
  · have := l j q
    omega
theorem flip {D E : Nat → Prop} (d : ∀ j, D j → ¬ E j) : ∀ j, E j → ¬ D j := fun j q r => d j r q
theorem Jc.sa (h : Jc w0 n m ca cb xa xb Da Db Dx Dy ts us xs ys w) (t : C.To Da w0.heap.size ca n zs w w') : ∃ D', Jc w0 n m ca cb xa xb D' Db Dx Dy zs us xs ys w' := by
  obtain ⟨D', c1, t1, hd⟩ := t
  exact ⟨D', c1, h.b.kept t1 (flip h.dab), h.x.kept t1 (flip h.dax), h.y.kept t1 (flip h.day), apart_new hd h.dab (fun j q => (h.b.lo q).2), apart_new hd h.dax (fun j q => (h.x.lo q).2), apart_new hd h.day (fun j q => (h.y.lo q).2), h.dbx, h.dby, h.dxy, h.bel.trans (t1.below (fun j q => (h.a.lo q).1) h.bel.size)⟩
theorem Jc.sb (h : Jc w0 n m ca cb xa xb Da Db Dx Dy ts us xs ys w) (t : C.To Db w0.heap.size cb m zs w w') : ∃ D', Jc w0 n m ca cb xa xb Da D' Dx Dy ts zs xs ys w' := by
  obtain ⟨D', c1, t1, hd⟩ := t
  exact ⟨D', h.a.kept t1 h.dab, c1, h.x.kept t1 (flip h.dbx), h.y.kept t1 (flip h.dby), flip (apart_new hd (flip h.dab) (fun j q => (h.a.lo q).2)), h.dax, h.day, apart_new hd h.dbx (fun j q => (h.x.lo q).2), apart_new hd h.dby (fun j q => (h.y.lo q).2), h.dxy, h.bel.trans (t1.below (fun j q => (h.b.lo q).1) h.bel.size)⟩
theorem Jc.sx (h : Jc w0 n m ca cb xa xb Da Db Dx Dy ts us xs ys w) (t : R.To Dx w0.heap.size xa n zs w w') : ∃ D', Jc w0 n m ca cb xa xb Da Db D' Dy ts us zs ys w' := by
  obtain ⟨D', c1, t1, hd⟩ := t
  exact ⟨D', h.a.kept t1 h.dax, h.b.kept t1 h.dbx, c1, h.y.kept t1 (flip h.dxy), h.dab, flip (apart_new hd (flip h.dax) (fun j q => (h.a.lo q).2)), h.day, flip (apart_new hd (flip h.dbx) (fun j q => (h.b.lo q).2)), h.dby, apart_new hd h.dxy (fun j q => (h.y.lo q).2), h.bel.trans (t1.below (fun j q => (h.x.lo q).1) h.bel.size)⟩
theorem Jc.sy (h : Jc w0 n m ca cb xa xb Da Db Dx Dy ts us xs ys w) (t : R.To Dy w0.heap.size xb m zs w w') : ∃ D', Jc w0 n m ca cb xa xb Da Db Dx D' ts us xs zs w' := by
  obtain ⟨D', c1, t1, hd⟩ := t
  exact ⟨D', h.a.kept t1 h.day, h.b.kept t1 h.dby, h.x.kept t1 h.dxy, c1, h.dab, h.dax, flip (apart_new hd (flip h.day) (fun j q => (h.a.lo q).2)), h.dbx, flip (apart_new hd (flip h.dby) (fun j q => (h.b.lo q).2)), flip (apart_new hd (flip h.dxy) (fun j q => (h.x.lo q).2)), h.bel.trans (t1.below (fun j q => (h.y.lo q).1) h.bel.size)⟩
theorem stp_len (n : Int) (ts : List Int) (v : Int) : (stp n ts v).length ≤ ts.length + 1 := by unfold stp; split <;> simp
theorem stp_le {n : Int} {ts : List Int} (v : Int) (h : (ts.length : Int) ≤ n) : ((stp n ts v).length : Int) ≤ n := by
  unfold stp
  split
  · simp; omega
  · exact h
/-- Times as a row made there -/
theorem times_rg {D : Nat → Prop} {B c : Nat} (h : C.Ct D B c n ts w) (hs : ts.length ≤ 17592186043904) : Calls Try.prog 19 #[.pointer (some ⟨c, 0, none⟩)] w fun e w' => ∃ r : A.Rw, e = .returned (.slice r.ao r.len r.cap) ∧ A.Rg w.heap.size w'.heap.size r ts w' ∧ Below w.heap.size w w' := by
  refine (C.times_any h hs).mono ?_
  rintro e w' ⟨ro, rc, rfl, h1, h2⟩
  exact ⟨⟨ro, _, rc⟩, rfl, ⟨rfl, h1, fun j hj => by obtain ⟨_, _, cs, r, hh⟩ := A.row_kind h1 hj; exact lt_of_heap hh⟩, h2⟩
end K
end Go.Proofs.Ytpacooibmdbeaaa
