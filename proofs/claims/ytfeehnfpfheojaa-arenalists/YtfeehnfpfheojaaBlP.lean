import Derived.Test.YtfeehnfpfheojaaCpy
import Derived.Test.YtfeehnfpfheojaaSrB
import Derived.Test.YtfeehnfpfheojaaFndW
import Derived.Test.YtfeehnfpfheojaaTak
import Derived.Maps.RangeWalk
set_option linter.unusedVariables false
set_option linter.unusedSimpArgs false
namespace Go.Proofs.Ytfeehnfpfheojaa
open Go.RowKit Go.Sort
theorem Turn.ranges {S : Nat → Prop} {w w' : World} (t : Turn S w w') {P : Program} {k : TypeId} {R : Value → Option (DataW Unit × List MemPlace)} {b r n : Nat} {D : DataW Unit} {left : Lit → Bool} {cnt : Nat} (h : w.ranges P k R b r n D left cnt) (hb : ¬ S b) (hr : ¬ S r) : w'.ranges P k R b r n D left cnt := by
  have h1 := h.owns.lt
  have h2 := h.lt
  obtain ⟨es, clock, since, seen, c0, e1, F, hs, hD, e2, rest⟩ := h
  exact ⟨es, clock, since, seen, c0, (t.block b h1 hb).trans e1, F, hs, hD, (t.block r h2 hr).trans e2, rest⟩
namespace Ar
open Fr
/-- a piece that is out -/
def ob (p : Int × Int) : Bk := ⟨p.1, p.2, false⟩
theorem val_mem {O : List (Int × Int)} (nd : O.Pairwise (fun p q => p.1 ≠ q.1)) {p : Int × Int} (hp : p ∈ O) : Oo.val O p.1 = p.2 := by
  induction O with
  | nil => cases hp
  | cons a r ih =>
    obtain ⟨n1, n2⟩ := List.pairwise_cons.1 nd
    rcases List.mem_cons.1 hp with rfl | hp
    · simp [Oo.val]
    · have e : (a.1 == p.1) = false := by simpa using n1 p hp
      have : Oo.val (a :: r) p.1 = Oo.val r p.1 := by simp [Oo.val, e]
      rw [this]
      exact ih n2 hp
/-- a map gone over: what has come, what is still to come -/
structure Rg (O P R : List (Int × Int)) (left : Lit → Bool) : Prop where
  perm : (P ++ R).Perm O
  a : ∀ p ∈ R, left (Oo.lit p.1) = true
  b : ∀ k, Oo.okk k → left (Oo.lit k) = true → ∃ p ∈ R, p.1 = k
theorem Rg.start {O : List (Int × Int)} {D : DataW Unit} (hok : ∀ p ∈ O, Oo.okk p.1) (h3 : ∀ k, Oo.okk k → Maps.has D (Oo.lit k) = Oo.hasK O k) : Rg O [] O (Maps.has D) := by
  refine ⟨.refl _, fun p hp => ?_, fun k hk hl => ?_⟩
  · rw [h3 _ (hok p hp)]
    exact List.any_eq_true.2 ⟨p, hp, by simp⟩
  · rw [h3 k hk] at hl
    obtain ⟨p, hp, e⟩ := List.any_eq_true.1 hl
    exact ⟨p, hp, by simpa using e⟩
theorem Rg.step {O P R : List (Int × Int)} {left : Lit → Bool} (h : Rg O P R left) (nd : O.Pairwise (fun p q => p.1 ≠ q.1)) {x : Int} (hx : Oo.okk x) (hl : left (Oo.lit x) = true) : ∃ R', Rg O (P ++ [(x, Oo.val O x)]) R' (fun z => left z && !z.sameKey (Oo.lit x)) := by
  obtain ⟨p, hp, rfl⟩ := h.b x hx hl
  obtain ⟨R1, R2, rfl⟩ := List.append_of_mem hp
  have ndR : (R1 ++ p :: R2).Pairwise (fun p q => p.1 ≠ q.1) := by
    have := (h.perm.pairwise_iff (R := fun p q : Int × Int => p.1 ≠ q.1) (fun {_ _} q => Ne.symm q)).2 nd
    exact (List.pairwise_append.1 this).2.1
  have hpO : p ∈ O := h.perm.mem_iff.1 (List.mem_append_right _ (List.mem_append_right _ List.mem_cons_self))
  have hv := val_mem nd hpO
  have hpe : (p.1, Oo.val O p.1) = p := by rw [hv]
  have hne : ∀ q ∈ R1 ++ R2, q.1 ≠ p.1 := by
    intro q hq
    obtain ⟨d1, d2, d3⟩ := List.pairwise_append.1 ndR
    rcases List.mem_append.1 hq with r | r
    · exact d3 q r p List.mem_cons_self
    · exact fun e => (List.pairwise_cons.1 d2).1 q r e.symm
  refine ⟨R1 ++ R2, ?_, fun q hq => ?_, fun k hk hl2 => ?_⟩
  · rw [hpe]
    refine List.Perm.trans ?_ h.perm
    rw [List.append_assoc, List.singleton_append]
    exact (List.perm_middle.symm).append_left P
  · have h1 := h.a q (by
      rcases List.mem_append.1 hq with r | r
      · exact List.mem_append_left _ r
      · exact List.mem_append_right _ (List.mem_cons_of_mem _ r))
    have h2 : (Oo.lit q.1).sameKey (Oo.lit p.1) = false := Maps.sameKey_ne (fun e => hne q hq (Oo.inj e))
    simp [h1, h2]
  · simp only [Bool.and_eq_true, Bool.not_eq_true'] at hl2
    obtain ⟨q, hq, e⟩ := h.b k hk hl2.1
    have hkp : k ≠ p.1 := by
      rintro rfl
      rw [WideAt.sameKey_self (Oo.isKey hk)] at hl2
      cases hl2.2
    refine ⟨q, ?_, e⟩
    rcases List.mem_append.1 hq with r | r
    · exact List.mem_append_left _ r
    · rcases List.mem_cons.1 r with rfl | r
      · exact absurd e.symm hkp
      · exact List.mem_append_right _ r
theorem Rg.fin {O P R : List (Int × Int)} {left : Lit → Bool} (h : Rg O P R left) (hl : ∀ kl, left kl = false) : P.Perm O := by
  cases R with
  | nil => have := h.perm; rwa [List.append_nil] at this
  | cons p r => have := h.a p List.mem_cons_self; rw [hl] at this; cases this
/-- the state of Blocks' second loop -/
structure Bs (w : World) (h cnt : Nat) (N Q : List Bk) (so : Option Addr) (sc nb : Nat) (S : List Bk) (p : Bk) (ok : Bool) (FR : List Bk) (wx : World) : Prop where
  st : St N S p ok FR
  to : ∃ D0, Fr D0 w.heap.size h FR cnt wx
  row : RowB w.heap.size so sc (Q ++ S) wx
  box : Box nb p wx
  bel : Below w.heap.size w wx
  son : ∀ j, M.At so j → j ≠ nb
  lo : w.heap.size ≤ nb
variable {w wx : World} {h cnt : Nat} {N Q : List Bk} {so : Option Addr} {sc nb : Nat} {S : List Bk} {p : Bk} {ok : Bool} {FR : List Bk}
theorem row_fr {D0 : Nat → Prop} {B B' : Nat} {L F : List Bk} (r : RowB B so sc L wx) (f : Fr D0 B' h F cnt wx) {j : Nat} (hj : M.At so j) : ¬ D0 j := by
  obtain ⟨_, _, c, hc⟩ := r.lt hj
  exact f.not hc (by decide) (by decide)
theorem Bs.step {gg cap' : Nat} {w1 w3 : World} {D0 : Nat → Prop} (L : Bs w h cnt N Q so sc nb S p true FR wx) (r1 : RowB w.heap.size (some ⟨gg, 0, none⟩) cap' (Q ++ S ++ [p]) w1) (t1 : Turn (M.At so) wx w1) (hg : M.At so gg ∨ wx.heap.size ≤ gg)
    (f1 : Fr D0 w.heap.size h FR cnt w1) (T2 : FTo D0 w.heap.size h (lowR FR).2.2 cnt (w1.alloc (.cells (cz p) 110)) w3) : Bs w h cnt N Q (some ⟨gg, 0, none⟩) cap' w1.heap.size (S ++ [p]) (lowR FR).1 (lowR FR).2.1 (lowR FR).2.2 (set3 w3 w1.heap.size (lowR FR).1) := by
  have hbx := L.bel.size
  have b1 : Below w.heap.size w w1 := L.bel.trans (t1.below (fun j q => (L.row.lt q).1) hbx)
  have ba : Below w1.heap.size w1 (w1.alloc (.cells (cz p) 110)) := (Below.refl _ _).alloc (Nat.le_refl _) _
  have f2 := f1.below ba
  have r2 : RowB w.heap.size (some ⟨gg, 0, none⟩) cap' (Q ++ S ++ [p]) (w1.alloc (.cells (cz p) 110)) := r1.kept (turn_below (S := fun _ => False) ba) (fun _ _ q => q)
  have k2 : Box w1.heap.size p (w1.alloc (.cells (cz p) 110)) := heap_alloc_new _ _
  have k3 : Box w1.heap.size p w3 := T2.box (fun j q => (f2.lo q).2) f2 k2
  obtain ⟨D3, f3, t3, s3⟩ := T2
  have r3 : RowB w.heap.size (some ⟨gg, 0, none⟩) cap' (Q ++ S ++ [p]) w3 := r2.kept t3 (fun j hj => row_fr r2 f2 hj)
  have b3 : Below w.heap.size w w3 := (b1.trans (ba.mono b1.size)).trans (t3.below (fun j q => (f2.lo q).1) f2.base)
  have tB := set3_turn w1.heap.size (lowR FR).1 w3
  have hgw : gg < w1.heap.size := (r1.lt ⟨_, rfl, rfl⟩).2.1
  refine ⟨L.st.step, ⟨D3, f3.kept tB (fun j q e => by subst e; exact f3.box k3 q)⟩, ?_, set3_row _ k3, b3.trans (tB.below (fun j e => by rw [e]; exact b1.size) b3.size), fun j hj => ?_, b1.size⟩
  · rw [← List.append_assoc]
    exact r3.kept tB (fun j hj e => by
      obtain ⟨a, ha, rfl⟩ := hj
      cases ha
      have : gg = w1.heap.size := e
      omega)
  · obtain ⟨a, ha, rfl⟩ := hj
    cases ha
    show gg ≠ w1.heap.size
    omega
theorem low_less2 {w1 w2 : World} {D1 D2 : Nat → Prop} {B1 B2 : Nat} (hd : Dis FR) (ho : Oks FR) (H : Fr D1 B1 h FR cnt w1) (H1 : Fr D2 B2 h (lowR FR).2.2 cnt w2) : hlen h w2 + tb (.bool (lowR FR).2.1) < hlen h w1 + tb (.bool true) := by
  rw [hlen_of H, hlen_of H1]
  cases FR with
  | nil => show 0 + 0 < 0 + 1; omega
  | cons b r =>
    have := (grp_ok b r hd ho).2.2.2.1
    show (grp b r).2.length + 1 < (b :: r).length + 1
    simp
    omega
/-- what Blocks answers -/
def BlocksIs (F : List Bk) (O : List (Int × Int)) (w : World) (e : Ending) (w' : World) : Prop :=
  ∃ g rc L, e = .returned (.slice (some ⟨g, 0, none⟩) L.length rc) ∧ L.Perm (O.map ob ++ norm F) ∧ L.Pairwise (fun x y : Bk => x.addr ≤ y.addr) ∧ RowB w.heap.size (some ⟨g, 0, none⟩) rc L w' ∧ Below w.heap.size w w'
end Ar
end Go.Proofs.Ytfeehnfpfheojaa
