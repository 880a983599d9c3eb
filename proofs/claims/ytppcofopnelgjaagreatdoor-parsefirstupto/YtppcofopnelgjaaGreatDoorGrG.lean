import Derived.Test.YtppcofopnelgjaaGreatDoorRNs
import Derived.Test.YtppcofopnelgjaaGreatDoorGrE
set_option linter.unusedVariables false
set_option linter.unusedSimpArgs false
namespace Go.Proofs.YtppcofopnelgjaaGreatDoor
open Go.RowKit
theorem R.begin_ok {I : R.Src} {i j : Nat} {d : R.Dc} (h : I.begin i = .ok d j) : d = ⟨d.kind, d.line, d.col, R.noWd, R.noWd, [], false, 0, 0⟩ ∧ j = i + 1 := by
  unfold R.Src.begin at h
  split at h
  · cases h; exact ⟨rfl, rfl⟩
  · cases h
namespace R
theorem one_lt {I : Src} {k : Int} {s : List UInt8} {i j : Nat} {u : Unit} (h : I.one k s i = .ok u j) : j = i + 1 := by
  unfold Src.one at h
  split at h
  · cases h; rfl
  · cases h
theorem more_le {I : Src} : ∀ (f : Nat) (acc : List Wd) (i j : Nat) (l : List Wd), I.more f acc i = .ok l j → i ≤ j := by
  intro f
  induction f with
  | zero => intro acc i j l h; cases h; exact Nat.le_refl _
  | succ f ih =>
    intro acc i j l h
    unfold Src.more at h
    split at h
    · cases hn : I.name (i + 1) with
      | bad j c => rw [hn] at h; cases h
      | ok x k =>
        rw [hn] at h
        simp only [Rd.bind] at h
        have := ih _ _ _ _ h
        have := name_ok hn
        omega
    · cases h; exact Nat.le_refl _
theorem names_lt {I : Src} {i j : Nat} {l : List Wd} (h : I.names i = .ok l j) : i < j := by
  unfold Src.names at h
  cases hn : I.name i with
  | bad j c => rw [hn] at h; cases h
  | ok x k =>
    rw [hn] at h
    simp only [Rd.bind] at h
    have := more_le _ _ _ _ _ h
    have := name_ok hn
    omega
theorem number_lt {I : Src} {i j : Nat} {x : Nat} (h : I.number i = .ok x j) : j = i + 1 := by
  unfold Src.number at h
  split at h
  · split at h
    · cases h; rfl
    · cases h
  · cases h
theorem bind_ok {α β : Type} {x : Rd α} {f : α → Nat → Rd β} {y : β} {j : Nat} (h : x.bind f = .ok y j) : ∃ a i, x = .ok a i ∧ f a i = .ok y j := by
  cases x with
  | ok a i => exact ⟨a, i, rfl, h⟩
  | bad i c => cases h
theorem trust_le {I : Src} {i j : Nat} {x : Nat} (h : I.trust i = .ok x j) : i ≤ j := by
  unfold Src.trust at h
  split at h
  · have := number_lt h; omega
  · cases h; exact Nat.le_refl _
theorem who_le {I : Src} {i j : Nat} {x : Wd × Wd} (h : I.who i = .ok x j) : i ≤ j := by
  unfold Src.who at h
  obtain ⟨a, i1, h1, h⟩ := bind_ok h
  obtain ⟨u, i2, h2, h⟩ := bind_ok h
  obtain ⟨c, i3, h3, h⟩ := bind_ok h
  obtain ⟨v, i4, h4, h⟩ := bind_ok h
  cases h
  have := name_ok h1; have := one_lt h2; have := name_ok h3; have := one_lt h4
  omega
theorem actions_le {I : Src} {i j : Nat} {x : List Wd × Bool} (h : I.actions i = .ok x j) : i ≤ j := by
  unfold Src.actions at h
  split at h
  · cases h; omega
  · obtain ⟨a, i1, h1, h⟩ := bind_ok h
    cases h
    have := names_lt h1; omega
theorem cond_le {I : Src} {i j : Nat} {x : Int × Nat} (h : I.cond i = .ok x j) : i ≤ j := by
  unfold Src.cond at h
  split at h
  · obtain ⟨a, i1, h1, h⟩ := bind_ok h
    cases h
    have := number_lt h1; omega
  · split at h
    · obtain ⟨a, i1, h1, h⟩ := bind_ok h
      cases h
      have := number_lt h1; omega
    · cases h; exact Nat.le_refl _
theorem rest_le {I : Src} {d d' : Dc} {i j : Nat} (h : I.rest d i = .ok d' j) : i ≤ j := by
  unfold Src.rest at h
  split at h
  · obtain ⟨a, i1, h1, h⟩ := bind_ok h
    obtain ⟨c, i2, h2, h⟩ := bind_ok h
    cases h
    have := names_lt h1; have := trust_le h2; omega
  · split at h
    · obtain ⟨a, i1, h1, h⟩ := bind_ok h
      obtain ⟨c, i2, h2, h⟩ := bind_ok h
      obtain ⟨e, i3, h3, h⟩ := bind_ok h
      cases h
      have := name_ok h1; have := one_lt h2; have := names_lt h3; omega
    · split at h
      · obtain ⟨a, i1, h1, h⟩ := bind_ok h
        obtain ⟨c, i2, h2, h⟩ := bind_ok h
        obtain ⟨e, i3, h3, h⟩ := bind_ok h
        cases h
        have := who_le h1; have := actions_le h2; have := cond_le h3; omega
      · split at h
        · obtain ⟨a, i1, h1, h⟩ := bind_ok h
          obtain ⟨c, i2, h2, h⟩ := bind_ok h
          cases h
          have := who_le h1; have := names_lt h2; omega
        · obtain ⟨a, i1, h1, h⟩ := bind_ok h
          cases h
          have := names_lt h1; omega
theorem decl_lt {I : Src} {i j : Nat} {d : Dc} (h : I.decl i = .ok d j) : i < j := by
  unfold Src.decl at h
  obtain ⟨a, i1, h1, h⟩ := bind_ok h
  obtain ⟨c, i2, h2, h⟩ := bind_ok h
  obtain ⟨u, i3, h3, h⟩ := bind_ok h
  cases h
  have := (begin_ok h1).2; have := rest_le h2; have := one_lt h3
  omega
end R
end Go.Proofs.YtppcofopnelgjaaGreatDoor
set_option linter.unusedVariables false
set_option linter.unusedSimpArgs false
namespace Go.Proofs.YtppcofopnelgjaaGreatDoor
open Go.RowKit
theorem info59 : (Tryz.prog.info? 59).map (fun i => (i.zero, i.size, i.bytes)) = some (some (.agg dz.toArray), 13, 128) := by kernel_rfl
/-- declarations as a row, each with its names in a row of their own -/
structure Dcs (B : Nat) (ps : List (R.Dc × Value)) (v : Value) (w : World) : Prop where
  row : w.ownsRow B 59 13 v ps.length (ps.flatMap fun p => dl p.1 p.2)
  names : ∀ p ∈ ps, w.ownsRow B 55 3 p.2 p.1.names.length (p.1.names.flatMap wcells)
  sep : ps.Pairwise fun p q => ∀ g, p.2.ownBlock = some g → q.2.ownBlock ≠ some g
theorem Dcs.nil (B : Nat) (w : World) : Dcs B [] (.slice none 0 0) w := ⟨⟨rfl, Or.inl ⟨rfl, rfl⟩⟩, fun p hp => (by cases hp), List.Pairwise.nil⟩
theorem Dcs.turn {B : Nat} {ps : List (R.Dc × Value)} {v : Value} {w w' : World} {S : Nat → Prop} (h : Dcs B ps v w) (t : Turn S w w') (hS : ∀ k, B ≤ k → ¬ S k) : Dcs B ps v w' :=
  ⟨t.row h.row (fun g hg => hS g (h.row.lt g hg).1), fun p hp => t.row (h.names p hp) (fun g hg => hS g ((h.names p hp).lt g hg).1), h.sep⟩
theorem dl_len (d : R.Dc) (sv : Value) : (dl d sv).length = 13 := rfl
/-- a names' row is no row of declarations -/
theorem rows_ne {w : World} {B B' : Nat} {v v' : Value} {n n' : Nat} {xs xs' : List Value} (h : w.ownsRow B 55 3 v n xs) (h' : w.ownsRow B' 59 13 v' n' xs') : ∀ g, v.ownBlock = some g → v'.ownBlock ≠ some g := by
  intro g hg hg'
  rcases h.2 with ⟨rfl, _⟩ | ⟨a, cp, cur, rfl, _, ha, _⟩
  · cases hg
  · rcases h'.2 with ⟨rfl, _⟩ | ⟨a', cp', cur', rfl, _, ha', _⟩
    · cases hg'
    · have e1 : a = g := by simpa [Value.ownBlock] using hg
      have e2 : a' = g := by simpa [Value.ownBlock] using hg'
      subst e1
      subst e2
      rw [ha] at ha'
      cases ha'
/-- one declaration more -/
theorem Dcs.app {B : Nat} {ps : List (R.Dc × Value)} {v : Value} {w w2 w3 : World} {d : R.Dc} {sv : Value} {o : Obj} {g cp : Nat} (h : Dcs B ps v w) (hB : B ≤ w.heap.size) (h2 : Dcs B ps v w2) (hsv : w2.ownsRow w.heap.size 55 3 sv d.names.length (d.names.flatMap wcells))
    (hrow : w3.ownsRow B 59 13 (.slice (some ⟨g, 0, none⟩) (ps.length + 1) cp) (ps.length + 1) ((ps.flatMap fun p => dl p.1 p.2) ++ dl d sv)) (hgr : (w2.alloc o).grownBy w3 v.ownBlock) : Dcs B (ps ++ [(d, sv)]) (.slice (some ⟨g, 0, none⟩) (ps.length + 1) cp) w3 := by
  have kept : ∀ {B' : Nat} {u : Value} {n : Nat} {xs : List Value}, w2.ownsRow B' 55 3 u n xs → w3.ownsRow B' 55 3 u n xs := fun {B' u n xs} hr => by
    refine (hr.alloc o).kept hgr ?_
    cases hu : u.ownBlock with
    | none => exact Or.inl rfl
    | some k => exact Or.inr (fun e => rows_ne hr h2.row k hu e.symm)
  refine ⟨by simpa using hrow, fun p hp => ?_, ?_⟩
  · rcases List.mem_append.1 hp with hp | hp
    · exact kept (h2.names p hp)
    · simp at hp; subst hp; exact row_mono (kept hsv) hB
  · rw [List.pairwise_append]
    refine ⟨h.sep, List.pairwise_singleton _ _, fun p hp q hq => ?_⟩
    simp at hq; subst hq
    intro g1 e1 e2
    have a1 := ((h.names p hp).lt g1 e1).2
    have a2 := (hsv.lt g1 e2).1
    omega
namespace R
theorem text_end {I : Src} {f : Nat} {acc : List Dc} {i : Nat} (h : ¬ i < I.l.length) : I.text f acc i = .ok acc i := by
  cases f with
  | zero => rfl
  | succ f => simp [Src.text, h]
theorem text_bad {I : Src} {f : Nat} {acc : List Dc} {i j : Nat} {c : Int} (h : i < I.l.length) (k : I.decl i = .bad j c) : I.text (f + 1) acc i = .bad j c := by
  simp [Src.text, h, k, Rd.bind]
theorem text_on {I : Src} {f : Nat} {acc : List Dc} {i j : Nat} {d : Dc} (h : i < I.l.length) (k : I.decl i = .ok d j) : I.text (f + 1) acc i = I.text f (acc ++ [d]) j := by
  simp [Src.text, h, k, Rd.bind]
end R
theorem news13 (w : World) (d : R.Dc) (sv : Value) : ∀ j u, (dl d sv)[j]? = some u → (w.alloc (.cells (dl d sv).toArray 59)).cell? ((⟨w.heap.size, 0, none⟩ : Addr).add j) = some u := by
  intro j u hj
  exact World.news_of_block (heap_alloc_new w (.cells (dl d sv).toArray 59)) j u (by simpa using hj)
end Go.Proofs.YtppcofopnelgjaaGreatDoor
