import Derived.Test.YtfeehnfpfheojaaMore
import Derived.Test.YtfeehnfpfheojaaWrd
import Derived.Test.YtfeehnfpfheojaaSumP
import Derived.Test.YtfeehnfpfheojaaAtl
import Derived.Test.YtfeehnfpfheojaaHpM
import Derived.BigQuiet
import Derived.BigRegion
import Derived.LoopTactic
set_option linter.unusedVariables false
set_option linter.unusedSimpArgs false
namespace Go.Proofs.Ytfeehnfpfheojaa
open Go.RowKit
namespace Ra
open Fr
/-- to which piece a word belongs -/
def og (of : List Int) (i : Int) : Int := of.getD i.toNat 0
/-- THE DOCUMENT'S ARENA at block b -/
structure Da (B b : Nat) (s : Int) (ws of : List Int) (cnt : Nat) (wo oo : Option Addr) (wc oc : Nat) (w : World) : Prop where
  hb : w.heap[b]? = some (.cells #[.int .i64 s, .slice wo ws.length wc, .slice oo of.length oc, .int .i64 (cnt : Nat)] 85 (0, 0))
  rw_ : w.ownsRow B 3 1 (.slice wo ws.length wc) ws.length (M.ivs ws)
  ro : w.ownsRow B 3 1 (.slice oo of.length oc) of.length (M.ivs of)
  ne : ∀ j, M.At wo j → ¬ M.At oo j
  lo : B ≤ b
def Own (b : Nat) (wo oo : Option Addr) (j : Nat) : Prop := j = b ∨ M.At wo j ∨ M.At oo j
variable {B b : Nat} {s : Int} {ws of : List Int} {cnt : Nat} {wo oo : Option Addr} {wc oc : Nat} {w w' : World}
theorem row_kd {ro : Option Addr} {rc e k n : Nat} {xs : List Value} (h : w.ownsRow B e k (.slice ro n rc) n xs) {j : Nat} (hj : M.At ro j) : (∃ cs, w.heap[j]? = some (.cells cs e (0, 0))) ∧ B ≤ j ∧ j < w.heap.size := by
  obtain ⟨a, rfl, rfl⟩ := hj
  rcases h.2 with ⟨hv, _⟩ | ⟨g', cap', cur, hv, hb, hg', _⟩
  · cases hv
  · simp only [Value.slice.injEq, Option.some.injEq] at hv
    obtain ⟨rfl, _, _⟩ := hv
    exact ⟨⟨_, hg'⟩, hb, lt_of_heap hg'⟩
theorem Da.lt (h : Da B b s ws of cnt wo oo wc oc w) {j : Nat} (hj : Own b wo oo j) : B ≤ j ∧ j < w.heap.size := by
  rcases hj with rfl | hj | hj
  · exact ⟨h.lo, lt_of_heap h.hb⟩
  · exact (row_kd h.rw_ hj).2
  · exact (row_kd h.ro hj).2
theorem Da.nb (h : Da B b s ws of cnt wo oo wc oc w) : ¬ M.At wo b ∧ ¬ M.At oo b := by
  refine ⟨fun q => ?_, fun q => ?_⟩
  · obtain ⟨⟨cs, e⟩, _⟩ := row_kd h.rw_ q
    exact cells_ne e h.hb (by decide) rfl
  · obtain ⟨⟨cs, e⟩, _⟩ := row_kd h.ro q
    exact cells_ne e h.hb (by decide) rfl
theorem Da.kept {S : Nat → Prop} (h : Da B b s ws of cnt wo oo wc oc w) (t : Turn S w w') (hn : ∀ j, Own b wo oo j → ¬ S j) : Da B b s ws of cnt wo oo wc oc w' :=
  ⟨(t.block b (lt_of_heap h.hb) (hn b (.inl rfl))).trans h.hb, t.row h.rw_ (fun j q => hn j (.inr (.inl (M.own_at q)))), t.row h.ro (fun j q => hn j (.inr (.inr (M.own_at q)))), h.ne, h.lo⟩
theorem Da.below (h : Da B b s ws of cnt wo oo wc oc w) (t : Below w.heap.size w w') : Da B b s ws of cnt wo oo wc oc w' := h.kept (turn_below (S := fun _ => False) t) (fun _ _ q => q)
theorem Da.c0 (h : Da B b s ws of cnt wo oo wc oc w) : w.cell? ⟨b, 0, none⟩ = some (.int .i64 s) := by rw [Lib.cell_of_heap h.hb]; rfl
theorem Da.c1 (h : Da B b s ws of cnt wo oo wc oc w) : w.cell? ⟨b, 1, none⟩ = some (.slice wo ws.length wc) := by rw [Lib.cell_of_heap h.hb]; rfl
theorem Da.c2 (h : Da B b s ws of cnt wo oo wc oc w) : w.cell? ⟨b, 2, none⟩ = some (.slice oo of.length oc) := by rw [Lib.cell_of_heap h.hb]; rfl
theorem Da.c3 (h : Da B b s ws of cnt wo oo wc oc w) : w.cell? ⟨b, 3, none⟩ = some (.int .i64 (cnt : Nat)) := by rw [Lib.cell_of_heap h.hb]; rfl
theorem Da.f (h : Da B b s ws of cnt wo oo wc oc w) (j : Nat) : w.frozen? ⟨b, j, none⟩ = false := Lib.frozen_of_heap h.hb j
/-- a word of a row of numbers -/
theorem row_at {ro : Option Addr} {rc : Nat} {zs : List Int} (h : w.ownsRow B 3 1 (.slice ro zs.length rc) zs.length (M.ivs zs)) {i : Nat} (hi : i < zs.length) : ∃ g, ro = some ⟨g, 0, none⟩ ∧ w.cell? ⟨g, i, none⟩ = some (.int .i64 (og zs i)) ∧ w.frozen? ⟨g, i, none⟩ = false := by
  rcases h.2 with ⟨_, h0⟩ | ⟨g, cap', cur, hv, hb', hg', _⟩
  · omega
  · simp only [Value.slice.injEq] at hv
    obtain ⟨rfl, _, _⟩ := hv
    refine ⟨g, rfl, ?_, Lib.frozen_of_heap hg' i⟩
    rw [h.cellAt i (by omega)]
    simp [M.ivs, og, hi]
set_option maxRecDepth 100000 in
set_option maxHeartbeats 4000000 in
theorem begins_any {i : Nat} (h : Da B b s ws of cnt wo oo wc oc w) (h0 : 0 ≤ s) (h1 : s ≤ (i : Int)) (h2 : i < of.length) (h3 : of.length ≤ 65536) : Calls Try.prog 83 #[.pointer (some ⟨b, 0, none⟩), .int .i64 (i : Int)] w fun e w' => e = .returned (.bool (decide ((i : Int) = s) || !decide (og of i = og of ((i : Int) - 1)))) ∧ ∃ m, w' = w.drewN m := by
  have c0 := h.c0
  have c2 := h.c2
  by_cases q : (i : Int) = s
  · have HQ := hide' q
    obtain rfl := q
    clear h c2 h0 h1 h2 h3
    go_enter Try.func83, Try.ntmps83
    go_wp2_with fail
    go_quiet (fail)
    go_wp2
    go_ret
    exact ⟨by simp, _, rfl⟩
  · obtain ⟨k, rfl⟩ : ∃ k, i = k + 1 := ⟨i - 1, by omega⟩
    obtain ⟨g, e1, q1, _⟩ := row_at h.ro h2
    obtain ⟨g', e2, q2, _⟩ := row_at h.ro (show k < of.length by omega)
    rw [e1] at e2
    cases e2
    obtain rfl := e1
    have e3 : ((k + 1 : Nat) : Int) - 1 = (k : Int) := by omega
    rw [e3, decide_eq_false q, Bool.false_or]
    obtain ⟨x, hx⟩ : ∃ x, x = og of ((k + 1 : Nat) : Int) := ⟨_, rfl⟩
    obtain ⟨y, hy⟩ : ∃ x, x = og of (k : Int) := ⟨_, rfl⟩
    rw [← hx] at q1 ⊢
    rw [← hy] at q2 ⊢
    obtain ⟨n, hn⟩ : ∃ n, n = of.length := ⟨_, rfl⟩
    rw [← hn] at c2 h2
    obtain ⟨I, hI⟩ : ∃ I : Int, I = ((k + 1 : Nat) : Int) := ⟨_, rfl⟩
    have g1 : (I == s) = false := beq_false_of_ne (by omega)
    have g2 : decide (s < I) = true := decide_eq_true (by omega)
    have g3 : decide (I < (n : Int)) = true := decide_eq_true (by omega)
    have g4 : wrap64 (I - 1) = (k : Int) := by unfold wrap64; omega
    have g5 : I < (n : Int) := by omega
    have g6 : (k : Int) < (n : Int) := by omega
    have g7 : s < I := by omega
    have g8 : IntKind.wrap .i64 (I - 1) = (k : Int) := by rw [IntKind.wrap_i64]; omega
    have p1 : w.cell? ⟨g, I.toNat, none⟩ = some (.int .i64 x) := by rw [hI]; exact q1
    have g0 : 0 ≤ I := by omega
    rw [← hI]
    clear h hn hx hy e3 q h1 h2 h3 h0 hI q1
    go_enter Try.func83, Try.ntmps83
    go_wp2_with fail
    go_quiet (fail)
    go_wp2
    go_ret
    refine ⟨?_, _, rfl⟩
    by_cases z : x = y
    · simp [z]
    · simp [z]
end Ra
end Go.Proofs.Ytfeehnfpfheojaa
set_option linter.unusedVariables false
set_option linter.unusedSimpArgs false
namespace Go.Proofs.Ytfeehnfpfheojaa
open Go.RowKit
namespace Ra
open Fr
variable {B b : Nat} {s : Int} {ws of : List Int} {cnt : Nat} {wo oo : Option Addr} {wc oc : Nat} {w w' : World}
theorem msr2 {k n : Nat} (h : k < n) (i : Int) (e : i = (k : Int) + 1) : n - (intOf (.int .i64 i)).toNat < n - (intOf (.int .i64 (k : Int))).toNat := by
  rw [e]
  show n - ((k : Int) + 1).toNat < n - (k : Int).toNat
  omega
set_option maxRecDepth 100000 in
set_option maxHeartbeats 4000000 in
theorem size_any {i v : Nat} (h : Da B b s ws of cnt wo oo wc oc w) (hv : 0 < v) (h2 : i + v ≤ of.length) (h3 : of.length ≤ 65536) (hs : ∀ j : Nat, i ≤ j → j < i + v → og of j = og of i) (he : i + v < of.length → og of ((i + v : Nat) : Int) ≠ og of i) : Calls Try.prog 84 #[.pointer (some ⟨b, 0, none⟩), .int .i64 (i : Int)] w fun e w' => e = .returned (.int .i64 (v : Nat)) ∧ ∃ m, w' = w.drewN m := by
  have H := hide' h
  have HS := hide' hs
  have HE := hide' he
  have H2 := hide' h2
  have H3 := hide' h3
  have HV := hide' hv
  obtain ⟨g, e1, q1, _⟩ := row_at h.ro (show i < of.length by omega)
  have c2 := h.c2
  obtain rfl := e1
  obtain ⟨x, hx⟩ : ∃ x, x = og of (i : Int) := ⟨_, rfl⟩
  rw [← hx] at q1
  obtain ⟨n, hn⟩ : ∃ n, n = of.length := ⟨_, rfl⟩
  rw [← hn] at c2
  have HX := hide' (And.intro hx hn)
  have e9 : (i : Int) < (n : Int) := by omega
  have HN : Hid (∀ m, (w.drewN m).cell? ⟨b, 2, none⟩ = some (.slice (some ⟨g, 0, none⟩) n oc) ∧ (w.drewN m).cell? ⟨g, i, none⟩ = some (.int .i64 x)) := hide' (fun m => ⟨c2, q1⟩)
  have HR : Hid (∀ j, j < n → ∀ m, (w.drewN m).cell? ⟨g, j, none⟩ = some (.int .i64 (og of j))) := hide' (fun j hj m => by
    obtain ⟨g', e, z, _⟩ := row_at H.out.ro (show j < of.length by omega)
    cases e
    exact z)
  clear h hs he h2 h3 hv hx hn c2 q1
  go_enter Try.func84, Try.ntmps84
  go_wp2_with fail
  go_loopw [5] (fun y wx => ∃ k : Nat, y = .int .i64 (k : Int) ∧ (1 ≤ k ∧ k ≤ v) ∧ ∃ m, wx = w.drewN m) (fun y _ => v - (intOf y).toNat)
  case atStart => exact ⟨1, rfl, ⟨by omega, HV.out⟩, 0, rfl⟩
  case round =>
    obtain ⟨k, rfl, hk, m, rfl⟩ := hrel
    obtain ⟨c2, q1⟩ := HN.out m
    have hb := H2.out
    have hb3 := H3.out
    have hnn := HX.out.2
    obtain ⟨I, hI⟩ : ∃ I : Nat, I = i + k := ⟨_, rfl⟩
    have g1 : wrap64 ((i : Int) + (k : Int)) = (I : Int) := by unfold wrap64; omega
    have g1' : IntKind.wrap .i64 ((i : Int) + (k : Int)) = (I : Int) := by rw [IntKind.wrap_i64]; omega
    by_cases hlt : k < v
    · have e2 : wrap64 ((k : Int) + 1) = (k : Int) + 1 := by unfold wrap64; omega
      have Hend := hide' (msr2 hlt _ e2)
      have hIn : I < n := by omega
      have z := HR.out I hIn m
      rw [hI, HS.out (i + k) (by omega) (by omega), ← HX.out.1, ← hI] at z
      have g2 : decide ((I : Int) < (n : Int)) = true := decide_eq_true (by omega)
      have g3 : (I : Int) < (n : Int) := by omega
      have HK := hide' (And.intro hk hlt)
      clear hk hlt hb hb3 hnn hI hIn
      generalize hW : w.drewN m = W at *
      go_wp2_with fail
      go_quiet (fail)
      go_wp2
      have hk := HK.out
      exact ⟨⟨k + 1, by rw [e2]; rfl, ⟨by omega, by omega⟩, by rw [← hW]; exact ⟨_, World.drewN_drewN ..⟩⟩, Hend.out⟩
    · obtain rfl : k = v := by omega
      by_cases hend : I < n
      · have z := HR.out I hend m
        have zz := HE.out (by omega)
        rw [← hI, ← HX.out.1] at zz
        obtain ⟨y, hy⟩ : ∃ y, y = og of (I : Int) := ⟨_, rfl⟩
        rw [← hy] at z zz
        have g2 : decide ((I : Int) < (n : Int)) = true := decide_eq_true (by omega)
        have g3 : (I : Int) < (n : Int) := by omega
        have g4 : (y == x) = false := beq_false_of_ne zz
        clear hk hlt hb hb3 hnn hend hI hy
        generalize hW : w.drewN m = W at *
        go_wp2_with fail
        go_quiet (fail)
        go_wp2
        go_ret
        exact ⟨rfl, by rw [← hW]; exact ⟨_, World.drewN_drewN ..⟩⟩
      · have g2 : decide ((I : Int) < (n : Int)) = false := decide_eq_false (by omega)
        have g3 : ¬ (I : Int) < (n : Int) := by omega
        have g5 : decide (I < n) = false := decide_eq_false hend
        have g6 : ¬ I < n := hend
        clear hk hlt hb hb3 hnn hend hI
        generalize hW : w.drewN m = W at *
        go_wp2_with fail
        go_quiet (fail)
        go_wp2
        go_ret
        exact ⟨rfl, by rw [← hW]; exact ⟨_, World.drewN_drewN ..⟩⟩
end Ra
end Go.Proofs.Ytfeehnfpfheojaa
set_option linter.unusedVariables false
set_option linter.unusedSimpArgs false
namespace Go.Proofs.Ytfeehnfpfheojaa
open Go.RowKit Go.Sort
namespace Ra
open Fr Ar
/-- the pieces that the document sees from s up to m -/
def Seg (of : List Int) : Int → List Bk → Int → Prop
  | s, [], m => s = m
  | s, b :: r, m => b.addr = s ∧ 0 < b.size ∧ (∀ i, s ≤ i → i < s + b.size → og of i = og of s) ∧ b.free = decide (og of s = 0) ∧ (s + b.size < (of.length : Int) → og of (s + b.size) ≠ og of s) ∧ Seg of (s + b.size) r m
/-- the same, but free pieces may lie beside one another -/
def SegW (of : List Int) : Int → List Bk → Int → Prop
  | s, [], m => s = m
  | s, b :: r, m => b.addr = s ∧ 0 < b.size ∧ (∀ i, s ≤ i → i < s + b.size → og of i = og of s) ∧ b.free = decide (og of s = 0) ∧ (s + b.size < (of.length : Int) → og of s ≠ 0 → og of (s + b.size) ≠ og of s) ∧ SegW of (s + b.size) r m
variable {of of' : List Int} {L A C : List Bk} {s m e : Int}
theorem Seg.cov : ∀ {L : List Bk} {s : Int}, Seg of s L m → Cov s L m := by
  intro L
  induction L with
  | nil => intro s h; exact h
  | cons b r ih => intro s h; obtain ⟨h1, h2, _, _, _, h3⟩ := h; exact ⟨h1, h2, ih h3⟩
theorem SegW.cov : ∀ {L : List Bk} {s : Int}, SegW of s L m → Cov s L m := by
  intro L
  induction L with
  | nil => intro s h; exact h
  | cons b r ih => intro s h; obtain ⟨h1, h2, _, _, _, h3⟩ := h; exact ⟨h1, h2, ih h3⟩
theorem Seg.weak : ∀ {L : List Bk} {s : Int}, Seg of s L m → SegW of s L m := by
  intro L
  induction L with
  | nil => intro s h; exact h
  | cons b r ih => intro s h; obtain ⟨h1, h2, h3, h4, h5, h6⟩ := h; exact ⟨h1, h2, h3, h4, fun q _ => h5 q, ih h6⟩
theorem seg_app : ∀ {A : List Bk} {s : Int}, Seg of s (A ++ C) e ↔ ∃ m, Seg of s A m ∧ Seg of m C e := by
  intro A
  induction A with
  | nil => intro s; exact ⟨fun h => ⟨s, rfl, h⟩, fun ⟨m, h1, h2⟩ => by have h1' : s = m := h1; subst h1'; exact h2⟩
  | cons a A ih =>
    intro s
    constructor
    · rintro ⟨h1, h2, h3, h4, h5, h6⟩
      obtain ⟨m, h7, h8⟩ := ih.1 h6
      exact ⟨m, ⟨h1, h2, h3, h4, h5, h7⟩, h8⟩
    · rintro ⟨m, ⟨h1, h2, h3, h4, h5, h7⟩, h8⟩
      exact ⟨h1, h2, h3, h4, h5, ih.2 ⟨m, h7, h8⟩⟩
theorem segW_app : ∀ {A : List Bk} {s : Int}, SegW of s (A ++ C) e ↔ ∃ m, SegW of s A m ∧ SegW of m C e := by
  intro A
  induction A with
  | nil => intro s; exact ⟨fun h => ⟨s, rfl, h⟩, fun ⟨m, h1, h2⟩ => by have h1' : s = m := h1; subst h1'; exact h2⟩
  | cons a A ih =>
    intro s
    constructor
    · rintro ⟨h1, h2, h3, h4, h5, h6⟩
      obtain ⟨m, h7, h8⟩ := ih.1 h6
      exact ⟨m, ⟨h1, h2, h3, h4, h5, h7⟩, h8⟩
    · rintro ⟨m, ⟨h1, h2, h3, h4, h5, h7⟩, h8⟩
      exact ⟨h1, h2, h3, h4, h5, ih.2 ⟨m, h7, h8⟩⟩
/-- what lies to the right of a change -/
theorem Seg.right : ∀ {L : List Bk} {s : Int}, Seg of s L m → m = (of.length : Int) → of'.length = of.length → (∀ i, s ≤ i → i < m → og of' i = og of i) → Seg of' s L m := by
  intro L
  induction L with
  | nil => intro s h _ _ _; exact h
  | cons b r ih =>
    intro s h hm hl hc
    obtain ⟨h1, h2, h3, h4, h5, h6⟩ := h
    have hle := cov_le h6.cov
    have es := hc s (by omega) (by omega)
    refine ⟨h1, h2, fun i q1 q2 => ?_, by rw [es]; exact h4, fun q => ?_, ih h6 hm hl (fun i q1 q2 => hc i (by omega) q2)⟩
    · rw [hc i q1 (by omega), es]; exact h3 i q1 q2
    · rw [es, hc (s + b.size) (by omega) (by omega)]; exact h5 (by omega)
theorem SegW.right : ∀ {L : List Bk} {s : Int}, SegW of s L m → m = (of.length : Int) → of'.length = of.length → (∀ i, s ≤ i → i < m → og of' i = og of i) → SegW of' s L m := by
  intro L
  induction L with
  | nil => intro s h _ _ _; exact h
  | cons b r ih =>
    intro s h hm hl hc
    obtain ⟨h1, h2, h3, h4, h5, h6⟩ := h
    have hle := cov_le h6.cov
    have es := hc s (by omega) (by omega)
    refine ⟨h1, h2, fun i q1 q2 => ?_, by rw [es]; exact h4, fun q z => ?_, ih h6 hm hl (fun i q1 q2 => hc i (by omega) q2)⟩
    · rw [hc i q1 (by omega), es]; exact h3 i q1 q2
    · rw [es] at z ⊢; rw [hc (s + b.size) (by omega) (by omega)]; exact h5 (by omega) z
/-- what lies to the left of a change -/
theorem Seg.left : ∀ {L : List Bk} {s : Int}, Seg of s L m → of'.length = of.length → (∀ i, s ≤ i → i < m → og of' i = og of i) → (m < (of.length : Int) → ∀ i, s ≤ i → i < m → og of' m ≠ og of i) → Seg of' s L m := by
  intro L
  induction L with
  | nil => intro s h _ _ _; exact h
  | cons b r ih =>
    intro s h hl hc hb
    obtain ⟨h1, h2, h3, h4, h5, h6⟩ := h
    have hle := cov_le h6.cov
    have es := hc s (by omega) (by omega)
    refine ⟨h1, h2, fun i q1 q2 => ?_, by rw [es]; exact h4, fun q => ?_, ih h6 hl (fun i q1 q2 => hc i (by omega) q2) (fun z i q1 q2 => hb z i (by omega) q2)⟩
    · rw [hc i q1 (by omega), es]; exact h3 i q1 q2
    · rw [es]
      by_cases hm : s + b.size < m
      · rw [hc (s + b.size) (by omega) hm]; exact h5 (by omega)
      · have : s + b.size = m := by omega
        rw [this]
        exact hb (by omega) s (by omega) (by omega)
theorem SegW.left : ∀ {L : List Bk} {s : Int}, SegW of s L m → of'.length = of.length → (∀ i, s ≤ i → i < m → og of' i = og of i) → (m < (of.length : Int) → ∀ i, s ≤ i → i < m → og of i ≠ 0 → og of' m ≠ og of i) → SegW of' s L m := by
  intro L
  induction L with
  | nil => intro s h _ _ _; exact h
  | cons b r ih =>
    intro s h hl hc hb
    obtain ⟨h1, h2, h3, h4, h5, h6⟩ := h
    have hle := cov_le h6.cov
    have es := hc s (by omega) (by omega)
    refine ⟨h1, h2, fun i q1 q2 => ?_, by rw [es]; exact h4, fun q z => ?_, ih h6 hl (fun i q1 q2 => hc i (by omega) q2) (fun z i q1 q2 => hb z i (by omega) q2)⟩
    · rw [hc i q1 (by omega), es]; exact h3 i q1 q2
    · rw [es] at z ⊢
      by_cases hm : s + b.size < m
      · rw [hc (s + b.size) (by omega) hm]; exact h5 (by omega) z
      · have : s + b.size = m := by omega
        rw [this]
        exact hb (by omega) s (by omega) (by omega) z
/-- of each piece what is ahead of it and behind it -/
theorem Seg.mem : ∀ {L : List Bk} {s : Int}, Seg of s L m → ∀ b ∈ L, ∀ i, b.addr ≤ i → i < b.addr + b.size → og of i = og of b.addr := by
  intro L
  induction L with
  | nil => intro s _ b hb; cases hb
  | cons a r ih =>
    intro s h b hb
    obtain ⟨h1, h2, h3, h4, h5, h6⟩ := h
    rcases List.mem_cons.1 hb with rfl | hb
    · rw [h1]; exact h3
    · exact ih h6 b hb
/-- a Take -/
theorem Seg.take {L1 L2 : List Bk} {p : Bk} {n c : Int} (h : Seg of s (L1 ++ p :: L2) (of.length : Int)) (h0 : 0 ≤ s) (hn : 1 ≤ n) (hp : n ≤ p.size) (hf : p.free = true) (hl : of'.length = of.length) (hc : ∀ i, s ≤ i → i < (of.length : Int) → og of i < c) (hc0 : 0 < c)
    (hv : ∀ i, s ≤ i → i < (of.length : Int) → og of' i = if p.addr ≤ i ∧ i < p.addr + n then c else og of i) : Seg of' s (L1 ++ ⟨p.addr, n, false⟩ :: (rem p n ++ L2)) (of'.length : Int) := by
  obtain ⟨m, a, b⟩ := seg_app.1 h
  obtain ⟨h1, h2, h3, h4, h5, h6⟩ := b
  have hsm := cov_le a.cov
  have hme := cov_le h6.cov
  have hz : og of m = 0 := by rw [hf] at h4; exact of_decide_eq_true h4.symm
  refine seg_app.2 ⟨m, a.left hl (fun i q1 q2 => ?_) (fun z i q1 q2 => ?_), h1, by show 0 < n; omega, fun i q1 q2 => ?_, ?_, fun z => ?_, ?_⟩
  · rw [hv i q1 (by omega), if_neg (by omega)]
  · rw [hv m (by omega) z, if_pos (by omega)]
    have := hc i q1 (by omega)
    omega
  · have q2 : i < m + n := q2
    rw [hv i (by omega) (by omega), if_pos (by omega), hv m (by omega) (by omega), if_pos (by omega)]
  · rw [hv m (by omega) (by omega), if_pos (by omega)]
    exact (decide_eq_false (by omega)).symm
  · have z : m + n < (of'.length : Int) := z
    show og of' (m + n) ≠ og of' m
    rw [hv m (by omega) (by omega), if_pos (by omega), hv (m + n) (by omega) (by omega), if_neg (by omega)]
    have := hc (m + n) (by omega) (by omega)
    omega
  · show Seg of' (m + n) (rem p n ++ L2) _
    have hrest : ∀ i, m + n ≤ i → i < (of.length : Int) → og of' i = og of i := fun i q1 q2 => by rw [hv i (by omega) q2, if_neg (by omega)]
    rw [hl]
    unfold rem
    by_cases q : n < p.size
    · rw [if_pos q]
      refine ⟨by show p.addr + n = _; omega, by show 0 < p.size - n; omega, fun i q1 q2 => ?_, ?_, fun z => ?_, ?_⟩
      · have q2 : i < m + n + (p.size - n) := q2
        rw [hrest i q1 (by omega), hrest (m + n) (by omega) (by omega), h3 i (by omega) (by omega), h3 (m + n) (by omega) (by omega)]
      · rw [hrest (m + n) (by omega) (by omega), h3 (m + n) (by omega) (by omega), hz]; rfl
      · have z : m + n + (p.size - n) < (of'.length : Int) := z
        show og of' (m + n + (p.size - n)) ≠ _
        rw [hrest (m + n) (by omega) (by omega), h3 (m + n) (by omega) (by omega), show m + n + (p.size - n) = m + p.size by omega, hrest (m + p.size) (by omega) (by omega)]
        exact h5 (by omega)
      · show Seg of' (m + n + (p.size - n)) L2 _
        rw [show m + n + (p.size - n) = m + p.size by omega]
        exact h6.right rfl hl (fun i q1 q2 => hrest i (by omega) q2)
    · rw [if_neg q, List.nil_append, show m + n = m + p.size by omega]
      exact h6.right rfl hl (fun i q1 q2 => hrest i (by omega) q2)
/-- free pieces that lie beside one another are joined -/
theorem SegW.norm : ∀ {T : List Bk} {s : Int}, SegW of s T (of.length : Int) → Seg of s (normT T) (of.length : Int) := by
  intro T
  induction T with
  | nil => intro s h; exact h
  | cons b r ih =>
    intro s h
    obtain ⟨h1, h2, h3, h4, h5, h6⟩ := h
    have hN := ih h6
    show Seg of s (tj b (normT r)) _
    generalize normT r = N at hN
    cases N with
    | nil =>
      have hend : s + b.size = (of.length : Int) := hN
      exact ⟨h1, h2, h3, h4, fun q => by omega, hN⟩
    | cons c N' =>
      obtain ⟨g1, g2, g3, g4, g5, g6⟩ := hN
      by_cases q : b.free = true ∧ c.free = true
      · rw [tj_yes q]
        have z1 : og of s = 0 := by rw [q.1] at h4; exact of_decide_eq_true h4.symm
        have z2 : og of (s + b.size) = 0 := by rw [q.2] at g4; exact of_decide_eq_true g4.symm
        refine ⟨h1, by show 0 < b.size + c.size; omega, fun i q1 q2 => ?_, h4, fun y => ?_, ?_⟩
        · have q2 : i < s + (b.size + c.size) := q2
          by_cases hi : i < s + b.size
          · exact h3 i q1 hi
          · rw [g3 i (by omega) (by omega), z1, z2]
        · show og of (s + (b.size + c.size)) ≠ _
          have y : s + (b.size + c.size) < (of.length : Int) := y
          rw [show s + (b.size + c.size) = s + b.size + c.size by omega, z1, ← z2]
          exact g5 (by omega)
        · show Seg of (s + (b.size + c.size)) N' _
          rw [show s + (b.size + c.size) = s + b.size + c.size by omega]
          exact g6
      · rw [tj_no q]
        refine ⟨h1, h2, h3, h4, fun y => ?_, g1, g2, g3, g4, g5, g6⟩
        by_cases z : og of s = 0
        · have hb : b.free = true := by rw [h4, z]; rfl
          have hc : ¬ c.free = true := fun w => q ⟨hb, w⟩
          rw [g4] at hc
          intro w
          rw [w, z] at hc
          exact hc rfl
        · exact h5 y z
/-- a Give -/
theorem Seg.give {L1 L2 : List Bk} {a v : Int} (h : Seg of s (L1 ++ ⟨a, v, false⟩ :: L2) (of.length : Int)) (h0 : 0 ≤ s) (hl : of'.length = of.length)
    (hv : ∀ i, s ≤ i → i < (of.length : Int) → og of' i = if a ≤ i ∧ i < a + v then 0 else og of i) : Seg of' s (normT (L1 ++ ⟨a, v, true⟩ :: L2)) (of'.length : Int) := by
  refine SegW.norm ?_
  obtain ⟨m, b1, b2⟩ := segW_app.1 h.weak
  obtain ⟨h1, h2, h3, h4, h5, h6⟩ := b2
  simp only at h1 h2 h3 h4 h5 h6
  have hsm := cov_le b1.cov
  have hme := cov_le h6.cov
  have hrest : ∀ i, m + v ≤ i → i < (of.length : Int) → og of' i = og of i := fun i q1 q2 => by rw [hv i (by omega) q2, if_neg (by omega)]
  refine segW_app.2 ⟨m, b1.left hl (fun i q1 q2 => ?_) (fun z i q1 q2 y => ?_), h1, h2, fun i q1 q2 => ?_, ?_, fun z y => ?_, ?_⟩
  · rw [hv i q1 (by omega), if_neg (by omega)]
  · rw [hv m (by omega) z, if_pos (by omega)]
    exact fun w => y w.symm
  · have q2 : i < m + v := q2
    rw [hv i (by omega) (by omega), if_pos (by omega), hv m (by omega) (by omega), if_pos (by omega)]
  · rw [hv m (by omega) (by omega), if_pos (by omega)]; rfl
  · exact absurd (by rw [hv m (by omega) (by omega), if_pos (by omega)]) y
  · rw [hl]
    exact h6.right rfl hl (fun i q1 q2 => hrest i (by omega) q2)
/-- in the beginning -/
theorem Seg.start {n : Nat} (h0 : 0 ≤ s) (h1 : s < (n : Int)) (hl : of.length = n) (hz : ∀ i, og of i = 0) : Seg of s [⟨s, (n : Int) - s, true⟩] (of.length : Int) :=
  ⟨rfl, by show 0 < (n : Int) - s; omega, fun i _ _ => by rw [hz, hz], by rw [hz]; rfl, fun q => by rw [hl] at q; have q : s + ((n : Int) - s) < (n : Int) := q; omega, by show s + ((n : Int) - s) = _; omega⟩
end Ra
end Go.Proofs.Ytfeehnfpfheojaa
set_option linter.unusedVariables false
set_option linter.unusedSimpArgs false
namespace Go.Proofs.Ytfeehnfpfheojaa
open Go.RowKit Go.Sort
namespace Ra
open Fr Ar
variable {B b : Nat} {s : Int} {ws of : List Int} {cnt : Nat} {wo oo : Option Addr} {wc oc : Nat} {w w' : World}
theorem bel_drewN {B : Nat} {w w' : World} (h : Below B w w') (n : Nat) : Below B w (w'.drewN n) := h.trans ⟨rfl, rfl, rfl, Nat.le_refl _, fun _ _ => rfl⟩
/-- amid the looking for pieces: L1 is seen, the place is i -/
def At1 (of : List Int) (s : Int) (L L1 : List Bk) (i : Nat) : Prop := ∃ L2 m, L = L1 ++ L2 ∧ Seg of s L1 m ∧ Seg of m L2 (of.length : Int) ∧ s ≤ (i : Int) ∧ (i : Int) ≤ m ∧ ((i : Int) < m → ∃ x ∈ L1, x.addr + 1 ≤ (i : Int) ∧ x.addr + x.size = m ∧ s ≤ x.addr)
theorem At1.yes {L L1 : List Bk} {i : Nat} (h : At1 of s L L1 i) (hi : i < of.length) (h0 : 0 ≤ s) (hb : (decide ((i : Int) = s) || !decide (og of i = og of ((i : Int) - 1))) = true) : ∃ v : Nat, 0 < v ∧ i + v ≤ of.length ∧ (∀ j : Nat, i ≤ j → j < i + v → og of j = og of i) ∧ (i + v < of.length → og of ((i + v : Nat) : Int) ≠ og of i) ∧ At1 of s L (L1 ++ [⟨(i : Int), (v : Int), decide (og of i = 0)⟩]) (i + 1) := by
  obtain ⟨L2, m, e, h1, h2, h3, h4, h5⟩ := h
  have him : (i : Int) = m := by
    by_cases q : (i : Int) = m
    · exact q
    · exfalso
      obtain ⟨x, hx, x1, x2, x3⟩ := h5 (by omega)
      have y1 := h1.mem x hx (i : Int) (by omega) (by omega)
      have y2 := h1.mem x hx ((i : Int) - 1) (by omega) (by omega)
      have hs : ¬ (i : Int) = s := by omega
      rw [decide_eq_false hs, y1, y2] at hb
      simp at hb
  subst him
  cases L2 with
  | nil =>
    have h2' : (i : Int) = (of.length : Int) := h2
    omega
  | cons p r =>
    obtain ⟨p1, p2, p3, p4, p5, p6⟩ := h2
    have hle := cov_le p6.cov
    obtain ⟨v, hv⟩ : ∃ v : Nat, p.size = (v : Int) := ⟨p.size.toNat, by omega⟩
    have hp : p = ⟨(i : Int), (v : Int), decide (og of i = 0)⟩ := by
      obtain ⟨a, z, f⟩ := p
      simp only at p1 p4 hv
      rw [p1, p4, hv]
    refine ⟨v, by omega, by omega, fun j a c => p3 j (by omega) (by omega), fun q => ?_, r, (i : Int) + p.size, by rw [e, ← hp]; simp, ?_, p6, by omega, by omega, fun q => ⟨_, List.mem_append_right _ List.mem_cons_self, ?_⟩⟩
    · have := p5 (by omega)
      rw [hv] at this
      exact this
    · rw [← hp]
      exact seg_app.2 ⟨_, h1, p1, p2, p3, p4, p5, rfl⟩
    · rw [← hp, p1]
      exact ⟨by omega, rfl, h3⟩
theorem At1.no {L L1 : List Bk} {i : Nat} (h : At1 of s L L1 i) (hi : i < of.length) (hb : (decide ((i : Int) = s) || !decide (og of i = og of ((i : Int) - 1))) = false) : At1 of s L L1 (i + 1) := by
  obtain ⟨L2, m, e, h1, h2, h3, h4, h5⟩ := h
  simp only [Bool.or_eq_false_iff, decide_eq_false_iff_not, Bool.not_eq_false', decide_eq_true_eq] at hb
  by_cases q : (i : Int) < m
  · obtain ⟨x, hx, x1, x2, x3⟩ := h5 q
    exact ⟨L2, m, e, h1, h2, by omega, by omega, fun _ => ⟨x, hx, by omega, x2, x3⟩⟩
  · exfalso
    have him : (i : Int) = m := by omega
    subst him
    -- the piece ahead ends here: the next one begins
    have hs : s < (i : Int) := by omega
    -- the last piece of L1
    have hne : L1 ≠ [] := by
      intro z
      subst z
      have : s = (i : Int) := h1
      omega
    obtain ⟨A, x, rfl⟩ : ∃ A x, L1 = A ++ [x] := ⟨L1.dropLast, L1.getLast hne, (List.dropLast_concat_getLast hne).symm⟩
    obtain ⟨k, k1, k2⟩ := seg_app.1 h1
    obtain ⟨p1, p2, p3, p4, p5, p6⟩ := k2
    have p6 : k + x.size = (i : Int) := p6
    have y1 := p5 (by omega)
    have y2 := p3 ((i : Int) - 1) (by omega) (by omega)
    rw [p6] at y1
    exact y1 (hb.2.trans y2)
theorem At1.end_ {L L1 : List Bk} (h : At1 of s L L1 of.length) : L1 = L := by
  obtain ⟨L2, m, e, h1, h2, h3, h4, h5⟩ := h
  cases L2 with
  | nil => rw [e]; simp
  | cons p r =>
    obtain ⟨p1, p2, p3, p4, p5, p6⟩ := h2
    have := cov_le p6.cov
    omega
theorem Seg.few {L : List Bk} (h : Seg of s L (of.length : Int)) (h0 : 0 ≤ s) (hs : s < (of.length : Int)) (h3 : of.length ≤ 65536) : L.length ≤ 65536 ∧ 0 < L.length := by
  refine ⟨by have := cov_len h.cov; omega, ?_⟩
  cases L with
  | nil => have h' : s = (of.length : Int) := h; omega
  | cons a r => simp
set_option maxRecDepth 100000 in
set_option maxHeartbeats 4000000 in
/-- the document's Blocks -/
theorem rblocks_any {L : List Bk} (h : Da B b s ws of cnt wo oo wc oc w) (hs : Seg of s L (of.length : Int)) (h0 : 0 ≤ s) (h1 : s < (of.length : Int)) (h3 : of.length ≤ 65536) :
    Calls Try.prog 38 #[.pointer (some ⟨b, 0, none⟩)] w fun r w' => ∃ g rc, r = .returned (.slice (some ⟨g, 0, none⟩) L.length rc) ∧ RowB w.heap.size (some ⟨g, 0, none⟩) rc L w' ∧ Below w.heap.size w w' := by
  obtain ⟨i0, hi0, hz0, hz1, hz2⟩ := info_parts info110
  obtain ⟨lf, lp⟩ := hs.few h0 h1 h3
  have c0 := h.c0
  have H := hide' h
  have HL := hide' (And.intro lf lp)
  have HB := hide' (And.intro h0 (And.intro h1 h3))
  obtain ⟨n, hn⟩ : ∃ n, n = of.length := ⟨_, rfl⟩
  have HN := hide' hn
  obtain ⟨S, hS⟩ : ∃ S : Nat, s = (S : Int) := ⟨s.toNat, by omega⟩
  have HS := hide' hS
  have A0 : Hid (At1 of s L [] S) := hide' ⟨L, s, rfl, rfl, hs, by omega, by omega, fun q => by omega⟩
  rw [hS] at c0
  clear h hs h0 h1 h3 lf lp hn hS
  go_enter Try.func38, Try.ntmps38
  go_wp2_with fail
  go_loopw [3, 4] (fun l y wx => ∃ (i : Nat) (L1 : List Bk) (so : Option Addr) (sc : Nat) (V : World), V = wx ∧ y = .int .i64 (i : Int) ∧ l = .slice so L1.length sc ∧ i ≤ n ∧ At1 of s L L1 i ∧ RowB w.heap.size so sc L1 V ∧ Below w.heap.size w V) (fun _ y _ => n - (intOf y).toNat)
  case atStart => exact ⟨S, [], none, 0, _, rfl, rfl, rfl, by have := HB.out; have := HN.out; have := HS.out; omega, A0.out, RowB.nil _ _, Below.refl _ _⟩
  case round =>
    obtain ⟨i, L1, so, sc, W, rfl, rfl, rfl, hi, ha, hr, hb⟩ := hrel
    have hd := H.out.below hb
    have c2 := hd.c2
    rw [← HN.out] at c2
    by_cases hlt : i < n
    · have hltI : (i : Int) < (n : Int) := by omega
      have e2 : wrap64 ((i : Int) + 1) = (i : Int) + 1 := by have := HB.out.2.2; have := HN.out; unfold wrap64; omega
      have Hend := hide' (msr2 hlt _ e2)
      have HC := hide' (begins_any (i := i) hd HB.out.1 (by obtain ⟨_, _, _, _, _, q, _⟩ := ha; exact q) (by rw [← HN.out]; exact hlt) HB.out.2.2)
      cases hbg : (decide ((i : Int) = s) || !decide (og of i = og of ((i : Int) - 1))) with
      | false =>
        have K := hide' (ha.no (by rw [← HN.out]; exact hlt) hbg)
        have HR := hide' (And.intro hr (And.intro hb hlt))
        rw [hbg] at HC
        clear ha hr hb hd hlt hi hbg
        go_wp2_with fail
        refine HC.out.mono ?_
        rintro e w2 ⟨rfl, m, rfl⟩
        go_wp2
        exact ⟨⟨i + 1, L1, so, sc, _, rfl, by rw [e2]; rfl, rfl, HR.out.2.2, K.out, HR.out.1.kept ((Turn.refl (fun _ => False) _).drewN m) (fun _ _ q => q), bel_drewN HR.out.2.1 m⟩, Hend.out⟩
      | true =>
        obtain ⟨v, v1, v2, v3, v4, v5⟩ := ha.yes (by rw [← HN.out]; exact hlt) HB.out.1 hbg
        rw [hbg] at HC
        obtain ⟨f, hf⟩ : ∃ f, f = decide (og of (i : Int) = 0) := ⟨_, rfl⟩
        rw [← hf] at v5
        obtain ⟨x, hx⟩ : ∃ x, x = og of (i : Int) := ⟨_, rfl⟩
        obtain ⟨g, e1, q1, _⟩ := row_at hd.ro (show i < of.length by rw [← HN.out]; exact hlt)
        rw [← hx] at q1 hf
        rw [e1] at c2
        have hll : L1.length < 65537 := by
          obtain ⟨L2, _, e, _⟩ := ha
          have := HL.out.1
          rw [e] at this
          simp at this
          omega
        have HQ : Hid (∀ m, Calls Try.prog 84 #[.pointer (some ⟨b, 0, none⟩), .int .i64 (i : Int)] (W.drewN m).drew fun e V => e = .returned (.int .i64 (v : Nat)) ∧ V.cell? ⟨b, 2, none⟩ = some (.slice (some ⟨g, 0, none⟩) n oc) ∧ V.cell? ⟨g, i, none⟩ = some (.int .i64 x) ∧ Hid (RowB w.heap.size so sc L1 V ∧ Below w.heap.size w V)) := hide' (fun m => by
          have bm : Below W.heap.size W (W.drewN m).drew := (bel_drewN (Below.refl _ _) m).drew
          refine (size_any (hd.below bm) v1 v2 HB.out.2.2 v3 v4).mono ?_
          rintro e V ⟨rfl, m2, rfl⟩
          exact ⟨rfl, c2, q1, hide' ⟨hr.kept (turn_below (S := fun _ => False) (bel_drewN bm m2)) (fun _ _ q => q), hb.trans ((bel_drewN bm m2).mono hb.size)⟩⟩)
        have n1 : Hid (L1.length + 1 ≤ maxLen) := hide' (by unfold maxLen; omega)
        have n2 : Hid ((L1.length + 1) * 24 ≤ 140737488355328) := hide' (by omega)
        have HC2 : Hid (∀ m, (W.drewN m).cell? ⟨b, 2, none⟩ = some (.slice (some ⟨g, 0, none⟩) n oc) ∧ (W.drewN m).cell? ⟨g, i, none⟩ = some (.int .i64 x)) := hide' (fun m => ⟨c2, q1⟩)
        have K := hide' (And.intro v5 hlt)
        have HF := hide' hf
        clear ha hr hb hd hlt hi hbg v1 v2 v3 v4 v5 e1 hx hll q1 hf
        go_wp2_with fail
        refine HC.out.mono ?_
        rintro e w2 ⟨rfl, m, hm⟩
        clear c2
        obtain ⟨c2, q1⟩ := HC2.out m
        have HQ2 := hide' (HQ.out m)
        rw [← hm] at c2 q1 HQ2
        clear HC HQ HC2 hm
        have c2' : w2.drew.cell? ⟨b, 2, none⟩ = some (.slice (some ⟨g, 0, none⟩) n oc) := c2
        have q1' : w2.drew.cell? ⟨g, i, none⟩ = some (.int .i64 x) := q1
        go_wp2_with fail
        go_region_law ((first | (refine step_append_lies _ (by rfl) _ _ _ (by rfl) w.heap.size 110 i0 _ 3 24 Try.underlying88 hi0 hz0 hz1 hz2 rfl (by omega) (.slice so L1.length sc) L1.length (L1.flatMap tcb) (by rfl) (row.alloc _) ⟨V.heap.size, 0, none⟩ 1 1 [.int .i64 (i : Int), .int .i64 (v : Int), .bool (x == 0)] (by rfl) (by rfl) (World.news_of_block (cs := #[.int .i64 (i : Int), .int .i64 (v : Int), .bool (x == 0)]) (t := 110) (fr := (0, 0)) (heap_alloc_new V _)) (by simp [Value.oneCell']) (by omega) n1.out n2.out (by simp; omega) (V.heap.size + 1) (by simp) ?_; intro gg cap' w5 hown1 hgrow hat hlt) | (go_simp; refine HQ2.out.mono ?_; rintro e2 V ⟨rfl, y1, y2, HV⟩; have row : V.ownsRow w.heap.size 110 3 (.slice so L1.length sc) L1.length (L1.flatMap tcb) := HV.out.1; have y3 := HV.out.2.size; have y4 := World.new_ne V ⟨b, 2, none⟩ y1; have y5 := World.new_ne V ⟨g, i, none⟩ y2)))
        all_goals
          have K2 : Hid (RowB w.heap.size (some ⟨gg, 0, none⟩) cap' (L1 ++ [⟨(i : Int), (v : Int), f⟩]) w5 ∧ Below w.heap.size w w5) := hide' (by
            have t5 : Turn (M.At so) V w5 := ((Turn.refl _ V).alloc _).grown hgrow (fun k hk _ => M.own_at hk)
            refine ⟨?_, HV.out.2.trans (t5.below (fun j hj => (HV.out.1.lt hj).1) HV.out.2.size)⟩
            have e9 : (x == 0) = f := by rw [HF.out]; by_cases z : x = 0 <;> simp [z]
            rw [e9] at hown1
            unfold RowB
            rw [List.length_append, List.flatMap_append]
            simpa [tcb] using hown1)
          clear hown1 hgrow hat hlt row y1 y2 y3 y4 y5 HV HQ2 c2 q1 c2' q1'
          go_wp2
          exact ⟨⟨i + 1, _, _, _, _, rfl, by rw [e2]; rfl, by rw [List.length_append]; rfl, K.out.2, K.out.1, K2.out.1, K2.out.2⟩, Hend.out⟩
    · obtain rfl : i = n := by omega
      have K : Hid (L1 = L) := hide' (by rw [HN.out] at ha; exact ha.end_)
      have HR := hide' (And.intro hr hb)
      have hpos := HL.out.2
      clear ha hr hb hd hlt hi
      go_wp2
      go_ret
      obtain ⟨hr, hb⟩ := HR.out
      have e := K.out
      subst e
      obtain ⟨g, cap', hv, h2, h3⟩ := World.ownsRow.form hr (by omega)
      simp only [Value.slice.injEq] at hv
      obtain ⟨rfl, _, rfl⟩ := hv
      exact ⟨g, _, rfl, hr, hb⟩
end Ra
end Go.Proofs.Ytfeehnfpfheojaa
set_option linter.unusedVariables false
set_option linter.unusedSimpArgs false
namespace Go.Proofs.Ytfeehnfpfheojaa
open Go.RowKit Go.Sort
namespace Ra
open Fr Ar
variable {B b : Nat} {s : Int} {ws of : List Int} {cnt : Nat} {wo oo : Option Addr} {wc oc : Nat} {w w' : World}
/-- THE DOCUMENT'S ARENA, its pieces L, and the blocks that are its own -/
def Dl (D : Nat → Prop) (B b : Nat) (s : Int) (L : List Bk) (ws : List Int) (cnt : Nat) (w : World) : Prop :=
  ∃ of wo oo wc oc, Da B b s ws of cnt wo oo wc oc w ∧ Seg of s L (of.length : Int) ∧ 0 ≤ s ∧ s < (of.length : Int) ∧ of.length = ws.length ∧ ws.length ≤ 65536 ∧ (∀ i, og of i ≤ (cnt : Int)) ∧ ∀ j, D j ↔ Own b wo oo j
variable {D : Nat → Prop} {L : List Bk}
theorem Dl.lo (h : Dl D B b s L ws cnt w) {j : Nat} (hj : D j) : B ≤ j ∧ j < w.heap.size := by
  obtain ⟨of, wo, oo, wc, oc, h1, _, _, _, _, _, _, hd⟩ := h
  exact h1.lt ((hd j).1 hj)
theorem Dl.kept {S : Nat → Prop} (h : Dl D B b s L ws cnt w) (t : Turn S w w') (hn : ∀ j, D j → ¬ S j) : Dl D B b s L ws cnt w' := by
  obtain ⟨of, wo, oo, wc, oc, h1, h2, h3, h4, h5, h6, h7, hd⟩ := h
  exact ⟨of, wo, oo, wc, oc, h1.kept t (fun j q => hn j ((hd j).2 q)), h2, h3, h4, h5, h6, h7, hd⟩
theorem Dl.below (h : Dl D B b s L ws cnt w) (t : Below w.heap.size w w') : Dl D B b s L ws cnt w' := h.kept (turn_below (S := fun _ => False) t) (fun _ _ q => q)
theorem Dl.few (h : Dl D B b s L ws cnt w) : L.length ≤ 65536 ∧ 0 < L.length ∧ Cov s L (ws.length : Int) := by
  obtain ⟨of, wo, oo, wc, oc, h1, h2, h3, h4, h5, h6, h7, hd⟩ := h
  obtain ⟨a, c⟩ := h2.few h3 h4 (by omega)
  exact ⟨a, c, by rw [← h5]; exact h2.cov⟩
/-- its list of pieces -/
theorem dl_blocks (h : Dl D B b s L ws cnt w) : Calls Try.prog 38 #[.pointer (some ⟨b, 0, none⟩)] w fun r w' => ∃ g rc, r = .returned (.slice (some ⟨g, 0, none⟩) L.length rc) ∧ RowB w.heap.size (some ⟨g, 0, none⟩) rc L w' ∧ Below w.heap.size w w' := by
  obtain ⟨of, wo, oo, wc, oc, h1, h2, h3, h4, h5, h6, h7, hd⟩ := h
  exact rblocks_any h1 h2 h3 h4 (by omega)
/-- pieces in a slice, wherever it lies -/
def BkS (w : World) (a : Option Addr) (L : List Bk) : Prop := L = [] ∨ ∃ g off, a = some ⟨g, off, none⟩ ∧ g < w.heap.size ∧ ∀ j (hj : j < L.length), w.cell? ⟨g, off + j * 3, none⟩ = some (.int .i64 L[j].addr) ∧ w.cell? ⟨g, off + j * 3 + 1, none⟩ = some (.int .i64 L[j].size) ∧ w.cell? ⟨g, off + j * 3 + 2, none⟩ = some (.bool L[j].free)
theorem BkS.of_row {so : Option Addr} {sc : Nat} (h : RowB B so sc L w) : BkS w so L := by
  by_cases h0 : L = []
  · exact .inl h0
  · have hp : 0 < L.length := List.length_pos_iff.2 h0
    obtain ⟨g, e, _⟩ := h.item (List.getElem?_eq_getElem hp)
    refine .inr ⟨g, 0, e, (h.lt ⟨_, e, rfl⟩).2.1, fun j hj => ?_⟩
    obtain ⟨g', e', _, z1, z2, z3⟩ := h.item (List.getElem?_eq_getElem hj)
    rw [e] at e'
    cases e'
    rw [Nat.zero_add]
    exact ⟨z1, z2, z3⟩
set_option maxRecDepth 100000 in
set_option maxHeartbeats 4000000 in
/-- how many are out -/
theorem dl_live (h : Dl D B b s L ws cnt w) : Calls Try.prog 40 #[.pointer (some ⟨b, 0, none⟩)] w fun r w' => r = .returned (.int .i64 ((outs L).length : Nat)) ∧ Below w.heap.size w w' := by
  have hf := h.few
  have HB := hide' (dl_blocks h)
  have HL := hide' hf.1
  obtain ⟨N, hN⟩ : ∃ N, N = L.length := ⟨_, rfl⟩
  have HN := hide' hN
  rw [← hN] at HB
  have HT : Hid (∀ k, (outs (L.take (k + 1))).length ≤ k + 1) := hide' (fun k => by have := outs_le (L.take (k + 1)); have := List.length_take_le (k + 1) L; omega)
  clear h hf hN
  go_enter Try.func40, Try.ntmps40
  go_wp2_with fail
  refine HB.out.mono ?_
  rintro e w1 ⟨g, rc, rfl, h1, h2⟩
  have H1 := hide' (And.intro h1 h2)
  clear h1 h2 HB
  go_wp2_with fail
  go_loopw [4, 5] (fun c y wx => ∃ k : Nat, y = .int .i64 (k : Int) ∧ c = .int .i64 ((outs (L.take k)).length : Nat) ∧ k ≤ N ∧ ∃ V, V = wx ∧ V = w1) (fun _ y _ => N - (intOf y).toNat)
  case atStart => exact ⟨0, rfl, rfl, Nat.zero_le _, _, rfl, rfl⟩
  case round =>
    obtain ⟨k, rfl, rfl, hk, V, rfl, rfl⟩ := hrel
    by_cases hlt : k < N
    · have hltI : (k : Int) < (N : Int) := by omega
      have e2 : wrap64 ((k : Int) + 1) = (k : Int) + 1 := by have := HL.out; have := HN.out; unfold wrap64; omega
      have Hend := hide' (msr2 hlt _ e2)
      have hkL : k < L.length := by rw [← HN.out]; exact hlt
      obtain ⟨g', eg, z0, z1, z2, z3⟩ := H1.out.1.item (List.getElem?_eq_getElem hkL)
      cases eg
      have hout : (outs (L.take (k + 1))).length = (outs (L.take k)).length + (if L[k].free then 0 else 1) := by
        rw [List.take_succ_eq_append_getElem hkL, outs_app, List.length_append]
        congr 1
        cases hff : L[k].free <;> simp [outs, hff]
      have hle := HT.out k
      obtain ⟨f, hf⟩ : ∃ f, f = L[k].free := ⟨_, rfl⟩
      rw [← hf] at z3 hout
      obtain ⟨c, hc⟩ : ∃ c, c = (outs (L.take k)).length := ⟨_, rfl⟩
      rw [← hc] at hout ⊢
      have hcb : c ≤ 65536 := by
        have := outs_le (L.take k); have := List.length_take_le k L; have := HL.out; omega
      have e3 : wrap64 ((c : Int) + 1) = (c : Int) + 1 := by unfold wrap64; omega
      have K := hide' (And.intro hout hlt)
      clear hk hlt z0 z1 z2 hkL hout hle hf hc hcb
      cases f with
      | true =>
        go_wp2
        exact ⟨⟨k + 1, by rw [e2]; rfl, by rw [K.out.1]; rfl, K.out.2, _, rfl, rfl⟩, Hend.out⟩
      | false =>
        go_wp2
        exact ⟨⟨k + 1, by rw [e2]; rfl, by rw [K.out.1, e3]; rfl, K.out.2, _, rfl, rfl⟩, Hend.out⟩
    · obtain rfl : k = N := by omega
      have K : Hid (L.take k = L) := hide' (by rw [HN.out]; exact List.take_length)
      clear hk hlt
      go_wp2
      go_ret
      refine ⟨?_, H1.out.2⟩
      rw [K.out]
      rfl
end Ra
end Go.Proofs.Ytfeehnfpfheojaa
set_option linter.unusedVariables false
set_option linter.unusedSimpArgs false
namespace Go.Proofs.Ytfeehnfpfheojaa
open Go.RowKit Go.Sort
namespace Ar
open Fr
/-- an arena whose pieces are L and whose table is O -/
def AtO (D : Nat → Prop) (B ab x : Nat) (ws : List Int) (tr : List M.Ac) (bad : Nat) (s : Int) (L : List Bk) (O : List (Int × Int)) (cb : Nat) (w : World) : Prop :=
  ∃ F cnt, Arn D B ab x ws tr bad F O cnt w ∧ Til s (ws.length : Int) F O L ∧ 0 ≤ s ∧ s < (ws.length : Int) ∧ ws.length ≤ 65536 ∧ cnt ≤ cb
def OTo (D : Nat → Prop) (B ab x : Nat) (ws : List Int) (tr : List M.Ac) (bad : Nat) (s : Int) (L : List Bk) (O : List (Int × Int)) (cb : Nat) (w w' : World) : Prop := ∃ D', AtO D' B ab x ws tr bad s L O cb w' ∧ Turn D w w' ∧ ∀ j, D' j → D j ∨ w.heap.size ≤ j
variable {D : Nat → Prop} {B ab x : Nat} {ws : List Int} {tr : List M.Ac} {bad : Nat} {s : Int} {L : List Bk} {cb : Nat} {w w' : World} {F : List Bk} {O : List (Int × Int)} {e : Int}
theorem AtO.atl (h : AtO D B ab x ws tr bad s L O cb w) : Atl D B ab x ws tr bad s L cb w := by
  obtain ⟨F, cnt, h⟩ := h
  exact ⟨F, O, cnt, h⟩
theorem Atl.ato (h : Atl D B ab x ws tr bad s L cb w) (hL : outs L = []) : AtO D B ab x ws tr bad s L [] cb w := by
  obtain ⟨F, O, cnt, h1, T, h2⟩ := h
  have : O = [] := by
    have := T.ou
    rw [hL] at this
    exact List.Perm.eq_nil this.symm
  subst this
  exact ⟨F, cnt, h1, T, h2⟩
theorem AtO.kept {S : Nat → Prop} (H : AtO D B ab x ws tr bad s L O cb w) (t : Turn S w w') (hn : ∀ j, D j → ¬ S j) : AtO D B ab x ws tr bad s L O cb w' := by
  obtain ⟨F, cnt, h1, h2⟩ := H
  exact ⟨F, cnt, h1.kept t hn, h2⟩
theorem AtO.below (H : AtO D B ab x ws tr bad s L O cb w) (t : Below w.heap.size w w') : AtO D B ab x ws tr bad s L O cb w' := H.kept (turn_below (S := fun _ => False) t) (fun _ _ q => q)
theorem AtO.mono {cb' : Nat} (H : AtO D B ab x ws tr bad s L O cb w) (h : cb ≤ cb') : AtO D B ab x ws tr bad s L O cb' w := by
  obtain ⟨F, cnt, h1, h2, h3, h4, h5, h6⟩ := H
  exact ⟨F, cnt, h1, h2, h3, h4, h5, by omega⟩
theorem AtO.nd (H : AtO D B ab x ws tr bad s L O cb w) : O.Pairwise (fun p q => p.1 ≠ q.1) := by
  obtain ⟨F, cnt, h1, _⟩ := H
  obtain ⟨_, _, _, _, A, _⟩ := h1
  exact A.om.nd
theorem AtO.len (H : AtO D B ab x ws tr bad s L O cb w) : (outs L).length = O.length ∧ (O.length : Int) ≤ (ws.length : Int) := by
  have hp := H.atl.pure
  obtain ⟨F, cnt, h1, T, h2⟩ := H
  refine ⟨T.ou.length_eq, ?_⟩
  rw [← T.ou.length_eq]
  have := outs_le L
  have := cov_len T.cov
  omega
/-- the addresses that are out lie within -/
theorem AtO.key (H : AtO D B ab x ws tr bad s L O cb w) {a : Int} (h : Oo.hasK O a = true) : 0 ≤ a ∧ a ≤ 65536 := by
  have hn := H.nd
  obtain ⟨F, cnt, h1, T, h2, h3, h4, h5⟩ := H
  obtain ⟨z1, z2, z3, z4⟩ := T.siz_yes hn h
  omega
theorem take_o (n : Int) (H : AtO D B ab x ws tr bad s L O cb w) (hc : cb < 4611686018425000000) (hn2 : n ≤ 9223372036854775807) : Calls Try.prog 46 #[.pointer (some ⟨ab, 0, none⟩), .int .i64 n] w fun r w' => (∃ e : Int, (e == 0) = false ∧ r = .returned (.tuple #[.int .i64 0, .int .i64 e]) ∧ OTo D B ab x ws tr bad s L O (cb + 65537) w w') ∨ (∃ a ws' L', r = .returned (.tuple #[.int .i64 a, .int .i64 0]) ∧ OTo D B ab x ws' tr bad s L' ((a, n) :: O) (cb + 65537) w w' ∧ ws'.length = ws.length ∧ Oo.hasK O a = false) := by
  have hself := H
  have nd := H.nd
  obtain ⟨F, cnt, h1, T, h3, h4, h5, h6⟩ := H
  have hOl : O.length ≤ L.length := by rw [← T.ou.length_eq]; exact outs_le L
  have hLl := hself.atl.pure.2.2.1
  refine (take_any n h1 T.dis T.oks (by omega) T.keys (by omega) hn2).mono ?_
  rintro r w' (⟨q, hr, hw⟩ | ⟨q, hs, hr, hd, ho, c', hc', D', hA, t, hD⟩ | ⟨q, S, p, FR, hN, hd, ho, hsm, hnp, hr, c', hc', D', hA, t, hD⟩)
  · subst hw
    exact .inl ⟨1, by decide, hr, D, hself.mono (by omega), Turn.refl _ _, fun _ z => .inl z⟩
  · exact .inl ⟨150, by decide, hr, D', ⟨norm F, c', hA, ⟨T.cov, by rw [norm_norm]; exact T.fr, T.ou, hd, ho⟩, h3, h4, h5, by omega⟩, t, hD⟩
  · obtain ⟨L1, L2, hL, hf, hpf, T'⟩ := T.take q hN hd ho hnp
    have hm := cov_mem T.cov p (by rw [hL]; exact List.mem_append_right _ List.mem_cons_self)
    obtain ⟨g1, g2⟩ := pfill_at (ws := ws) (a := p.addr) (n := n) (c := 0) (by omega) (by omega) (by omega)
    have hnk : Oo.hasK O p.addr = false := T.keys p (by rw [hN]; exact List.mem_append_right _ List.mem_cons_self)
    exact .inr ⟨p.addr, M.pfill ws p.addr n 0, _, hr, ⟨D', ⟨_, c', hA, by rw [g1]; exact T', h3, by rw [g1]; exact h4, by rw [g1]; exact h5, by omega⟩, t, hD⟩, g1, hnk⟩
theorem give_o (a : Int) (H : AtO D B ab x ws tr bad s L O cb w) (hh : Oo.hasK O a = true) (hc : cb < 4611686018425000000) : Calls Try.prog 44 #[.pointer (some ⟨ab, 0, none⟩), .int .i64 a] w fun r w' => r = .returned (.int .i64 0) ∧ ∃ ws' L', OTo D B ab x ws' tr bad s L' (Oo.del O a) (cb + 65537) w w' ∧ ws'.length = ws.length := by
  have hk := H.key hh
  have nd := H.nd
  obtain ⟨F, cnt, h1, T, h3, h4, h5, h6⟩ := H
  obtain ⟨z1, z2, z3, z4⟩ := T.siz_yes nd hh
  obtain ⟨L1, L2, F', hL, hp, T'⟩ := T.give nd h3 (by omega) hh
  have hfl := few T.dis T.oks
  refine (give_yes a (Oo.okk_of (by omega) (by omega)) h1 hh hp (by omega) (by omega) (by omega)).mono ?_
  rintro r w' ⟨hr, D', hA, t, hD⟩
  obtain ⟨g1, g2⟩ := pfill_at (ws := ws) (a := a) (n := Oo.val O a) (c := M.P) (by omega) (by omega) (by omega)
  exact ⟨hr, M.pfill ws a (Oo.val O a) M.P, _, ⟨D', ⟨F', cnt + 1, hA, by rw [g1]; exact T', h3, by rw [g1]; exact h4, by rw [g1]; exact h5, by omega⟩, t, hD⟩, g1⟩
theorem give_again (a : Int) (hk : Oo.okk a) (H : AtO D B ab x ws tr bad s L O cb w) (hh : Oo.hasK O a = false) : Calls Try.prog 44 #[.pointer (some ⟨ab, 0, none⟩), .int .i64 a] w fun r w' => r = .returned (.int .i64 151) ∧ w' = w := by
  obtain ⟨F, cnt, h1, _⟩ := H
  exact give_no a hk h1 hh
/-- nothing is out: one piece -/
theorem one_left (H : AtO D B ab x ws tr bad s L [] cb w) : L = [⟨s, (ws.length : Int) - s, true⟩] := by
  obtain ⟨hcov, halt, _, hpos, _⟩ := H.atl.pure
  obtain ⟨F, cnt, h1, T, h2⟩ := H
  have hou : outs L = [] := List.Perm.eq_nil T.ou
  have hfree : ∀ b ∈ L, b.free = true := by
    intro b hb
    have hf : L.filter (fun b => !b.free) = [] := by
      unfold outs at hou
      exact List.map_eq_nil_iff.1 hou
    have := List.filter_eq_nil_iff.1 hf b hb
    simpa using this
  match L, hpos with
  | [b], _ =>
    obtain ⟨ba, bs, bf⟩ := b
    have hb := hfree ⟨ba, bs, bf⟩ List.mem_cons_self
    simp only at hb
    subst hb
    obtain ⟨e1, e2, e3⟩ := hcov
    have e1' : ba = s := e1
    have e3' : s + bs = (ws.length : Int) := e3
    subst e1'
    rw [show bs = (ws.length : Int) - ba by omega]
  | b :: c :: r, _ => exact absurd ⟨hfree b List.mem_cons_self, hfree c (List.mem_cons_of_mem _ List.mem_cons_self)⟩ (halt [] r b c rfl)
end Ar
namespace Bk
/-- what was got, and the table -/
def Got (got : List Int) (O : List (Int × Int)) : Prop := got.Perm (O.map (·.1))
theorem Got.has {got : List Int} {O : List (Int × Int)} (h : Got got O) {a : Int} (ha : a ∈ got) : Oo.hasK O a = true := by
  obtain ⟨p, hp, e⟩ := List.mem_map.1 (h.mem_iff.1 ha)
  exact List.any_eq_true.2 ⟨p, hp, by simpa using e⟩
theorem Got.more {got : List Int} {O : List (Int × Int)} (h : Got got O) (a n : Int) : Got (got ++ [a]) ((a, n) :: O) := by
  refine List.Perm.trans List.perm_append_comm ?_
  exact List.Perm.cons a h
theorem Got.len {got : List Int} {O : List (Int × Int)} (h : Got got O) : got.length = O.length := by simpa using h.length_eq
theorem map_del (O : List (Int × Int)) (a : Int) : (Oo.del O a).map (·.1) = (O.map (·.1)).filter (fun k => !(k == a)) := by
  unfold Oo.del
  rw [List.filter_map]
  rfl
theorem erase_filter : ∀ (gt : List Int) (k : Nat) (a : Int), gt.Nodup → gt[k]? = some a → gt.eraseIdx k = gt.filter (fun x => !(x == a)) := by
  intro gt
  induction gt with
  | nil => intro k a _ h; simp at h
  | cons b r ih =>
    intro k a nd h
    obtain ⟨n1, n2⟩ := List.nodup_cons.1 nd
    cases k with
    | zero =>
      have hb : b = a := by simpa using h
      subst hb
      rw [List.eraseIdx_cons_zero, List.filter_cons_of_neg (by simp)]
      exact (List.filter_eq_self.2 (fun x hx => by simp; exact fun e => n1 (e ▸ hx))).symm
    | succ k =>
      have hr : r[k]? = some a := by simpa using h
      have hne : b ≠ a := fun e => n1 (e ▸ List.mem_of_getElem? hr)
      rw [List.eraseIdx_cons_succ, List.filter_cons_of_pos (by simpa using hne), ih k a n2 hr]
theorem Got.less {got : List Int} {O : List (Int × Int)} (h : Got got O) (nd : O.Pairwise (fun p q => p.1 ≠ q.1)) {k : Nat} {a : Int} (hk : got[k]? = some a) : Got (got.eraseIdx k) (Oo.del O a) := by
  have hkl := (List.getElem?_eq_some_iff.1 hk).1
  have hka := (List.getElem?_eq_some_iff.1 hk).2
  have ndO : (O.map (·.1)).Nodup := by
    rw [List.nodup_iff_pairwise_ne] 
    exact List.pairwise_map.2 nd
  have ndg : got.Nodup := h.nodup_iff.2 ndO
  have e1 : got.eraseIdx k = got.filter (fun x => !(x == a)) := erase_filter got k a ndg hk
  unfold Got
  rw [e1, map_del]
  exact h.filter _
end Bk
end Go.Proofs.Ytfeehnfpfheojaa
set_option linter.unusedVariables false
set_option linter.unusedSimpArgs false
namespace Go.Proofs.Ytfeehnfpfheojaa
open Go.RowKit Go.Sort
namespace HI
open Hp
def ic (z : Int × Nat) : List Value := [.int .i64 z.1, .int .i64 (z.2 : Nat)]
theorem ic_len (z : Int × Nat) : (ic z).length = 2 := rfl
/-- BLOCK h IS A HEAP: its things with their turns lie in a row of their own -/
structure Hm (B h : Nat) (fv : Value) (ao : Option Addr) (cap : Nat) (zs : List (Int × Nat)) (cnt : Nat) (w : World) : Prop where
  hh : w.heap[h]? = some (.cells #[fv, .slice ao zs.length cap, .int .i64 (cnt : Nat)] 117 (0, 0))
  row : w.ownsRow B 155 2 (.slice ao zs.length cap) zs.length (zs.flatMap ic)
  lo : B ≤ h
variable {B h : Nat} {fv : Value} {ao : Option Addr} {cap : Nat} {zs : List (Int × Nat)} {cnt : Nat} {w w' : World}
theorem Hm.lt (H : Hm B h fv ao cap zs cnt w) : h < w.heap.size := lt_of_heap H.hh
theorem Hm.at (H : Hm B h fv ao cap zs cnt w) {j : Nat} (hj : M.At ao j) : j ≠ h ∧ B ≤ j ∧ j < w.heap.size := by
  obtain ⟨a, rfl, rfl⟩ := hj
  rcases H.row.2 with ⟨hv, _⟩ | ⟨g', cap', cur, hv, hb, hg', _⟩
  · cases hv
  · simp only [Value.slice.injEq, Option.some.injEq] at hv
    obtain ⟨rfl, _, _⟩ := hv
    exact ⟨cells_ne hg' H.hh (by decide), hb, lt_of_heap hg'⟩
theorem Hm.c0 (H : Hm B h fv ao cap zs cnt w) : w.cell? ⟨h, 0, none⟩ = some fv := by rw [Lib.cell_of_heap H.hh]; rfl
theorem Hm.c1 (H : Hm B h fv ao cap zs cnt w) : w.cell? ⟨h, 1, none⟩ = some (.slice ao zs.length cap) := by rw [Lib.cell_of_heap H.hh]; rfl
theorem Hm.c2 (H : Hm B h fv ao cap zs cnt w) : w.cell? ⟨h, 2, none⟩ = some (.int .i64 (cnt : Nat)) := by rw [Lib.cell_of_heap H.hh]; rfl
theorem Hm.fx (H : Hm B h fv ao cap zs cnt w) (j : Nat) : w.frozen? ⟨h, j, none⟩ = false := Lib.frozen_of_heap H.hh j
def Own (h : Nat) (ao : Option Addr) (j : Nat) : Prop := j = h ∨ M.At ao j
theorem Hm.own (H : Hm B h fv ao cap zs cnt w) {j : Nat} (hj : Own h ao j) : B ≤ j ∧ j < w.heap.size := by
  rcases hj with rfl | hj
  · exact ⟨H.lo, H.lt⟩
  · exact (H.at hj).2
theorem Hm.kept {S : Nat → Prop} (H : Hm B h fv ao cap zs cnt w) (t : Turn S w w') (hn : ∀ j, Own h ao j → ¬ S j) : Hm B h fv ao cap zs cnt w' :=
  ⟨(t.block h H.lt (hn h (.inl rfl))).trans H.hh, t.row H.row (fun j hj => hn j (.inr (M.own_at hj))), H.lo⟩
theorem Hm.some (H : Hm B h fv ao cap zs cnt w) (hl : 0 < zs.length) : ∃ g, ao = some ⟨g, 0, none⟩ ∧ zs.length ≤ cap ∧ g < w.heap.size ∧ g ≠ h := by
  obtain ⟨g, cap', hv, h2, h3⟩ := H.row.form hl
  simp only [Value.slice.injEq] at hv
  obtain ⟨rfl, _, rfl⟩ := hv
  have := H.at (j := g) ⟨_, rfl, rfl⟩
  refine ⟨g, rfl, ?_, this.2.2, this.1⟩
  rcases H.row.2 with ⟨hv, _⟩ | ⟨g', cap', cur, hv, hb, hg', hc, _⟩
  · cases hv
  · simp only [Value.slice.injEq] at hv
    obtain ⟨_, _, rfl⟩ := hv
    exact hc
/-- the cells of a thing -/
theorem Hm.item {g : Nat} (H : Hm B h fv (Option.some ⟨g, 0, none⟩) cap zs cnt w) {i : Nat} {z : Int × Nat} (hz : zs[i]? = Option.some z) : w.cell? ⟨g, i * 2, none⟩ = Option.some (.int .i64 z.1) ∧ w.cell? ⟨g, i * 2 + 1, none⟩ = Option.some (.int .i64 (z.2 : Nat)) := by
  have hi : i < zs.length := (List.getElem?_eq_some_iff.1 hz).1
  have e : ∀ r, r < 2 → w.cell? ⟨g, i * 2 + r, none⟩ = (ic z)[r]? := fun r hr => by
    rw [H.row.cellAt (i * 2 + r) (by omega)]
    exact flat_at ic_len zs i z r hz hr
  exact ⟨e 0 (by omega), e 1 (by omega)⟩
theorem Hm.fr {g : Nat} (H : Hm B h fv (Option.some ⟨g, 0, none⟩) cap zs cnt w) (j : Nat) : w.frozen? ⟨g, j, none⟩ = false := H.row.frozenAt j
/-- a thing written over -/
theorem Hm.put {g : Nat} (H : Hm B h fv (Option.some ⟨g, 0, none⟩) cap zs cnt w) (i : Nat) (z : Int × Nat) (hi : i < zs.length) : Hm B h fv (Option.some ⟨g, 0, none⟩) cap (zs.set i z) cnt (stc w g (i * 2) (ic z)) ∧ Turn (Own h (Option.some ⟨g, 0, none⟩)) w (stc w g (i * 2) (ic z)) := by
  obtain ⟨h1, t1⟩ := stc_row (ic z) _ (i * 2) w H.row
  have hne : h ≠ g := fun e => (H.at (j := g) ⟨_, rfl, rfl⟩).1 e.symm
  refine ⟨⟨?_, ?_, H.lo⟩, t1.mono (fun j _ e => .inr ⟨_, rfl, e⟩)⟩
  · rw [List.length_set]; exact (stc_heap (ic z) _ _ hne).trans H.hh
  · rw [List.length_set, ← flat_put ic_len zs i z hi]; exact h1
theorem swap_put {g : Nat} (H : Hm B h fv (Option.some ⟨g, 0, none⟩) cap zs cnt w) {i j : Nat} {x y : Int × Nat} (hi : zs[i]? = Option.some x) (hj : zs[j]? = Option.some y) : Hm B h fv (Option.some ⟨g, 0, none⟩) cap (swp zs i j) cnt (stc (stc w g (i * 2) (ic y)) g (j * 2) (ic x)) ∧ Turn (Own h (Option.some ⟨g, 0, none⟩)) w (stc (stc w g (i * 2) (ic y)) g (j * 2) (ic x)) := by
  have li : i < zs.length := (List.getElem?_eq_some_iff.1 hi).1
  have lj : j < zs.length := (List.getElem?_eq_some_iff.1 hj).1
  obtain ⟨h1, t1⟩ := H.put i y li
  obtain ⟨h2, t2⟩ := h1.put j x (by simpa using lj)
  rw [swp_some hi hj]
  exact ⟨h2, t1.trans t2⟩
set_option maxRecDepth 100000 in
set_option maxHeartbeats 4000000 in
theorem swap_any (i j : Nat) (x y : Int × Nat) (H : Hm B h fv ao cap zs cnt w) (hi : zs[i]? = Option.some x) (hj : zs[j]? = Option.some y) :
    Calls Try.prog 90 #[.pointer (Option.some ⟨h, 0, none⟩), .int .i64 (i : Nat), .int .i64 (j : Nat)] w fun e w' => e = .returned (.tuple #[]) ∧ Hm B h fv ao cap (swp zs i j) cnt w' ∧ Turn (Own h ao) w w' := by
  have li : i < zs.length := (List.getElem?_eq_some_iff.1 hi).1
  have lj : j < zs.length := (List.getElem?_eq_some_iff.1 hj).1
  obtain ⟨g, rfl, hc, hg, hgh⟩ := H.some (by omega)
  have K := hide' (swap_put H hi hj)
  have c1 := H.c1
  have c1d := fun n => show (w.drewN n).cell? ⟨h, 1, none⟩ = _ from c1
  obtain ⟨x0, x1⟩ := H.item hi
  obtain ⟨y0, y1⟩ := H.item hj
  have fr := H.fr
  by_cases hij : i = j
  · subst hij
    rw [hi] at hj
    cases hj
    clear H hi c1d y0 y1
    go_enter Try.func90, Try.ntmps90
    go_region
    go_end0
    exact ⟨rfl, K.out.1.kept (Turn.drew (Turn.refl (fun _ => False) _)) (fun _ _ q => q), K.out.2.drew⟩
  · clear H hi hj c1d
    go_enter Try.func90, Try.ntmps90
    go_region
    go_end0
    exact ⟨rfl, K.out.1.kept (Turn.drew (Turn.refl (fun _ => False) _)) (fun _ _ q => q), K.out.2.drew⟩
end HI
end Go.Proofs.Ytfeehnfpfheojaa
