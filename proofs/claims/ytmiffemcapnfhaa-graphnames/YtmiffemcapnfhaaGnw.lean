import Derived.Test.YtmiffemcapnfhaaVld
set_option linter.unusedVariables false
set_option linter.unusedSimpArgs false
namespace Go.Proofs.Ytmiffemcapnfhaa
open Go.RowKit Go.Maps
namespace V
open U D
def allocs (w : World) : List Obj → World
  | [] => w
  | o :: r => allocs (w.alloc o) r
theorem alloc_size (w : World) (o : Obj) : (w.alloc o).heap.size = w.heap.size + 1 := by simp
theorem allocs_old : ∀ (os : List Obj) (w : World) (b : Nat), b < w.heap.size → (allocs w os).heap[b]? = w.heap[b]? := by
  intro os
  induction os with
  | nil => intro w b _; rfl
  | cons o r ih =>
    intro w b hb
    show (allocs (w.alloc o) r).heap[b]? = _
    rw [ih (w.alloc o) b (by rw [alloc_size]; omega)]
    exact Below.heap_alloc _ _ _ hb
theorem allocs_get : ∀ (os : List Obj) (w : World) (k : Nat) (o : Obj), os[k]? = some o → (allocs w os).heap[w.heap.size + k]? = some o := by
  intro os
  induction os with
  | nil => intro w k o h; simp at h
  | cons a r ih =>
    intro w k o h
    show (allocs (w.alloc a) r).heap[w.heap.size + k]? = _
    cases k with
    | zero =>
      simp at h
      subst h
      rw [Nat.add_zero, allocs_old r (w.alloc a) w.heap.size (by rw [alloc_size]; omega)]
      exact heap_alloc_new w _
    | succ k =>
      have := ih (w.alloc a) k o (by simpa using h)
      rw [alloc_size, Nat.add_assoc, Nat.add_comm 1 k] at this
      exact this
theorem allocs_below : ∀ (os : List Obj) (w : World), Below w.heap.size w (allocs w os) := by
  intro os
  induction os with
  | nil => intro w; exact Below.refl _ _
  | cons o r ih =>
    intro w
    have b := (Below.refl w.heap.size w).alloc (Nat.le_refl _) o
    exact b.trans ((ih (w.alloc o)).mono b.size)
/-- the graph of one bit, in blocks from n on -/
def G1 (n : Nat) : Gf := { a := (some ⟨n + 0, 0, none⟩, 1, [⟨#[111, 112, 101, 110]⟩]), s := (some ⟨n + 1, 0, none⟩, 1, [⟨#[97, 110, 110]⟩]), o := (some ⟨n + 2, 0, none⟩, 1, [⟨#[100, 111, 111, 114]⟩]), f := (some ⟨n + 3, 0, none⟩, 1, [1]), n := (some ⟨n + 4, 0, none⟩, 1, [1]), m := (some ⟨n + 6, 0, none⟩, 1, [⟨some ⟨n + 5, 0, none⟩, 1, [1]⟩]) }
def os1 (n : Nat) : List Obj := [.cells #[.string ⟨#[111, 112, 101, 110]⟩] 9, .cells #[.string ⟨#[97, 110, 110]⟩] 9, .cells #[.string ⟨#[100, 111, 111, 114]⟩] 9, .cells #[.int .i64 1] 3, .cells #[.int .i64 1] 3, .cells #[.int .u16 1] 24, .cells #[.slice (some ⟨n + 5, 0, none⟩) 1 1] 25]
theorem lies_one {α : Type} {cl : α → Value} {b t : Nat} {z : α} {w : World} (h : w.heap[b]? = some (.cells #[cl z] t (0, 0))) : Ok cl (some ⟨b, 0, none⟩, 1, [z]) w := by
  refine ⟨.inr ⟨b, 0, rfl, lt_of_heap h, fun i r k u hi hr => ?_⟩, Nat.le_refl _, by show ((1 : Nat) : Int) ≤ _; decide⟩
  cases i with
  | succ i => simp at hi
  | zero =>
    simp at hi
    subst hi
    cases r with
    | succ r => simp at hr
    | zero =>
      simp at hr
      subst hr
      rw [Lib.cell_of_heap h]; rfl
theorem G1_in (w : World) {V : World} (b : Below (w.heap.size + 7) (allocs w (os1 w.heap.size)) V) : (G1 w.heap.size).In V := by
  have g : ∀ k o, (os1 w.heap.size)[k]? = some o → k < 7 → V.heap[w.heap.size + k]? = some o := fun k o h hk => (b.block _ (by omega)).trans (allocs_get _ w k o h)
  refine ⟨lies_one (g 0 _ rfl (by decide)), lies_one (g 1 _ rfl (by decide)), lies_one (g 2 _ rfl (by decide)), lies_one (g 3 _ rfl (by decide)), lies_one (g 4 _ rfl (by decide)), lies_one (cl := Mr.cell) (z := ⟨some ⟨w.heap.size + 5, 0, none⟩, 1, [1]⟩) (g 6 _ rfl (by decide)), fun r hr => ?_, fun z hz => ?_, fun z hz => ?_⟩
  · simp [G1] at hr
    subst hr
    exact ⟨lies_one (cl := fun z : Nat => Value.int .u16 (z : Int)) (z := 1) (g 5 _ rfl (by decide)), fun z hz => by simp at hz; omega⟩
  · simp [G1] at hz; omega
  · simp [G1] at hz; omega
theorem G1_vld (n : Nat) : vld (G1 n) = true := by kernel_rfl
theorem G1_yes (n : Nat) : (G1 n).dec ⟨#[97, 110, 110]⟩ ⟨#[100, 111, 111, 114]⟩ ⟨#[111, 112, 101, 110]⟩ = true := by kernel_rfl
theorem G1_no (n : Nat) : (G1 n).dec ⟨#[97, 110, 110]⟩ ⟨#[100, 111, 111, 114]⟩ ⟨#[114, 101, 97, 100]⟩ = false := by kernel_rfl
def os2 (n : Nat) : List Obj := os1 n ++ [.cells #[.slice (some ⟨n, 0, none⟩) 1 1, .slice (some ⟨n + 1, 0, none⟩) 1 1, .slice (some ⟨n + 1 + 1, 0, none⟩) 1 1, .slice (some ⟨n + 1 + 1 + 1, 0, none⟩) 1 1, .slice (some ⟨n + 1 + 1 + 1 + 1, 0, none⟩) 1 1, .slice (some ⟨n + 1 + 1 + 1 + 1 + 1 + 1, 0, none⟩) 1 1] 28]
theorem g1_new (w : World) : ∃ G : Gf, Bg G (w.heap.size + 1 + 1 + 1 + 1 + 1 + 1 + 1) w ((((((((w.alloc (.cells #[.string ⟨#[111, 112, 101, 110]⟩] 9)).alloc (.cells #[.string ⟨#[97, 110, 110]⟩] 9)).alloc (.cells #[.string ⟨#[100, 111, 111, 114]⟩] 9)).alloc (.cells #[.int .i64 1] 3)).alloc (.cells #[.int .i64 1] 3)).alloc (.cells #[.int .u16 1] 24)).alloc (.cells #[.slice (some ⟨w.heap.size + 1 + 1 + 1 + 1 + 1, 0, none⟩) 1 1] 25)).alloc (.cells #[.slice (some ⟨w.heap.size, 0, none⟩) 1 1, .slice (some ⟨w.heap.size + 1, 0, none⟩) 1 1, .slice (some ⟨w.heap.size + 1 + 1, 0, none⟩) 1 1, .slice (some ⟨w.heap.size + 1 + 1 + 1, 0, none⟩) 1 1, .slice (some ⟨w.heap.size + 1 + 1 + 1 + 1, 0, none⟩) 1 1, .slice (some ⟨w.heap.size + 1 + 1 + 1 + 1 + 1 + 1, 0, none⟩) 1 1] 28)) ∧ G.In ((((((((w.alloc (.cells #[.string ⟨#[111, 112, 101, 110]⟩] 9)).alloc (.cells #[.string ⟨#[97, 110, 110]⟩] 9)).alloc (.cells #[.string ⟨#[100, 111, 111, 114]⟩] 9)).alloc (.cells #[.int .i64 1] 3)).alloc (.cells #[.int .i64 1] 3)).alloc (.cells #[.int .u16 1] 24)).alloc (.cells #[.slice (some ⟨w.heap.size + 1 + 1 + 1 + 1 + 1, 0, none⟩) 1 1] 25)).alloc (.cells #[.slice (some ⟨w.heap.size, 0, none⟩) 1 1, .slice (some ⟨w.heap.size + 1, 0, none⟩) 1 1, .slice (some ⟨w.heap.size + 1 + 1, 0, none⟩) 1 1, .slice (some ⟨w.heap.size + 1 + 1 + 1, 0, none⟩) 1 1, .slice (some ⟨w.heap.size + 1 + 1 + 1 + 1, 0, none⟩) 1 1, .slice (some ⟨w.heap.size + 1 + 1 + 1 + 1 + 1 + 1, 0, none⟩) 1 1] 28)) ∧ vld G = true ∧ G.dec ⟨#[97, 110, 110]⟩ ⟨#[100, 111, 111, 114]⟩ ⟨#[111, 112, 101, 110]⟩ = true ∧ G.dec ⟨#[97, 110, 110]⟩ ⟨#[100, 111, 111, 114]⟩ ⟨#[114, 101, 97, 100]⟩ = false ∧ (G.f.1 = none → G.f.2.1 = 0) ∧ (G.n.1 = none → G.n.2.1 = 0) ∧ (∀ z ∈ G.a.2.2, S.okk z) ∧ (∀ z ∈ G.s.2.2, S.okk z) ∧ (∀ z ∈ G.o.2.2, S.okk z) := by
  have hb := allocs_below (os2 w.heap.size) w
  have hg := allocs_get (os2 w.heap.size) w 7 _ rfl
  refine ⟨G1 w.heap.size, ⟨hb, hg⟩, G1_in w ((Below.refl _ _).alloc (by simp [allocs, os1]) _), G1_vld _, G1_yes _, G1_no _, fun h => (by cases h), fun h => (by cases h), fun z hz => ?_, fun z hz => ?_, fun z hz => ?_⟩
  all_goals
    simp [G1] at hz
    subst hz
    show _ ≤ _
    unfold maxLen
    decide
set_option maxHeartbeats 8000000 in
set_option maxRecDepth 100000 in
theorem graphNames_walk (w : World) : Calls Try.prog 3 #[] w fun e w' => e = .returned (.bool true) ∧ Below w.heap.size w w' := by
  obtain ⟨G, g1, g2, g3, g4, g5, g6⟩ := g1_new w
  have B0 := hide' (And.intro g1 g2)
  have F0 := hide' (And.intro g3 (And.intro g4 (And.intro g5 g6)))
  clear g1 g2 g3 g4 g5 g6
  go_enter Try.func3, Try.ntmps3
  go_wp2_with (with_reducible refine stay_load 28 _ rfl ?_)
  unfold Stay
  generalize ((((((((w.alloc (.cells #[.string ⟨#[111, 112, 101, 110]⟩] 9)).alloc (.cells #[.string ⟨#[97, 110, 110]⟩] 9)).alloc (.cells #[.string ⟨#[100, 111, 111, 114]⟩] 9)).alloc (.cells #[.int .i64 1] 3)).alloc (.cells #[.int .i64 1] 3)).alloc (.cells #[.int .u16 1] 24)).alloc (.cells #[.slice (some ⟨w.heap.size + 1 + 1 + 1 + 1 + 1, 0, none⟩) 1 1] 25)).alloc (.cells #[.slice (some ⟨w.heap.size, 0, none⟩) 1 1, .slice (some ⟨w.heap.size + 1, 0, none⟩) 1 1, .slice (some ⟨w.heap.size + 1 + 1, 0, none⟩) 1 1, .slice (some ⟨w.heap.size + 1 + 1 + 1, 0, none⟩) 1 1, .slice (some ⟨w.heap.size + 1 + 1 + 1 + 1, 0, none⟩) 1 1, .slice (some ⟨w.heap.size + 1 + 1 + 1 + 1 + 1 + 1, 0, none⟩) 1 1] 28)) = V at *
  generalize w.heap.size + 1 + 1 + 1 + 1 + 1 + 1 + 1 = q at *
  refine wpList_load_w (by rfl) 28 _ rfl q rfl 28 #[.slice G.a.1 G.a.2.2.length G.a.2.1, .slice G.s.1 G.s.2.2.length G.s.2.1, .slice G.o.1 G.o.2.2.length G.o.2.1, .slice G.f.1 G.f.2.2.length G.f.2.1, .slice G.n.1 G.n.2.2.length G.n.2.1, .slice G.m.1 G.m.2.2.length G.m.2.1] (0, 0) _ B0.out.1.h Try.underlying28 rfl (by kernel_rfl) ?_
  go_wp2_with fail
  refine (valid_any G V B0.out.2 F0.out.2.2.2.1 F0.out.2.2.2.2.1 F0.out.2.2.2.2.2.1 F0.out.2.2.2.2.2.2.1 F0.out.2.2.2.2.2.2.2).mono ?_
  rintro e V1 ⟨rfl, b1⟩
  rw [F0.out.1]
  have B1 := hide' (And.intro (B0.out.1.below b1) (B0.out.2.below b1))
  clear b1 B0
  go_wp2_with (with_reducible refine stay_load 28 _ rfl ?_)
  unfold Stay
  refine wpList_load_w (by rfl) 28 _ rfl q rfl 28 #[.slice G.a.1 G.a.2.2.length G.a.2.1, .slice G.s.1 G.s.2.2.length G.s.2.1, .slice G.o.1 G.o.2.2.length G.o.2.1, .slice G.f.1 G.f.2.2.length G.f.2.1, .slice G.n.1 G.n.2.2.length G.n.2.1, .slice G.m.1 G.m.2.2.length G.m.2.1] (0, 0) _ B1.out.1.h Try.underlying28 rfl (by kernel_rfl) ?_
  go_wp2_with fail
  refine (decide_any G ⟨#[97, 110, 110]⟩ ⟨#[100, 111, 111, 114]⟩ ⟨#[111, 112, 101, 110]⟩ V1 B1.out.2).mono ?_
  rintro e V2 ⟨rfl, b2⟩
  rw [F0.out.2.1]
  have B2 := hide' (And.intro (B1.out.1.below b2) (B1.out.2.below b2))
  clear b2 B1
  go_wp2_with (with_reducible refine stay_load 28 _ rfl ?_)
  unfold Stay
  refine wpList_load_w (by rfl) 28 _ rfl q rfl 28 #[.slice G.a.1 G.a.2.2.length G.a.2.1, .slice G.s.1 G.s.2.2.length G.s.2.1, .slice G.o.1 G.o.2.2.length G.o.2.1, .slice G.f.1 G.f.2.2.length G.f.2.1, .slice G.n.1 G.n.2.2.length G.n.2.1, .slice G.m.1 G.m.2.2.length G.m.2.1] (0, 0) _ B2.out.1.h Try.underlying28 rfl (by kernel_rfl) ?_
  go_wp2_with fail
  refine (decide_any G ⟨#[97, 110, 110]⟩ ⟨#[100, 111, 111, 114]⟩ ⟨#[114, 101, 97, 100]⟩ V2 B2.out.2).mono ?_
  rintro e V3 ⟨rfl, b3⟩
  rw [F0.out.2.2.1]
  have B3 := hide' (B2.out.1.below b3)
  clear b3 B2
  go_wp2_with fail
  go_ret
  exact ⟨rfl, B3.out.b⟩
end V
end Go.Proofs.Ytmiffemcapnfhaa
