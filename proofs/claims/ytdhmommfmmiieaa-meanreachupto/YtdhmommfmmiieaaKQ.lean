import Derived.Test.YtdhmommfmmiieaaKL
set_option linter.unusedVariables false
set_option linter.unusedSimpArgs false
namespace Go.Proofs.Ytdhmommfmmiieaa
open Go.RowKit Go.Maps
namespace U
set_option maxRecDepth 100000 in
set_option maxHeartbeats 1000000 in
theorem tri_any (s o a : ByteArray) (w : World) : Calls Try.prog 34 #[.string s, .string o, .string a] w fun e w' => e = .returned (.agg #[.string s, .string o, .string a]) ∧ Below w.heap.size w w' := by
  go_enter Try.func34, Try.ntmps34
  go_wp2_with (with_reducible refine stay_store 36 _ _ rfl ?_)
  unfold Stay
  refine wpList_store_row rfl 36 _ _ rfl w.heap.size #[.string s, .string o, .string a] rfl rfl 36 _ (heap_alloc_new w _) (by kernel_rfl) rfl (by simp [Value.oneCell']) ?_
  rw [World.setRow_alloc_new]
  go_wp2_with fail
  exact bodyPost_ret (results_cell_row rfl _ _ w.heap.size 36 #[.string s, .string o, .string a] (0, 0) _ rfl (heap_alloc_new w _) Try.underlying36 rfl (by kernel_rfl)) rfl ⟨rfl, (Below.refl _ _).alloc (Nat.le_refl _) _⟩
/-- the policy that is asked of first -/
def FA (n : Nat) : Pf where
  a := (some ⟨n, 0, none⟩, 2, [⟨#[111, 112, 101, 110]⟩, ⟨#[114, 101, 97, 100]⟩])
  s := (some ⟨n + 1, 0, none⟩, 2, [(⟨#[97, 110, 110]⟩, 4607182418800017408), (⟨#[98, 111, 98]⟩, 4602678819172646912)])
  r := (some ⟨n + 2, 0, none⟩, 1, [⟨#[99, 108, 101, 114, 107]⟩])
  o := (some ⟨n + 3, 0, none⟩, 1, [⟨#[100, 111, 111, 114]⟩])
  g := (some ⟨n + 4, 0, none⟩, 1, [⟨#[100, 111, 111, 114, 115]⟩])
  m := (some ⟨n + 5, 0, none⟩, 2, [(⟨#[97, 110, 110]⟩, ⟨#[99, 108, 101, 114, 107]⟩), (⟨#[98, 111, 98]⟩, ⟨#[99, 108, 101, 114, 107]⟩)])
  i := (none, 0, [])
  p := (some ⟨n + 6, 0, none⟩, 1, [(⟨#[100, 111, 111, 114]⟩, ⟨#[100, 111, 111, 114, 115]⟩)])
  w := (none, 0, [])
  u := (some ⟨n + 8, 0, none⟩, 2, [⟨.bool false, ⟨#[99, 108, 101, 114, 107]⟩, ⟨#[100, 111, 111, 114, 115]⟩, none, 0, [], 0, 0⟩, ⟨.bool true, ⟨#[98, 111, 98]⟩, ⟨#[100, 111, 111, 114]⟩, some ⟨n + 7, 0, none⟩, 1, [⟨#[114, 101, 97, 100]⟩], 0, 0⟩])
  x := (none, 0, [])
theorem rel_FA (n : Nat) : rel (FA n) = [(⟨#[97, 110, 110]⟩, ⟨#[100, 111, 111, 114]⟩, ⟨#[111, 112, 101, 110]⟩), (⟨#[97, 110, 110]⟩, ⟨#[100, 111, 111, 114]⟩, ⟨#[114, 101, 97, 100]⟩), (⟨#[98, 111, 98]⟩, ⟨#[100, 111, 111, 114]⟩, ⟨#[111, 112, 101, 110]⟩)] := by kernel_rfl
structure BA (n : Nat) (V : World) : Prop where
  b0 : V.heap[n + 0]? = some (.cells #[.string ⟨#[111, 112, 101, 110]⟩, .string ⟨#[114, 101, 97, 100]⟩] 9 (0, 0))
  b1 : V.heap[n + 1]? = some (.cells #[.string ⟨#[97, 110, 110]⟩, .float .f64 4607182418800017408, .string ⟨#[98, 111, 98]⟩, .float .f64 4602678819172646912] 50 (0, 0))
  b2 : V.heap[n + 2]? = some (.cells #[.string ⟨#[99, 108, 101, 114, 107]⟩] 9 (0, 0))
  b3 : V.heap[n + 3]? = some (.cells #[.string ⟨#[100, 111, 111, 114]⟩] 9 (0, 0))
  b4 : V.heap[n + 4]? = some (.cells #[.string ⟨#[100, 111, 111, 114, 115]⟩] 9 (0, 0))
  b5 : V.heap[n + 5]? = some (.cells #[.string ⟨#[97, 110, 110]⟩, .string ⟨#[99, 108, 101, 114, 107]⟩, .string ⟨#[98, 111, 98]⟩, .string ⟨#[99, 108, 101, 114, 107]⟩] 98 (0, 0))
  b6 : V.heap[n + 6]? = some (.cells #[.string ⟨#[100, 111, 111, 114]⟩, .string ⟨#[100, 111, 111, 114, 115]⟩] 98 (0, 0))
  b7 : V.heap[n + 7]? = some (.cells #[.string ⟨#[114, 101, 97, 100]⟩] 9 (0, 0))
  b8 : V.heap[n + 8]? = some (.cells #[.bool false, .string ⟨#[99, 108, 101, 114, 107]⟩, .string ⟨#[100, 111, 111, 114, 115]⟩, .slice none 0 0, .int .i8 0, .float .f64 0, .bool true, .string ⟨#[98, 111, 98]⟩, .string ⟨#[100, 111, 111, 114]⟩, .slice (some ⟨n + 7, 0, none⟩) 1 1, .int .i8 0, .float .f64 0] 27 (0, 0))
theorem FA_in {n : Nat} {V : World} (h : BA n V) : (FA n).In V where
  a := ⟨.inr ⟨n + 0, 0, rfl, lt_of_heap h.b0, fun i k q => by
      match i, q with
      | 0, q => simp [FA] at q; subst q; rw [Lib.cell_of_heap h.b0]; rfl
      | 1, q => simp [FA] at q; subst q; rw [Lib.cell_of_heap h.b0]; rfl
      | j + 2, q => simp [FA] at q⟩, Nat.le_refl _, fun q => by cases q⟩
  s := ⟨.inr ⟨n + 1, 0, rfl, lt_of_heap h.b1, fun i k q => by
      match i, q with
      | 0, q => simp [FA] at q; subst q; exact ⟨by rw [Lib.cell_of_heap h.b1]; rfl, by rw [Lib.cell_of_heap h.b1]; rfl⟩
      | 1, q => simp [FA] at q; subst q; exact ⟨by rw [Lib.cell_of_heap h.b1]; rfl, by rw [Lib.cell_of_heap h.b1]; rfl⟩
      | j + 2, q => simp [FA] at q⟩, Nat.le_refl _, fun q => by cases q⟩
  r := ⟨.inr ⟨n + 2, 0, rfl, lt_of_heap h.b2, fun i k q => by
      match i, q with
      | 0, q => simp [FA] at q; subst q; rw [Lib.cell_of_heap h.b2]; rfl
      | j + 1, q => simp [FA] at q⟩, Nat.le_refl _, fun q => by cases q⟩
  o := ⟨.inr ⟨n + 3, 0, rfl, lt_of_heap h.b3, fun i k q => by
      match i, q with
      | 0, q => simp [FA] at q; subst q; rw [Lib.cell_of_heap h.b3]; rfl
      | j + 1, q => simp [FA] at q⟩, Nat.le_refl _, fun q => by cases q⟩
  g := ⟨.inr ⟨n + 4, 0, rfl, lt_of_heap h.b4, fun i k q => by
      match i, q with
      | 0, q => simp [FA] at q; subst q; rw [Lib.cell_of_heap h.b4]; rfl
      | j + 1, q => simp [FA] at q⟩, Nat.le_refl _, fun q => by cases q⟩
  m := ⟨.inr ⟨n + 5, 0, rfl, lt_of_heap h.b5, fun i k q => by
      match i, q with
      | 0, q => simp [FA] at q; subst q; exact ⟨by rw [Lib.cell_of_heap h.b5]; rfl, by rw [Lib.cell_of_heap h.b5]; rfl⟩
      | 1, q => simp [FA] at q; subst q; exact ⟨by rw [Lib.cell_of_heap h.b5]; rfl, by rw [Lib.cell_of_heap h.b5]; rfl⟩
      | j + 2, q => simp [FA] at q⟩, Nat.le_refl _, fun q => by cases q⟩
  p := ⟨.inr ⟨n + 6, 0, rfl, lt_of_heap h.b6, fun i k q => by
      match i, q with
      | 0, q => simp [FA] at q; subst q; exact ⟨by rw [Lib.cell_of_heap h.b6]; rfl, by rw [Lib.cell_of_heap h.b6]; rfl⟩
      | j + 1, q => simp [FA] at q⟩, Nat.le_refl _, fun q => by cases q⟩
  i := ⟨.inl rfl, Nat.le_refl _, fun _ => rfl⟩
  w := ⟨.inl rfl, Nat.le_refl _, fun _ => rfl⟩
  x := ⟨.inl rfl, Nat.le_refl _, fun _ => rfl⟩
  u := by
    refine ⟨⟨.inr ⟨n + 8, 0, rfl, lt_of_heap h.b8, fun i r k u q s => ?_⟩, fun R hR => ?_⟩, Nat.le_refl _, fun q => by cases q⟩
    · match i, q with
      | 0, q =>
        simp [FA, Ru.cells] at q; subst q
        rw [Lib.cell_of_heap h.b8]
        match r, s with
        | 0, s => exact s
        | 1, s => exact s
        | 2, s => exact s
        | 3, s => exact s
        | 4, s => exact s
        | 5, s => exact s
        | r + 6, s => simp at s
      | 1, q =>
        simp [FA, Ru.cells] at q; subst q
        rw [Lib.cell_of_heap h.b8]
        match r, s with
        | 0, s => exact s
        | 1, s => exact s
        | 2, s => exact s
        | 3, s => exact s
        | 4, s => exact s
        | 5, s => exact s
        | r + 6, s => simp at s
      | j + 2, q => simp [FA] at q
    · rcases List.mem_cons.1 hR with rfl | hR
      · exact ⟨⟨.inl rfl, Nat.le_refl _, fun _ => rfl⟩, ⟨_, rfl⟩, by show 0 ≤ _; decide⟩
      · rw [List.mem_singleton] at hR
        subst hR
        exact ⟨⟨.inr ⟨n + 7, 0, rfl, lt_of_heap h.b7, fun i k q => by
          match i, q with
          | 0, q => simp at q; subst q; rw [Lib.cell_of_heap h.b7]; rfl
          | j + 1, q => simp at q⟩, Nat.le_refl _, fun q => by cases q⟩, ⟨_, rfl⟩, by show 1 ≤ _; decide⟩
theorem FA_fine (n : Nat) : Fine (FA n) 100 where
  n := by decide
  a := by show 2 ≤ 100; decide
  s := by show 2 ≤ 100; decide
  r := by show 1 ≤ 100; decide
  o := by show 1 ≤ 100; decide
  g := by show 1 ≤ 100; decide
  mi := by show 2 ≤ 100; decide
  pw := by show 1 ≤ 100; decide
  u := by show 2 ≤ 100; decide
  x := by show 0 ≤ 100; decide
  za := fun a ha => by
    have h : a ∈ [(⟨#[111, 112, 101, 110]⟩ : ByteArray), ⟨#[114, 101, 97, 100]⟩] := ha
    simp only [List.mem_cons, List.mem_nil_iff, or_false] at h
    rcases h with rfl | rfl <;> decide
  zs := fun s hs => by
    have h : s ∈ [((⟨#[97, 110, 110]⟩ : ByteArray), 4607182418800017408), ((⟨#[98, 111, 98]⟩ : ByteArray), 4602678819172646912)] := hs
    simp only [List.mem_cons, List.mem_nil_iff, or_false] at h
    rcases h with rfl | rfl <;> decide
  zo := fun s hs => by
    have h : s ∈ [(⟨#[100, 111, 111, 114]⟩ : ByteArray)] := hs
    simp only [List.mem_cons, List.mem_nil_iff, or_false] at h
    subst h; decide
  zm := fun q hq => by
    have h : q ∈ [((⟨#[97, 110, 110]⟩ : ByteArray), (⟨#[99, 108, 101, 114, 107]⟩ : ByteArray)), ((⟨#[98, 111, 98]⟩ : ByteArray), (⟨#[99, 108, 101, 114, 107]⟩ : ByteArray))] := hq
    simp only [List.mem_cons, List.mem_nil_iff, or_false] at h
    rcases h with rfl | rfl <;> decide
  zp := fun q hq => by
    have h : q ∈ [((⟨#[100, 111, 111, 114]⟩ : ByteArray), ⟨#[100, 111, 111, 114, 115]⟩)] := hq
    simp only [List.mem_cons, List.mem_nil_iff, or_false] at h
    subst h; decide
  zu := fun R hR => by
    rcases List.mem_cons.1 hR with rfl | hR
    · exact ⟨by decide, by decide, fun a ha => by cases ha⟩
    · rw [List.mem_singleton] at hR
      subst hR
      exact ⟨by show 3 ≤ 100; decide, by show 4 ≤ 100; decide, fun a ha => by rw [List.mem_singleton] at ha; subst ha; decide⟩
  zx := fun t ht => by cases ht
def allocs (w : World) : List Obj → World
  | [] => w
  | o :: r => allocs (w.alloc o) r
theorem alloc_size (w : World) (o : Obj) : (w.alloc o).heap.size = w.heap.size + 1 := by simp
theorem allocs_old : ∀ (os : List Obj) (w : World) (b : Nat), b < w.heap.size → (allocs w os).heap[b]? = w.heap[b]? := by
  intro os
  induction os with
  | nil => intro w b _; rfl
  | cons o r ih =>
    intro w b hb
    show (allocs (w.alloc o) r).heap[b]? = _
    rw [ih (w.alloc o) b (by rw [alloc_size]; omega)]
    exact Below.heap_alloc _ _ _ hb
theorem allocs_get : ∀ (os : List Obj) (w : World) (k : Nat) (o : Obj), os[k]? = some o → (allocs w os).heap[w.heap.size + k]? = some o := by
  intro os
  induction os with
  | nil => intro w k o h; simp at h
  | cons a r ih =>
    intro w k o h
    show (allocs (w.alloc a) r).heap[w.heap.size + k]? = _
    cases k with
    | zero =>
      simp at h
      subst h
      rw [Nat.add_zero, allocs_old r (w.alloc a) w.heap.size (by rw [alloc_size]; omega)]
      exact heap_alloc_new w _
    | succ k =>
      have := ih (w.alloc a) k o (by simpa using h)
      rw [alloc_size, Nat.add_assoc, Nat.add_comm 1 k] at this
      exact this
theorem allocs_below : ∀ (os : List Obj) (w : World), Below w.heap.size w (allocs w os) := by
  intro os
  induction os with
  | nil => intro w; exact Below.refl _ _
  | cons o r ih =>
    intro w
    have b := (Below.refl w.heap.size w).alloc (Nat.le_refl _) o
    exact b.trans ((ih (w.alloc o)).mono b.size)
def osA (n : Nat) : List Obj := [.cells #[.string ⟨#[111, 112, 101, 110]⟩, .string ⟨#[114, 101, 97, 100]⟩] 9, .cells #[.string ⟨#[97, 110, 110]⟩, .float .f64 4607182418800017408, .string ⟨#[98, 111, 98]⟩, .float .f64 4602678819172646912] 50, .cells #[.string ⟨#[99, 108, 101, 114, 107]⟩] 9, .cells #[.string ⟨#[100, 111, 111, 114]⟩] 9, .cells #[.string ⟨#[100, 111, 111, 114, 115]⟩] 9, .cells #[.string ⟨#[97, 110, 110]⟩, .string ⟨#[99, 108, 101, 114, 107]⟩, .string ⟨#[98, 111, 98]⟩, .string ⟨#[99, 108, 101, 114, 107]⟩] 98, .cells #[.string ⟨#[100, 111, 111, 114]⟩, .string ⟨#[100, 111, 111, 114, 115]⟩] 98, .cells #[.string ⟨#[114, 101, 97, 100]⟩] 9, .cells #[.bool false, .string ⟨#[99, 108, 101, 114, 107]⟩, .string ⟨#[100, 111, 111, 114, 115]⟩, .slice none 0 0, .int .i8 0, .float .f64 0, .bool true, .string ⟨#[98, 111, 98]⟩, .string ⟨#[100, 111, 111, 114]⟩, .slice (some ⟨n + 1 + 1 + 1 + 1 + 1 + 1 + 1, 0, none⟩) 1 1, .int .i8 0, .float .f64 0] 27]
theorem BA_new (w : World) : BA w.heap.size (allocs w (osA w.heap.size)) :=
  ⟨allocs_get _ w 0 _ rfl, allocs_get _ w 1 _ rfl, allocs_get _ w 2 _ rfl, allocs_get _ w 3 _ rfl, allocs_get _ w 4 _ rfl, allocs_get _ w 5 _ rfl, allocs_get _ w 6 _ rfl, allocs_get _ w 7 _ rfl, allocs_get _ w 8 _ rfl⟩
theorem BA.below {n : Nat} {V V' : World} (h : BA n V) (b : Below V.heap.size V V') : BA n V' :=
  ⟨(b.block _ (lt_of_heap h.b0)).trans h.b0, (b.block _ (lt_of_heap h.b1)).trans h.b1, (b.block _ (lt_of_heap h.b2)).trans h.b2, (b.block _ (lt_of_heap h.b3)).trans h.b3, (b.block _ (lt_of_heap h.b4)).trans h.b4, (b.block _ (lt_of_heap h.b5)).trans h.b5, (b.block _ (lt_of_heap h.b6)).trans h.b6, (b.block _ (lt_of_heap h.b7)).trans h.b7, (b.block _ (lt_of_heap h.b8)).trans h.b8⟩
set_option maxRecDepth 100000 in
set_option maxHeartbeats 4000000 in
theorem alive_any (w : World) : Calls Try.prog 30 #[] w fun e w' => e = .returned (.bool true) ∧ Below w.heap.size w w' := by
  have hB := hide' (BA_new w)
  have hb := hide' (allocs_below (osA w.heap.size) w)
  have e : allocs w (osA w.heap.size) = (((((((((w.alloc (.cells #[.string ⟨#[111, 112, 101, 110]⟩, .string ⟨#[114, 101, 97, 100]⟩] 9)).alloc (.cells #[.string ⟨#[97, 110, 110]⟩, .float .f64 4607182418800017408, .string ⟨#[98, 111, 98]⟩, .float .f64 4602678819172646912] 50)).alloc (.cells #[.string ⟨#[99, 108, 101, 114, 107]⟩] 9)).alloc (.cells #[.string ⟨#[100, 111, 111, 114]⟩] 9)).alloc (.cells #[.string ⟨#[100, 111, 111, 114, 115]⟩] 9)).alloc (.cells #[.string ⟨#[97, 110, 110]⟩, .string ⟨#[99, 108, 101, 114, 107]⟩, .string ⟨#[98, 111, 98]⟩, .string ⟨#[99, 108, 101, 114, 107]⟩] 98)).alloc (.cells #[.string ⟨#[100, 111, 111, 114]⟩, .string ⟨#[100, 111, 111, 114, 115]⟩] 98)).alloc (.cells #[.string ⟨#[114, 101, 97, 100]⟩] 9)).alloc (.cells #[.bool false, .string ⟨#[99, 108, 101, 114, 107]⟩, .string ⟨#[100, 111, 111, 114, 115]⟩, .slice none 0 0, .int .i8 0, .float .f64 0, .bool true, .string ⟨#[98, 111, 98]⟩, .string ⟨#[100, 111, 111, 114]⟩, .slice (some ⟨w.heap.size + 1 + 1 + 1 + 1 + 1 + 1 + 1, 0, none⟩) 1 1, .int .i8 0, .float .f64 0] 27)) := rfl
  rw [e] at hB hb
  clear e
  go_enter Try.func30, Try.ntmps30
  go_wp2_with (with_reducible refine stay_store 34 _ _ rfl ?_)
  unfold Stay
  have hsz : Hid ((((((((((w.alloc (.cells #[.string ⟨#[111, 112, 101, 110]⟩, .string ⟨#[114, 101, 97, 100]⟩] 9)).alloc (.cells #[.string ⟨#[97, 110, 110]⟩, .float .f64 4607182418800017408, .string ⟨#[98, 111, 98]⟩, .float .f64 4602678819172646912] 50)).alloc (.cells #[.string ⟨#[99, 108, 101, 114, 107]⟩] 9)).alloc (.cells #[.string ⟨#[100, 111, 111, 114]⟩] 9)).alloc (.cells #[.string ⟨#[100, 111, 111, 114, 115]⟩] 9)).alloc (.cells #[.string ⟨#[97, 110, 110]⟩, .string ⟨#[99, 108, 101, 114, 107]⟩, .string ⟨#[98, 111, 98]⟩, .string ⟨#[99, 108, 101, 114, 107]⟩] 98)).alloc (.cells #[.string ⟨#[100, 111, 111, 114]⟩, .string ⟨#[100, 111, 111, 114, 115]⟩] 98)).alloc (.cells #[.string ⟨#[114, 101, 97, 100]⟩] 9)).alloc (.cells #[.bool false, .string ⟨#[99, 108, 101, 114, 107]⟩, .string ⟨#[100, 111, 111, 114, 115]⟩, .slice none 0 0, .int .i8 0, .float .f64 0, .bool true, .string ⟨#[98, 111, 98]⟩, .string ⟨#[100, 111, 111, 114]⟩, .slice (some ⟨w.heap.size + 1 + 1 + 1 + 1 + 1 + 1 + 1, 0, none⟩) 1 1, .int .i8 0, .float .f64 0] 27)).heap.size = w.heap.size + 1 + 1 + 1 + 1 + 1 + 1 + 1 + 1 + 1) := by show _ = _; simp
  generalize (((((((((w.alloc (.cells #[.string ⟨#[111, 112, 101, 110]⟩, .string ⟨#[114, 101, 97, 100]⟩] 9)).alloc (.cells #[.string ⟨#[97, 110, 110]⟩, .float .f64 4607182418800017408, .string ⟨#[98, 111, 98]⟩, .float .f64 4602678819172646912] 50)).alloc (.cells #[.string ⟨#[99, 108, 101, 114, 107]⟩] 9)).alloc (.cells #[.string ⟨#[100, 111, 111, 114]⟩] 9)).alloc (.cells #[.string ⟨#[100, 111, 111, 114, 115]⟩] 9)).alloc (.cells #[.string ⟨#[97, 110, 110]⟩, .string ⟨#[99, 108, 101, 114, 107]⟩, .string ⟨#[98, 111, 98]⟩, .string ⟨#[99, 108, 101, 114, 107]⟩] 98)).alloc (.cells #[.string ⟨#[100, 111, 111, 114]⟩, .string ⟨#[100, 111, 111, 114, 115]⟩] 98)).alloc (.cells #[.string ⟨#[114, 101, 97, 100]⟩] 9)).alloc (.cells #[.bool false, .string ⟨#[99, 108, 101, 114, 107]⟩, .string ⟨#[100, 111, 111, 114, 115]⟩, .slice none 0 0, .int .i8 0, .float .f64 0, .bool true, .string ⟨#[98, 111, 98]⟩, .string ⟨#[100, 111, 111, 114]⟩, .slice (some ⟨w.heap.size + 1 + 1 + 1 + 1 + 1 + 1 + 1, 0, none⟩) 1 1, .int .i8 0, .float .f64 0] 27)) = V at *
  obtain ⟨n, hn⟩ : ∃ n, n = w.heap.size := ⟨_, rfl⟩
  rw [← hn] at hB hsz
  rw [← hn]
  clear hn
  generalize hq : n + 1 + 1 + 1 + 1 + 1 + 1 + 1 + 1 + 1 = q1 at *
  have hnew := hide' (heap_alloc_new V (.cells #[.slice none 0 0, .slice none 0 0, .slice none 0 0, .slice none 0 0, .slice none 0 0, .slice none 0 0, .slice none 0 0, .slice none 0 0, .slice none 0 0, .slice none 0 0, .slice none 0 0] 34))
  rw [hsz.out] at hnew
  refine wpList_store_row rfl 34 _ _ rfl q1 (FA n).arr rfl rfl 34 _ hnew.out (size_arr _) rfl (by simp [Pf.arr, Value.oneCell']) ?_
  rw [← hsz.out, World.setRow_alloc_new, hsz.out]
  have hq1 : Hid ((V.alloc (.cells (FA n).arr 34)).heap[q1]? = some (.cells (FA n).arr 34 (0, 0))) := by have := heap_alloc_new V (.cells (FA n).arr 34); rw [hsz.out] at this; exact this
  have bV : Hid (Below V.heap.size V (V.alloc (.cells (FA n).arr 34))) := (Below.refl _ _).alloc (Nat.le_refl _) _
  generalize V.alloc (.cells (FA n).arr 34) = V1 at *
  have hB1 := hide' (hB.out.below bV.out)
  have hb1 := hide' (hb.out.trans (bV.out.mono hb.out.size))
  clear hnew hB hb bV hsz hq V
  go_wp2_with (with_reducible refine stay_load 34 _ rfl ?_)
  unfold Stay
  refine wpList_load_row rfl 34 _ rfl q1 rfl 34 (FA n).arr (0, 0) _ hq1.out Try.underlying34 rfl (size_arr _) ?_
  go_wp2_with fail
  refine (rel_call (FA n) 100 V1 (FA_in hB1.out) (FA_fine n) (by show 2 * (1 * 2) ≤ 65536; decide)).mono ?_
  rintro e V2 ⟨to, tc, rfl, r, b2⟩
  have hb2 := hide' (hb1.out.trans (b2.mono hb1.out.size))
  rw [rel_FA n] at r
  rw [rel_FA n]
  have hcap := r.cap
  obtain ⟨g, rfl, ⟨x0, x1, x2⟩, _⟩ := X.row_at r (j := 0) rfl
  obtain ⟨g', e1, ⟨x3, x4, x5⟩, _⟩ := X.row_at r (j := 1) rfl
  cases e1
  obtain ⟨g', e1, ⟨x6, x7, x8⟩, _, _, hgl⟩ := X.row_at r (j := 2) rfl
  cases e1
  have KC : Hid (∀ W, Below V2.heap.size V2 W → W.cell? ⟨g, 0, none⟩ = some (.string ⟨#[97, 110, 110]⟩) ∧ W.cell? ⟨g, 1, none⟩ = some (.string ⟨#[100, 111, 111, 114]⟩) ∧ W.cell? ⟨g, 2, none⟩ = some (.string ⟨#[111, 112, 101, 110]⟩) ∧ W.cell? ⟨g, 3, none⟩ = some (.string ⟨#[97, 110, 110]⟩) ∧ W.cell? ⟨g, 4, none⟩ = some (.string ⟨#[100, 111, 111, 114]⟩) ∧ W.cell? ⟨g, 5, none⟩ = some (.string ⟨#[114, 101, 97, 100]⟩) ∧ W.cell? ⟨g, 6, none⟩ = some (.string ⟨#[98, 111, 98]⟩) ∧ W.cell? ⟨g, 7, none⟩ = some (.string ⟨#[100, 111, 111, 114]⟩) ∧ W.cell? ⟨g, 8, none⟩ = some (.string ⟨#[111, 112, 101, 110]⟩)) := fun W b => ⟨(b.cell (p := ⟨g, 0, none⟩) hgl).trans x0, (b.cell (p := ⟨g, 1, none⟩) hgl).trans x1, (b.cell (p := ⟨g, 2, none⟩) hgl).trans x2, (b.cell (p := ⟨g, 3, none⟩) hgl).trans x3, (b.cell (p := ⟨g, 4, none⟩) hgl).trans x4, (b.cell (p := ⟨g, 5, none⟩) hgl).trans x5, (b.cell (p := ⟨g, 6, none⟩) hgl).trans x6, (b.cell (p := ⟨g, 7, none⟩) hgl).trans x7, (b.cell (p := ⟨g, 8, none⟩) hgl).trans x8⟩
  clear b2 r hB1 hq1 hb1
  simp only [List.length_cons, List.length_nil, Nat.reduceAdd] at hcap ⊢
  obtain ⟨c0, c1, c2, c3, c4, c5, c6, c7, c8⟩ := KC.out V2 (Below.refl _ _)
  have hc' : 3 ≤ tc := hcap
  clear x0 x1 x2 x3 x4 x5 x6 x7 x8 hcap
  go_wp2_with fail
  have d0 : Below V2.heap.size V2 V2.drew := ⟨rfl, rfl, rfl, Nat.le_refl _, fun _ _ => rfl⟩
  go_region_held3 (fun W => W.cell? ⟨g, 0, none⟩ = some (.string ⟨#[97, 110, 110]⟩) ∧ W.cell? ⟨g, 1, none⟩ = some (.string ⟨#[100, 111, 111, 114]⟩) ∧ W.cell? ⟨g, 2, none⟩ = some (.string ⟨#[111, 112, 101, 110]⟩) ∧ W.cell? ⟨g, 3, none⟩ = some (.string ⟨#[97, 110, 110]⟩) ∧ W.cell? ⟨g, 4, none⟩ = some (.string ⟨#[100, 111, 111, 114]⟩) ∧ W.cell? ⟨g, 5, none⟩ = some (.string ⟨#[114, 101, 97, 100]⟩) ∧ W.cell? ⟨g, 6, none⟩ = some (.string ⟨#[98, 111, 98]⟩) ∧ W.cell? ⟨g, 7, none⟩ = some (.string ⟨#[100, 111, 111, 114]⟩) ∧ W.cell? ⟨g, 8, none⟩ = some (.string ⟨#[111, 112, 101, 110]⟩)) (first | with_reducible exact KC.out _ d3 | with_reducible exact KC.out _ d2 | with_reducible exact KC.out _ d1 | with_reducible exact KC.out _ d0 | go_keep) (first | (go_at_call 34; have G := d2; refine (tri_any _ _ _ _).mono ?_; rintro e w3 ⟨rfl, t3⟩; have d3 : Below V2.heap.size V2 w3 := d2.trans (t3.mono d2.size); clear t3) | (go_at_call 34; have G := d1; refine (tri_any _ _ _ _).mono ?_; rintro e w2 ⟨rfl, t2⟩; have d2 : Below V2.heap.size V2 w2 := d1.trans (t2.mono d1.size); clear t2) | (go_at_call 34; refine (tri_any _ _ _ _).mono ?_; rintro e w1 ⟨rfl, t1⟩; have d1 : Below V2.heap.size V2 w1 := d0.trans (t1.mono d0.size); clear t1))
  rename_i hHeld
  clear hHeld
  go_wp2_with fail
  go_ret
  exact ⟨rfl, hb2.out.trans (d3.mono hb2.out.size)⟩
end U
end Go.Proofs.Ytdhmommfmmiieaa
set_option linter.unusedVariables false
set_option linter.unusedSimpArgs false
namespace Go.Proofs.Ytdhmommfmmiieaa
open Go.RowKit Go.Maps
namespace U
theorem bdrew {B : Nat} (V : World) (n : Nat) : Below B V (V.drewN n) := ⟨rfl, rfl, rfl, Nat.le_refl _, fun _ _ => rfl⟩
theorem mem_take {xs : List X.K3} {t : X.K3} {k : Nat} {z : X.K3} (h : isIn (xs.take k) t = false) (hz : xs[k]? = some z) (hn : z ≠ t) : isIn (xs.take (k + 1)) t = false := by
  rw [List.take_add_one, hz]
  refine isIn_no (fun q => ?_)
  rcases List.mem_append.1 q with q | q
  · rw [isIn_yes q] at h; cases h
  · simp at q; exact hn q.symm
theorem tri_ne {z t : X.K3} (h : z ≠ t) : ((z.1.toList == t.1.toList) && (z.2.1.toList == t.2.1.toList) && (z.2.2.toList == t.2.2.toList)) = false := by
  rw [Bool.eq_false_iff]
  intro e
  simp only [Bool.and_eq_true, beq_iff_eq] at e
  exact h (Prod.ext (text_inj e.1.1) (Prod.ext (text_inj e.1.2) (text_inj e.2)))
set_option maxRecDepth 100000 in
set_option maxHeartbeats 4000000 in
theorem has_any (ao : Option Addr) (ac : Nat) (xs : List X.K3) (t : X.K3) (w : World) (h : X.Ints ao xs w) (hc : xs.length ≤ ac) (hl : (xs.length : Int) ≤ 1048576) : Calls Try.prog 33 #[.slice ao xs.length ac, .agg #[.string t.1, .string t.2.1, .string t.2.2]] w fun e w' => e = .returned (.bool (isIn xs t)) ∧ Below w.heap.size w w' := by
  have H := hide' h
  clear h
  go_enter Try.func33, Try.ntmps33
  go_wp2_with fail
  have b0 : Hid (Below w.heap.size w (w.alloc (.cells #[.string t.1, .string t.2.1, .string t.2.2] 36))) := (Below.refl _ _).alloc (Nat.le_refl _) _
  have hq := hide' (heap_alloc_new w (.cells #[.string t.1, .string t.2.1, .string t.2.2] 36))
  generalize w.alloc (.cells #[.string t.1, .string t.2.1, .string t.2.2] 36) = V at *
  obtain ⟨q3, hq3⟩ : ∃ q3, q3 = w.heap.size := ⟨_, rfl⟩
  rw [← hq3] at hq
  rw [← hq3]
  clear hq3
  go_loopw [5] (fun iv wx => ∃ i : Nat, iv = .int .i64 (i : Int) ∧ i ≤ xs.length ∧ isIn (xs.take i) t = false ∧ Hid (Below V.heap.size V wx)) (fun iv _ => xs.length - (intOf iv).toNat)
  case atStart => exact ⟨0, rfl, Nat.zero_le _, by simp [isIn], Below.refl _ _⟩
  case round =>
    obtain ⟨i, rfl, hi, hno, HM⟩ := hrel
    have HN := hide' hno
    clear hno
    by_cases hlt : i < xs.length
    · have hlt' : (i : Int) < (xs.length : Int) := by omega
      obtain ⟨z, hz⟩ : ∃ z, xs[i]? = some z := ⟨_, List.getElem?_eq_getElem hlt⟩
      obtain ⟨y, off, hy, hyl, d1, d2, d3⟩ := ((H.out.below b0.out).below HM.out).at hz
      have g3 := (HM.out.block _ (lt_of_heap hq.out)).trans hq.out
      have f1 : wr.cell? ⟨q3, 0, none⟩ = some (.string t.1) := by rw [Lib.cell_of_heap g3]; rfl
      have f2 : wr.cell? ⟨q3, 1, none⟩ = some (.string t.2.1) := by rw [Lib.cell_of_heap g3]; rfl
      have f3 : wr.cell? ⟨q3, 2, none⟩ = some (.string t.2.2) := by rw [Lib.cell_of_heap g3]; rfl
      clear g3
      have Hy := hide' hy
      rw [hy]
      by_cases q1 : z.1 = t.1
      · by_cases q2 : z.2.1 = t.2.1
        · by_cases q3 : z.2.2 = t.2.2
          · have e : z = t := Prod.ext q1 (Prod.ext q2 q3)
            have KI : Hid (isIn xs t = true) := isIn_yes (by rw [← e]; exact List.mem_of_getElem? hz)
            have g1 : (z.1.toList == t.1.toList) = true := by rw [q1]; exact text_eq _
            have g2 : (z.2.1.toList == t.2.1.toList) = true := by rw [q2]; exact text_eq _
            have g3 : (z.2.2.toList == t.2.2.toList) = true := by rw [q3]; exact text_eq _
            clear hy hz hyl HN q1 q2 q3 e
            go_wp2_with fail
            go_quiet (fail)
            go_wp2_with fail
            go_ret
            exact ⟨by rw [KI.out]; rfl, b0.out.trans ((HM.out.trans (bdrew _ _)).mono b0.out.size)⟩
          · have e : z ≠ t := fun e => q3 (by rw [e])
            have hs := hide' (mem_take HN.out hz e)
            have g1 : (z.1.toList == t.1.toList) = true := by rw [q1]; exact text_eq _
            have g2 : (z.2.1.toList == t.2.1.toList) = true := by rw [q2]; exact text_eq _
            have g3 : (z.2.2.toList == t.2.2.toList) = false := text_ne q3
            clear q1 q2 q3
            clear hy hz hyl HN e
            go_wp2_with fail
            go_quiet (fail)
            go_wp2_with fail
            exact ⟨⟨i + 1, by go_num, by omega, hs.out, HM.out.trans (bdrew _ _)⟩, by simp [intOf]; omega⟩
        · have e : z ≠ t := fun e => q2 (by rw [e])
          have hs := hide' (mem_take HN.out hz e)
          have g1 : (z.1.toList == t.1.toList) = true := by rw [q1]; exact text_eq _
          have g2 : (z.2.1.toList == t.2.1.toList) = false := text_ne q2
          clear q1 q2
          clear hy hz hyl HN e
          go_wp2_with fail
          go_quiet (fail)
          go_wp2_with fail
          exact ⟨⟨i + 1, by go_num, by omega, hs.out, HM.out.trans (bdrew _ _)⟩, by simp [intOf]; omega⟩
      · have e : z ≠ t := fun e => q1 (by rw [e])
        have hs := hide' (mem_take HN.out hz e)
        have g1 : (z.1.toList == t.1.toList) = false := text_ne q1
        clear q1
        clear hy hz hyl HN e
        go_wp2_with fail
        go_quiet (fail)
        go_wp2_with fail
        exact ⟨⟨i + 1, by go_num, by omega, hs.out, HM.out.trans (bdrew _ _)⟩, by simp [intOf]; omega⟩
    · have hk : i = xs.length := by omega
      have KI : Hid (isIn xs t = false) := by have := HN.out; rw [hk, List.take_length] at this; exact this
      have hlt' : ¬ (i : Int) < (xs.length : Int) := by omega
      clear hk HN
      go_wp2_with fail
      go_ret
      exact ⟨by rw [KI.out]; rfl, b0.out.trans (HM.out.mono b0.out.size)⟩
set_option maxRecDepth 100000 in
set_option maxHeartbeats 4000000 in
/-- equal of two rows of the same triples -/
theorem equal_self (ao bo : Option Addr) (ac bc : Nat) (xs : List X.K3) (w : World) (ha : X.Ints ao xs w) (hb : X.Ints bo xs w) (hac : xs.length ≤ ac) (hbc : xs.length ≤ bc) (hl : (xs.length : Int) < 1099511627777) : Calls Try.prog 35 #[.slice ao xs.length ac, .slice bo xs.length bc] w fun e w' => e = .returned (.bool true) ∧ Below w.heap.size w w' := by
  have HA := hide' ha
  have HB := hide' hb
  clear ha hb
  go_enter Try.func35, Try.ntmps35
  go_wp2_with fail
  go_loopw [5] (fun iv wx => ∃ i : Nat, iv = .int .i64 (i : Int) ∧ i ≤ xs.length ∧ Hid (Below w.heap.size w wx)) (fun iv _ => xs.length - (intOf iv).toNat)
  case atStart => exact ⟨0, rfl, Nat.zero_le _, Below.refl _ _⟩
  case round =>
    obtain ⟨i, rfl, hi, HM⟩ := hrel
    by_cases hlt : i < xs.length
    · have hlt' : (i : Int) < (xs.length : Int) := by omega
      obtain ⟨z, hz⟩ : ∃ z, xs[i]? = some z := ⟨_, List.getElem?_eq_getElem hlt⟩
      obtain ⟨y, off, hy, hyl, d1, d2, d3⟩ := (HA.out.below HM.out).at hz
      obtain ⟨y2, off2, hy2, hyl2, f1, f2, f3⟩ := (HB.out.below HM.out).at hz
      obtain ⟨z1, z2, z3⟩ := z
      simp only at d1 d2 d3 f1 f2 f3
      have g1 := text_eq z1
      have g2 := text_eq z2
      have g3 := text_eq z3
      have Hy := hide' hy
      have Hy2 := hide' hy2
      rw [hy, hy2]
      clear hy hy2 hz hyl hyl2
      go_wp2_with fail
      go_quiet (fail)
      go_wp2_with fail
      exact ⟨⟨i + 1, by go_num, by omega, HM.out.trans ⟨rfl, rfl, rfl, Nat.le_refl _, fun _ _ => rfl⟩⟩, by simp [intOf]; omega⟩
    · have hk : i = xs.length := by omega
      have hlt' : ¬ (i : Int) < (xs.length : Int) := by omega
      clear hk
      go_wp2_with fail
      go_ret
      exact ⟨rfl, HM.out⟩
end U
end Go.Proofs.Ytdhmommfmmiieaa
