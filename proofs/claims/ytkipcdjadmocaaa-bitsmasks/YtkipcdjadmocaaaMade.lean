import Derived.Test.YtkipcdjadmocaaaFix
set_option linter.unusedVariables false
set_option linter.unusedSimpArgs false
namespace Go.Proofs.Ytkipcdjadmocaaa
open Go.RowKit
def fitB (room : Nat) (i : Int) : Bool := decide (0 ≤ i ∧ i < (room : Int))
/-- the set with a number more, as far as there is room -/
def addP (room : Nat) (p : Nat → Bool) (i : Int) : Nat → Bool := fun k => p k || (decide (k < room) && decide ((k : Int) = i))
def dropP (p : Nat → Bool) (i : Int) : Nat → Bool := fun k => p k && !decide ((k : Int) = i)
theorem add_gen (x g room : Nat) (p : Nat → Bool) (i : Int) (w : World) (h : Bs x g room p w) : Calls Try.prog 28 #[.pointer (some ⟨x, 0, none⟩), .int .i64 i] w fun e w' => e = .returned (.bool (fitB room i && !hasB p i)) ∧ Bs x g room (addP room p i) w' ∧ Turn (fun j => j = g) w w' := by
  by_cases hf : 0 ≤ i ∧ i < (room : Int)
  · obtain ⟨k, rfl⟩ : ∃ k : Nat, i = (k : Int) := ⟨i.toNat, by omega⟩
    cases hp : p k
    · refine (add_yes x g room p k w h (by omega) hp).mono ?_
      rintro e w' ⟨rfl, hB, t⟩
      have e : put p k true = addP room p (k : Int) := by
        funext j
        unfold put addP
        by_cases hj : j = k
        · subst hj; simp; right; omega
        · simp [hj]; intro _ q; omega
      rw [e] at hB
      exact ⟨ret_bool (by simp [fitB, hasB, hp]; omega), hB, t⟩
    · refine (add_no x g room p k w h (.inr (by simp [hasB, hp]))).mono ?_
      rintro e w' ⟨rfl, n, rfl⟩
      have e : addP room p (k : Int) = p := by
        funext j
        unfold addP
        by_cases hj : j = k
        · subst hj; simp [hp]
        · have : ¬ ((j : Int) = (k : Int)) := by omega
          simp [this]
      rw [e]
      exact ⟨ret_bool (by simp [hasB, hp]), h.drewN n, (Turn.refl _ w).drewN n⟩
  · refine (add_no x g room p i w h (.inl hf)).mono ?_
    rintro e w' ⟨rfl, n, rfl⟩
    have e : addP room p i = p := by
      funext j
      unfold addP
      by_cases hj : j < room
      · have : ¬ ((j : Int) = i) := by omega
        simp [this]
      · simp [hj]
    rw [e]
    exact ⟨ret_bool (by simp only [fitB, hf]; simp), h.drewN n, (Turn.refl _ w).drewN n⟩
theorem drop_gen (x g room : Nat) (p : Nat → Bool) (i : Int) (w : World) (h : Bs x g room p w) : Calls Try.prog 27 #[.pointer (some ⟨x, 0, none⟩), .int .i64 i] w fun e w' => e = .returned (.bool (hasB p i)) ∧ Bs x g room (dropP p i) w' ∧ Turn (fun j => j = g) w w' := by
  cases hp : hasB p i
  · refine (drop_no x g room p i w h hp).mono ?_
    rintro e w' ⟨rfl, n, rfl⟩
    have e : dropP p i = p := by
      funext j
      unfold dropP
      by_cases hj : (j : Int) = i
      · have : p j = false := by
          rw [← hj] at hp; simpa [hasB] using hp
        simp [this]
      · simp [hj]
    rw [e]
    exact ⟨rfl, h.drewN n, (Turn.refl _ w).drewN n⟩
  · have h0 : 0 ≤ i ∧ p i.toNat = true := by simpa [hasB] using hp
    obtain ⟨k, rfl⟩ : ∃ k : Nat, i = (k : Int) := ⟨i.toNat, by omega⟩
    refine (drop_yes x g room p k w h (by simpa using h0.2)).mono ?_
    rintro e w' ⟨rfl, hB, t⟩
    have e : put p k false = dropP p (k : Int) := by
      funext j
      unfold put dropP
      by_cases hj : j = k
      · subst hj; simp
      · have : ¬ ((j : Int) = (k : Int)) := by omega
        simp [hj, this]
    rw [e] at hB
    exact ⟨rfl, hB, t⟩
theorem fitB_has (p : Nat → Bool) (room : Nat) (h : ∀ k, room ≤ k → p k = false) (i : Int) (hf : fitB room i = false) : hasB p i = false := by
  have h2 : ¬ (0 ≤ i ∧ i < (room : Int)) := by simpa only [fitB, decide_eq_false_iff_not] using hf
  unfold hasB
  by_cases h0 : 0 ≤ i
  · rw [h i.toNat (by omega)]; simp
  · simp [h0]
theorem hasB_add (p : Nat → Bool) (room : Nat) (i n : Int) : hasB (addP room p n) i = (hasB p i || (fitB room i && decide (i = n))) := by
  unfold hasB addP fitB
  by_cases h0 : 0 ≤ i
  · obtain ⟨k, rfl⟩ : ∃ k : Nat, i = (k : Int) := ⟨i.toNat, by omega⟩
    simp
  · simp [h0]
theorem hasB_drop (p : Nat → Bool) (i n : Int) : hasB (dropP p n) i = (hasB p i && !decide (i = n)) := by
  unfold hasB dropP
  by_cases h0 : 0 ≤ i
  · obtain ⟨k, rfl⟩ : ∃ k : Nat, i = (k : Int) := ⟨i.toNat, by omega⟩
    simp
  · simp [h0]
/-- what numbers a list puts in -/
def inL (room : Nat) (l : List Int) : Nat → Bool := l.foldl (fun p i => addP room p i) (fun _ => false)
theorem inL_nil (room : Nat) : inL room [] = fun _ => false := rfl
theorem inL_snoc (room : Nat) (l : List Int) (i : Int) : inL room (l ++ [i]) = addP room (inL room l) i := by simp [inL]
theorem inL_take (room : Nat) (l : List Int) (k : Nat) (h : k < l.length) : inL room (l.take (k + 1)) = addP room (inL room (l.take k)) (l.getD k 0) := by
  rw [List.take_succ_eq_append_getElem h, inL_snoc]
  simp [List.getD, List.getElem?_eq_getElem h]
theorem inL_out (room : Nat) (l : List Int) : ∀ k, room ≤ k → inL room l k = false := by
  have key : ∀ (l : List Int) (p : Nat → Bool), (∀ k, room ≤ k → p k = false) → ∀ k, room ≤ k → (l.foldl (fun p i => addP room p i) p) k = false := by
    intro l
    induction l with
    | nil => intro p h k hk; exact h k hk
    | cons a r ih =>
      intro p h k hk
      exact ih (addP room p a) (fun j hj => by simp only [addP]; rw [h j hj]; simp; omega) k hk
  exact key l _ (fun _ _ => rfl)
/-- the slice of numbers that is handed in -/
def IsInts (w : World) (a : Option Addr) (len cap : Nat) (ns : List Int) : Prop :=
  len ≤ cap ∧ cap ≤ maxLen ∧ ns.length = len ∧ (len = 0 ∨ ∃ b off, a = some ⟨b, off, none⟩ ∧ b < w.heap.size ∧ ∀ j, j < len → w.cell? ⟨b, off + j, none⟩ = some (.int .i64 (ns.getD j 0)))
theorem IsInts.below {w w' : World} {a : Option Addr} {len cap : Nat} {ns : List Int} (h : IsInts w a len cap ns) {B : Nat} (hB : w.heap.size ≤ B) (b : Below B w w') : IsInts w' a len cap ns := by
  obtain ⟨h1, h2, h3, h4⟩ := h
  refine ⟨h1, h2, h3, ?_⟩
  rcases h4 with h4 | ⟨bb, off, ha, hb, hc⟩
  · exact .inl h4
  · exact .inr ⟨bb, off, ha, Nat.lt_of_lt_of_le hb b.size, fun j hj => (b.cell (p := ⟨bb, off + j, none⟩) (Nat.lt_of_lt_of_le hb hB)).trans (hc j hj)⟩
set_option maxHeartbeats 1000000 in
set_option maxRecDepth 100000 in
theorem made_any (room : Int) (a : Option Addr) (len cap : Nat) (ns : List Int) (w : World) (h : IsInts w a len cap ns) : Calls Try.prog 23 #[.int .i64 room, .slice a len cap] w fun e w' => ∃ x, e = .returned (.pointer (some ⟨x, 0, none⟩)) ∧ ∃ g, Bs x g (roomOf room) (inL (roomOf room) ns) w' ∧ Below w.heap.size w w' ∧ w.heap.size ≤ x ∧ w.heap.size ≤ g := by
  obtain ⟨h1, h2, h3, h4⟩ := h
  unfold maxLen at h2
  have Hn := hide' (fun w => new_any room w)
  have Ha := hide' (fun x g p i w h => add_gen x g (roomOf room) p i w h)
  have Ht := hide' (fun k hk => inL_take (roomOf room) ns k hk)
  have Hnil := hide' (inL_nil (roomOf room))
  generalize roomOf room = R at *
  have Hall : Hid (ns.take len = ns) := List.take_of_length_le (by omega)
  rcases h4 with rfl | ⟨b, off, rfl, hb, hc⟩
  · go_enter Try.func23, Try.ntmps23
    go_wp2_with fail
    refine (Hn.out _).mono ?_
    rintro e w1 ⟨x, rfl, g, hB, b1, hx, hg⟩
    go_wp2_with fail
    go_loopw [6] (fun i wx => wx = w1 ∧ i = .int .i64 0) (fun i _ => 0)
    case atStart => exact ⟨rfl, rfl⟩
    case round =>
      obtain ⟨rfl, rfl⟩ := hrel
      go_wp2
      go_ret
      have hnil : ns = [] := List.length_eq_zero_iff.1 h3
      exact ⟨x, rfl, g, by rw [hnil]; exact hB, b1, hx, hg⟩
  · have Hc := hide' hc
    clear hc
    go_enter Try.func23, Try.ntmps23
    go_wp2_with fail
    refine (Hn.out _).mono ?_
    rintro e w1 ⟨x, rfl, g, hB, b1, hx, hg⟩
    go_wp2_with fail
    go_loopw [6] (fun i wx => ∃ k : Nat, k ≤ len ∧ i = .int .i64 (k : Int) ∧ Bs x g R (inL R (ns.take k)) wx ∧ Below w.heap.size w wx) (fun i _ => len - (intOf i).toNat)
    case atStart => exact ⟨0, by omega, rfl, hB, b1⟩
    case round =>
      obtain ⟨k, hk, rfl, hBk, bk⟩ := hrel
      by_cases hlt : k < len
      · have cw := (bk.cell (p := ⟨b, off + k, none⟩) hb).trans (Hc.out k hlt)
        have hlt' : (k : Int) < (len : Int) := by omega
        have hst := Ht.out k (by omega)
        generalize ns.getD k 0 = z at *
        have Hst := hide' hst
        have HBk := hide' hBk
        clear hst hBk hB
        go_wp2_with fail
        refine (Ha.out x g _ z _ HBk.out).mono ?_
        rintro e w2 ⟨rfl, hB2, t2⟩
        go_wp2_with fail
        exact ⟨⟨k + 1, by omega, by go_num, by rw [Hst.out]; exact hB2, bk.trans (t2.below (fun j hj => by rw [hj]; exact hg) bk.size)⟩, by simp [intOf]; omega⟩
      · have hkl : k = len := by omega
        subst hkl
        rw [Hall.out] at hBk
        clear hlt
        have hlt' : ¬ (k : Int) < (k : Int) := by omega
        go_wp2
        go_ret
        exact ⟨x, rfl, g, hBk, bk, hx, hg⟩
theorem info4 : (Try.prog.info? 4).map (fun i => (i.zero, i.size, i.bytes)) = some (some (.bool false), 1, 1) := by kernel_rfl
/-- what a set says from -1 on -/
def tl (p : Nat → Bool) (n : Nat) : List Value := (List.range n).map fun (j : Nat) => Value.bool (hasB p ((j : Int) - 1))
theorem tl_succ (p : Nat → Bool) (n : Nat) : tl p (n + 1) = tl p n ++ [.bool (hasB p ((n : Int) - 1))] := by simp [tl, List.range_succ]
theorem row_at {B g rc n : Nat} {e : TypeId} {xs : List Value} {w : World} (h : w.ownsRow B e 1 (.slice (some ⟨g, 0, none⟩) n rc) n xs) (j : Nat) (v : Value) (hv : xs[j]? = some v) : w.cell? ⟨g, j, none⟩ = some v := by
  rcases h.2 with ⟨hv, _⟩ | ⟨g', cap', cur, hv', hb, hg, h1, h2, h3, h4⟩
  · cases hv
  · simp only [Value.slice.injEq, Option.some.injEq, Addr.mk.injEq] at hv'
    obtain ⟨⟨rfl, _⟩, _, _⟩ := hv'
    have hj : j < n := by
      have := h.1
      rcases Nat.lt_or_ge j xs.length with q | q
      · omega
      · rw [List.getElem?_eq_none q] at hv; cases hv
    rw [Lib.cell_of_heap hg]
    rw [← h4, List.getElem?_take_of_lt (by omega), Array.getElem?_toList] at hv
    exact hv
theorem row_lt {B g rc n : Nat} {e : TypeId} {xs : List Value} {w : World} (h : w.ownsRow B e 1 (.slice (some ⟨g, 0, none⟩) n rc) n xs) : B ≤ g ∧ g < w.heap.size := by
  rcases h.2 with ⟨hv, _⟩ | ⟨g', cap', cur, hv', hb, hg, h1, h2, h3, h4⟩
  · cases hv
  · simp only [Value.slice.injEq, Option.some.injEq, Addr.mk.injEq] at hv'
    obtain ⟨⟨rfl, _⟩, _, _⟩ := hv'
    exact ⟨hb, (Array.getElem?_eq_some_iff.1 hg).1⟩
theorem own_ge {B n rc : Nat} {ro : Option Addr} {e : TypeId} {xs : List Value} {w : World} (h : w.ownsRow B e 1 (.slice ro n rc) n xs) : ∀ j, (Value.slice ro n rc).ownBlock = some j → B ≤ j := by
  intro j hj
  rcases h.2 with ⟨hv, _⟩ | ⟨g', cap', cur, hv', hb, hg, h1, h2, h3, h4⟩
  · rw [hv] at hj; cases hj
  · rw [hv'] at hj; cases hj; exact hb
/-- the slice of answers -/
structure Tolds (g rc n : Nat) (q : Nat → Bool) (w : World) : Prop where
  lt : g < w.heap.size
  at' : ∀ j, j < n → w.cell? ⟨g, j, none⟩ = some (.bool (q j))
theorem Tolds.below {g rc n : Nat} {q : Nat → Bool} {w w' : World} (h : Tolds g rc n q w) (b : Below w.heap.size w w') : Tolds g rc n q w' :=
  ⟨Nat.lt_of_lt_of_le h.lt b.size, fun j hj => (b.cell (p := ⟨g, j, none⟩) h.lt).trans (h.at' j hj)⟩
set_option maxHeartbeats 2000000 in
set_option maxRecDepth 100000 in
theorem told_any (x g room : Nat) (p : Nat → Bool) (w : World) (h : Bs x g room p w) : Calls Try.prog 25 #[.pointer (some ⟨x, 0, none⟩)] w fun e w' => ∃ t rc, e = .returned (.slice (some ⟨t, 0, none⟩) (room + 2) rc) ∧ Tolds t rc (room + 2) (fun j => hasB p ((j : Int) - 1)) w' ∧ w.heap.size ≤ t ∧ Below w.heap.size w w' := by
  obtain ⟨i0, hi, hz0, hz1, hz2⟩ := info_parts info4
  have hle := h.le
  have Hr := hide' (fun w h => room_any x g room p w h)
  have Hh := hide' (fun i w h => has_any x g room p i w h)
  have H := hide' h
  have Hts := hide' (tl_succ p)
  clear h
  generalize hB : w.heap.size = B at *
  have HB := hide' hB
  clear hB
  go_enter Try.func25, Try.ntmps25
  go_wp2_with fail
  go_loopw [3, 4] (fun v i wx => ∃ (k : Nat) (ro : Option Addr) (rc : Nat), k ≤ room + 2 ∧ i = .int .i64 ((k : Int) - 1) ∧ v = .slice ro k rc ∧ Bs x g room p wx ∧ wx.ownsRow B 4 1 (.slice ro k rc) k (tl p k) ∧ Below B w wx) (fun _ i _ => room + 2 - (intOf i + 1).toNat)
  case atStart => exact ⟨0, none, 0, by omega, rfl, rfl, H.out, World.ownsRow_nil _ _ _ _, Below.refl _ _⟩
  case round =>
    obtain ⟨k, ro, rc, hk, rfl, rfl, hBk, hrow, bk⟩ := hrel
    have HBk := hide' hBk
    have hBs : B ≤ wr.heap.size := by rw [← HB.out]; exact bk.size
    clear hBk
    by_cases hlt : k < room + 2
    · have e1 : decide ((k : Int) - 1 ≤ (room : Int)) = true := by simp; omega
      have hts := Hts.out k
      have Ht := hide' hts
      have Hhk := hide' (Hh.out ((k : Int) - 1))
      clear hts
      generalize hasB p ((k : Int) - 1) = bb at *
      have hrB := own_ge hrow
      go_wp2_with fail
      refine (Hr.out _ HBk.out).mono ?_
      rintro e w1 ⟨rfl, hw1⟩
      subst hw1
      go_wp2_with fail
      refine (Hhk.out _ HBk.out).mono ?_
      rintro e w2 ⟨rfl, n2, hw2⟩
      have HB2 := hide' (HBk.out.drewN n2)
      have hrow2 : w2.ownsRow B 4 1 (.slice ro k rc) k (tl p k) := by rw [hw2]; exact hrow
      have b2 := below_drewN bk n2
      have hBs2 : B ≤ w2.heap.size := by rw [hw2]; exact hBs
      rw [← hw2] at HB2 b2
      clear hw2 HBk hrow bk hBs
      go_wp2_with (first | (at_builtin; refine wpList_append_lies _ rfl _ _ 53 rfl B 4 i0 (.bool false) 1 1 Try.underlying53 hi hz0 hz1 hz2 rfl (by decide) _ _ _ rfl (hrow2.alloc _) ⟨w2.heap.size, 0, none⟩ 1 1 [.bool bb] rfl rfl (cell_one_new _ _ _) (by simp [Value.oneCell']) (by decide) (by unfold maxLen; omega) (by omega) (by simp; omega) (w2.heap.size + 1) (by simp) ?_; intro g3 rc' w3 hrow3 hgrow3 hat3 hlt3))
      have t3 : Turn (fun j => ∃ a, ro = some a ∧ j = a.block) w2 w3 := ((Turn.refl _ w2).alloc _).grown hgrow3 (fun j hj _ => by
        cases ro with
        | none => cases hj
        | some a => cases hj; exact ⟨a, rfl, rfl⟩)
      have hap : ∀ a, ro = some a → B ≤ a.block := fun a ha => hrB a.block (by rw [ha]; rfl)
      have hx := H.out.ltx
      have hg := H.out.ltg
      rw [HB.out] at hx hg
      have hB3 : Bs x g room p w3 := HB2.out.kept t3 (fun ⟨a, ha, q⟩ => by have := hap a ha; omega) (fun ⟨a, ha, q⟩ => by have := hap a ha; omega)
      have b3 : Below B w w3 := b2.trans (t3.below (fun j ⟨a, ha, q⟩ => by rw [q]; exact hap a ha) hBs2)
      exact ⟨⟨k + 1, some ⟨g3, 0, none⟩, rc', by omega, by go_num, rfl, hB3, by rw [Ht.out]; exact hrow3, b3⟩, by simp [intOf]; omega⟩
    · have hkr : k = room + 2 := by omega
      subst hkr
      have e1 : decide (((room + 2 : Nat) : Int) - 1 ≤ (room : Int)) = false := by simp; omega
      obtain ⟨t, hro⟩ : ∃ t, ro = some ⟨t, 0, none⟩ := by
        rcases hrow.2 with ⟨hv, _⟩ | ⟨g', cap', cur, hv', _⟩
        · simp at hv
        · simp only [Value.slice.injEq] at hv'; exact ⟨g', hv'.1⟩
      subst hro
      have hl := row_lt hrow
      have hT : Tolds t rc (room + 2) (fun j => hasB p ((j : Int) - 1)) wr := ⟨hl.2, fun j hj => row_at hrow j _ (by simp [tl, hj])⟩
      clear hlt
      go_wp2_with fail
      refine (Hr.out _ HBk.out).mono ?_
      rintro e w1 ⟨rfl, hw1⟩
      subst hw1
      go_wp2
      go_ret
      exact ⟨t, rc, rfl, hT, hl.1, bk⟩
theorem cnt_shift (q p : Nat → Bool) : ∀ n off, (∀ i, off ≤ i → i < off + n → q (i + 1) = p i) → B.cnt q n (off + 1) = B.cnt p n off := by
  intro n
  induction n with
  | zero => intro off _; rfl
  | succ n ih =>
    intro off h
    simp only [B.cnt]
    rw [h off (by omega) (by omega), ih (off + 1) (fun i h1 h2 => h i (by omega) (by omega))]
theorem cnt_told (p : Nat → Bool) (room : Nat) (h : p room = false) : B.cnt (fun j => hasB p ((j : Int) - 1)) (room + 2) 0 = B.cnt p room 0 := by
  rw [show room + 2 = (1 + room) + 1 by omega, B.cnt_add, B.cnt_add]
  have e : ∀ i : Nat, hasB p (((i + 1 : Nat) : Int) - 1) = p i := fun i => by
    rw [show ((i + 1 : Nat) : Int) - 1 = (i : Int) by omega]; simp [hasB]
  have h2 := cnt_shift (fun j => hasB p ((j : Int) - 1)) p room 0 (fun i _ _ => e i)
  simp only [Nat.zero_add] at h2
  have h0 : hasB p (((0 : Nat) : Int) - 1) = false := by simp [hasB]
  have h3 := e room
  rw [h] at h3
  simp only [B.cnt, Nat.zero_add, Nat.add_zero]
  rw [h0, h2, Nat.add_comm 1 room, h3]
  simp
set_option maxHeartbeats 1000000 in
set_option maxRecDepth 100000 in
theorem trues_any (t rc n : Nat) (q : Nat → Bool) (w : World) (h : Tolds t rc n q w) (hn : n ≤ 65538) : Calls Try.prog 30 #[.slice (some ⟨t, 0, none⟩) n rc] w fun e w' => e = .returned (.int .i64 (B.cnt q n 0 : Nat)) ∧ w' = w := by
  have Ha := hide' h.at'
  clear h
  go_enter Try.func30, Try.ntmps30
  go_wp2
  go_loopw [3, 4] (fun s i wx => wx = w ∧ ∃ j : Nat, j ≤ n ∧ i = .int .i64 (j : Int) ∧ s = .int .i64 (B.cnt q j 0 : Nat)) (fun _ i _ => n - (intOf i).toNat)
  case atStart => exact ⟨rfl, 0, by omega, rfl, rfl⟩
  case round =>
    obtain ⟨rfl, j, hj, rfl, rfl⟩ := hrel
    have hcle := B.cnt_le q j 0
    by_cases hlt : j < n
    · have cw := Ha.out j hlt
      have hc : B.cnt q (j + 1) 0 = B.cnt q j 0 + (q j).toNat := by rw [B.cnt_add]; simp [B.cnt]
      have Hc := hide' hc
      clear hc
      have hlt' : (j : Int) < (n : Int) := by omega
      generalize B.cnt q j 0 = s at *
      cases hq : q j
      · rw [hq] at Hc cw
        go_wp2
        exact ⟨⟨trivial, j + 1, by omega, by go_num, by rw [Hc.out]; simp⟩, by simp [intOf]; omega⟩
      · rw [hq] at Hc cw
        go_wp2
        exact ⟨⟨trivial, j + 1, by omega, by go_num, by rw [Hc.out]; go_num⟩, by simp [intOf]; omega⟩
    · have hjn : j = n := by omega
      subst hjn
      have hlt' : ¬ (j : Int) < (j : Int) := by omega
      go_wp2
      go_ret
      exact ⟨rfl, rfl⟩
end Go.Proofs.Ytkipcdjadmocaaa
