import Derived.Test.YtpnkfbmdpgdbcaaGreatDoorEsc
set_option linter.unusedVariables false
set_option linter.unusedSimpArgs false
namespace Go.Proofs.YtpnkfbmdpgdbcaaGreatDoor
open Go.RowKit
/-- up to where a fault's word goes -/
def Tx.escTo (T : Tx) (i : Nat) : Nat := if i + 1 < T.N ∧ (T.g (i + 1)).r ≠ 10 then i + 2 else i + 1
theorem Tx.escTo_le (T : Tx) (i : Nat) (h : i < T.N) : i ≤ T.escTo i ∧ T.escTo i ≤ T.N := by
  unfold Tx.escTo; split <;> omega
set_option maxHeartbeats 1000000 in
set_option maxRecDepth 100000 in
theorem escapeWord_any {T : Tx} {b j : Nat} {w : World} (h : Scn T b j w) (i : Nat) (hi : i < T.N) :
    Calls Tryz.prog 87 #[.pointer (some ⟨b, 0, none⟩), .int .i64 (i : Int)] w fun e w' => e = .returned (.string (T.txt i (T.escTo i))) ∧ Below w.heap.size w w' := by
  have hfew := h.ok.few
  have d0 := h.c0
  have d1 := h.c1
  have d2 := h.c2
  have hte := T.escTo_le i hi
  have H := hide' h
  unfold Tx.rv at d1
  by_cases h1 : i + 1 < T.N
  · obtain ⟨rb, hro, _, _, hc⟩ := h.inn.rune (i + 1) h1
    have e1 : decide ((i : Int) + 1 < (T.N : Int)) = true := by simp; omega
    rw [hro] at d1
    have hrv : T.rv = .slice (some ⟨rb, 0, none⟩) T.N T.rc := by unfold Tx.rv; rw [hro]
    clear h
    by_cases h2 : (T.g (i + 1)).r = 10
    · have e2 : ((T.g (i + 1)).r != 10) = false := by simpa using h2
      have ht : T.escTo i = i + 1 := by unfold Tx.escTo; rw [if_neg (by omega)]
      rw [ht] at hte ⊢
      go_enter Tryz.func87, Tryz.ntmps87
      go_wp2_with (go_at_call 76; rw [← hrv]; refine (bytes_at H.out.ok H.out.inn i (i + 1) _ _ rfl (by omega) hte.1 hte.2).mono ?_; rintro e W2 ⟨rfl, bw⟩)
      go_ret
      exact ⟨rfl, bw⟩
    · have e2 : ((T.g (i + 1)).r != 10) = true := by simpa using h2
      have ht : T.escTo i = i + 2 := by unfold Tx.escTo; rw [if_pos ⟨h1, h2⟩]
      rw [ht] at hte ⊢
      go_enter Tryz.func87, Tryz.ntmps87
      go_wp2_with (go_at_call 76; rw [← hrv]; refine (bytes_at H.out.ok H.out.inn i (i + 2) _ _ rfl (by omega) hte.1 hte.2).mono ?_; rintro e W2 ⟨rfl, bw⟩)
      go_ret
      exact ⟨rfl, bw⟩
  · have e1 : decide ((i : Int) + 1 < (T.N : Int)) = false := by simp; omega
    have ht : T.escTo i = i + 1 := by unfold Tx.escTo; rw [if_neg (by omega)]
    rw [ht] at hte ⊢
    have hrv : T.rv = .slice T.ro T.N T.rc := rfl
    clear h
    go_enter Tryz.func87, Tryz.ntmps87
    go_wp2_with (go_at_call 76; rw [← hrv]; refine (bytes_at H.out.ok H.out.inn i (i + 1) _ _ rfl (by omega) hte.1 hte.2).mono ?_; rintro e W2 ⟨rfl, bw⟩)
    go_ret
    exact ⟨rfl, bw⟩

theorem Scn.drew {T : Tx} {b i : Nat} {w : World} (h : Scn T b i w) : Scn T b i w.drew := h.below ⟨rfl, rfl, rfl, Nat.le_refl _, fun _ _ => rfl⟩
theorem below_drew (w : World) : Below w.heap.size w w.drew := ⟨rfl, rfl, rfl, Nat.le_refl _, fun _ _ => rfl⟩
/-- the escape at a place: what it stands for, and the place behind it -/
def Tx.esc (T : Tx) (i : Nat) : Option (ByteArray × Nat) :=
  if (T.g (i + 1)).r = 34 ∨ (T.g (i + 1)).r = 92 then some (T.txt (i + 1) (i + 2), i + 2)
  else if (T.g (i + 1)).r = 117 then T.numd (i + 2) else none
/-- what 'escape' tells -/
def EscIs (T : Tx) (b i : Nat) (w : World) (v : Value) (w' : World) : Prop :=
  match T.esc i with
  | some (t, j) => v = .tuple #[.string t, .pointer none] ∧ Scn T b j w' ∧ i < j
  | none => ∃ fb, v = .tuple #[.string ByteArray.empty, .pointer (some ⟨fb, 0, none⟩)] ∧ w.heap.size ≤ fb ∧ Flt fb 22 (T.g i).l (T.g i).c (T.txt i (T.escTo i)) w'

set_option maxHeartbeats 1000000 in
set_option maxRecDepth 100000 in
theorem escape_any {T : Tx} {b i : Nat} {w : World} (h : Scn T b i w) (hi : i < T.N) :
    Calls Tryz.prog 79 #[.pointer (some ⟨b, 0, none⟩)] w fun e w' => ∃ v, e = .returned v ∧ EscIs T b i w v w' ∧ Turn (fun k => k = b) w w' := by
  have c3 := h.c3
  have c4 := h.c4
  have c5 := h.c5
  have n3 := World.new_ne w ⟨b, 3, none⟩ c3
  have n4 := World.new_ne w ⟨b, 4, none⟩ c4
  have n5 := World.new_ne w ⟨b, 5, none⟩ c5
  have H := hide' h
  clear h
  go_enter Tryz.func79, Tryz.ntmps79
  go_wp2
  go_region_held3 (fun w' => w'.cell? ⟨b, 3, none⟩ = some (.int .i64 (i : Int)) ∧ w'.cell? ⟨b, 4, none⟩ = some (.int .i64 (T.g i).l) ∧ w'.cell? ⟨b, 5, none⟩ = some (.int .i64 (T.g i).c)) (go_keep) (fail)
  rename_i hhh
  clear hhh
  have B0 : Below w.heap.size w (w.alloc (.cells #[.int .i64 (T.g i).l, .int .i64 (T.g i).c] 74)).drew := ((Below.refl _ _).alloc (Nat.le_refl _) _).drew
  have p0 : (w.alloc (.cells #[.int .i64 (T.g i).l, .int .i64 (T.g i).c] 74)).drew.heap[w.heap.size]? = some (.cells #[.int .i64 (T.g i).l, .int .i64 (T.g i).c] 74 (0, 0)) := heap_alloc_new _ _
  have hz0 : w.heap.size + 1 ≤ (w.alloc (.cells #[.int .i64 (T.g i).l, .int .i64 (T.g i).c] 74)).drew.heap.size := by show _ ≤ (w.alloc _).heap.size; simp
  obtain ⟨W0, hW0⟩ : ∃ W0, (w.alloc (.cells #[.int .i64 (T.g i).l, .int .i64 (T.g i).c] 74)).drew = W0 := ⟨_, rfl⟩
  rw [hW0] at B0 p0 hz0 ⊢
  have lt := H.out.lt
  have H0 := hide' (And.intro (H.out.below B0) (turn_below (S := fun k => k = b) B0))
  clear hW0 B0 c3 c4 c5 n3 n4 n5
  have hex : ∀ w1, Turn (fun k => k = b) W0 w1 → (w1.cell? ⟨w.heap.size, 0, none⟩ = some (.int .i64 (T.g i).l) ∧ w1.cell? ⟨w.heap.size, 1, none⟩ = some (.int .i64 (T.g i).c)) ∧ w.heap.size + 1 ≤ w1.heap.size := fun w1 t1 =>
    ⟨two_cells ((t1.block _ (by omega) (by omega)).trans p0), Nat.le_trans hz0 t1.size⟩
  have Hex := hide' hex
  clear hex p0 hz0
  obtain ⟨r, hr⟩ : ∃ r, (T.g (i + 1)).r = r := ⟨_, rfl⟩
  have HPk := hide' fun (w : World) (h : Scn T b (i + 1) w) => peek_any h
  have hle : i + 1 ≤ T.N := hi
  have hlt : r ≠ -1 → i + 1 < T.N := fun hne => lt_of_r H.out.ok hle (by rw [hr]; exact hne)
  rw [hr] at HPk
  have Hr := hide' hr
  clear hr
  by_cases h1 : r = 34
  · have e1 : (r == 34) = true := by simpa using h1
    have h2 := hlt (by omega)
    clear hlt
    have hesc : Hid (T.esc i = some (T.txt (i + 1) (i + 2), i + 2)) := (by show _ = _; unfold Tx.esc; rw [Hr.out, if_pos (Or.inl h1)])
    clear h1
    go_wp2_with (first | (go_at_call 75; refine (pass_any H0.out.1 hi).mono ?_; rintro e w1 ⟨rfl, s1, t1⟩; have H1 := hide' (And.intro s1 (H0.out.2.trans t1)); clear s1 t1) | (go_at_call 49; refine (HPk.out _ H1.out.1).mono ?_; rintro e w2 ⟨rfl, b2⟩) | (go_at_call 56; refine (take_any (H1.out.1.below b2) h2).mono ?_; rintro e w3 ⟨rfl, s3, t3⟩))
    go_ret2
    exact ⟨_, rfl, by unfold EscIs; rw [hesc.out]; exact ⟨rfl, s3, by omega⟩, (H1.out.2.trans (turn_below b2)).trans t3⟩
  have e1 : (r == 34) = false := by simpa using h1
  by_cases h1' : r = 92
  · have e1' : (r == 92) = true := by simpa using h1'
    have h2 := hlt (by omega)
    clear hlt
    have hesc : Hid (T.esc i = some (T.txt (i + 1) (i + 2), i + 2)) := (by show _ = _; unfold Tx.esc; rw [Hr.out, if_pos (Or.inr h1')])
    clear h1' h1
    go_wp2_with (first | (go_at_call 75; refine (pass_any H0.out.1 hi).mono ?_; rintro e w1 ⟨rfl, s1, t1⟩; have H1 := hide' (And.intro s1 (H0.out.2.trans t1)); clear s1 t1) | (go_at_call 49; refine (HPk.out _ H1.out.1).mono ?_; rintro e w2 ⟨rfl, b2⟩) | (go_at_call 56; refine (take_any (H1.out.1.below b2) h2).mono ?_; rintro e w3 ⟨rfl, s3, t3⟩))
    go_ret2
    exact ⟨_, rfl, by unfold EscIs; rw [hesc.out]; exact ⟨rfl, s3, by omega⟩, (H1.out.2.trans (turn_below b2)).trans t3⟩
  have e1' : (r == 92) = false := by simpa using h1'
  have hesc0 : Hid (T.esc i = if r = 117 then T.numd (i + 2) else none) := (by show _ = _; unfold Tx.esc; rw [Hr.out, if_neg (by omega)])
  by_cases h3 : r = 117
  · have e3 : (r == 117) = true := by simpa using h3
    have h2 := hlt (by omega)
    clear hlt
    rw [if_pos h3] at hesc0
    clear h1' h1 h3
    have HN := hide' fun (w : World) (h : Scn T b (i + 2) w) => numbered_any h
    cases hnd : T.numd (i + 2) with
    | some tj =>
      obtain ⟨t, j⟩ := tj
      rw [hnd] at HN hesc0
      go_wp2_with (first | (go_at_call 75; first | (refine (pass_any (H1.out.1.below b2) h2).mono ?_; rintro e w3 ⟨rfl, s3, t3⟩; have H3 := hide' (And.intro s3 ((H1.out.2.trans (turn_below b2)).trans t3)); clear s3 t3) | (refine (pass_any H0.out.1 hi).mono ?_; rintro e w1 ⟨rfl, s1, t1⟩; have H1 := hide' (And.intro s1 (H0.out.2.trans t1)); clear s1 t1)) | (go_at_call 49; refine (HPk.out _ H1.out.1).mono ?_; rintro e w2 ⟨rfl, b2⟩) | (go_at_call 86; refine (HN.out _ H3.out.1).mono ?_; rintro e w4 ⟨_, rfl, ⟨rfl, s4, hj⟩, t4⟩))
      go_ret2
      exact ⟨_, rfl, by unfold EscIs; rw [hesc0.out]; exact ⟨rfl, s4, by omega⟩, H3.out.2.trans t4⟩
    | none =>
      rw [hnd] at HN hesc0
      go_wp2_with (first | (go_at_call 75; first | (refine (pass_any (H1.out.1.below b2) h2).mono ?_; rintro e w3 ⟨rfl, s3, t3⟩; have H3 := hide' (And.intro s3 (And.intro ((H1.out.2.2.trans (turn_below b2)).trans t3) ((H1.out.2.1.trans (turn_below b2)).trans t3))); clear s3 t3) | (refine (pass_any H0.out.1 hi).mono ?_; rintro e w1 ⟨rfl, s1, t1⟩; have H1 := hide' (And.intro s1 (And.intro t1 (H0.out.2.trans t1))); clear s1 t1)) | (go_at_call 49; refine (HPk.out _ H1.out.1).mono ?_; rintro e w2 ⟨rfl, b2⟩) | (go_at_call 86; refine (HN.out _ H3.out.1).mono ?_; rintro e w4 ⟨_, rfl, ⟨rfl, jj, s4⟩, t4⟩; obtain ⟨⟨x0, x1⟩, hz⟩ := Hex.out _ (H3.out.2.2.trans t4); have H4 := hide' (And.intro s4 (H3.out.2.1.trans t4)); clear s4 t4))
      go_region_held3 (fun w' => w'.cell? ⟨w.heap.size, 0, none⟩ = some (.int .i64 (T.g i).l) ∧ w'.cell? ⟨w.heap.size, 1, none⟩ = some (.int .i64 (T.g i).c)) (first | go_keep | (obtain ⟨k1, k2⟩ := ‹_ ∧ _›; exact ⟨below_keeps ‹Below _ _ _› k1, below_keeps ‹Below _ _ _› k2⟩))
        (first | (go_at_call 87; refine (escapeWord_any (H4.out.1).drew i hi).mono ?_; rintro e w8 ⟨rfl, b8⟩) | (go_at_call 58; refine (pfault_any _ _ _ _ _).mono ?_; rintro e w9 ⟨fb, rfl, hfb, hflt, b9⟩))
      go_wp2
      go_ret2
      have hb8 : Below w4.heap.size w4 w8 := ⟨b8.os, b8.tape, b8.output, b8.size, b8.block⟩
      refine ⟨_, rfl, ?_, ((H4.out.2).trans (turn_below hb8)).trans (turn_below b9)⟩
      unfold EscIs
      rw [hesc0.out]
      exact ⟨fb, rfl, by have := hb8.size; omega, hflt⟩
  · have e3 : (r == 117) = false := by simpa using h3
    rw [if_neg h3] at hesc0
    clear hlt h1 h1' h3
    go_wp2_with (first | (go_at_call 75; refine (pass_any H0.out.1 hi).mono ?_; rintro e w1 ⟨rfl, s1, t1⟩; obtain ⟨⟨x0, x1⟩, hz⟩ := Hex.out _ t1; have H1 := hide' (And.intro s1 (H0.out.2.trans t1)); clear s1 t1) | (go_at_call 49; refine (HPk.out _ H1.out.1).mono ?_; rintro e w2 ⟨rfl, b2⟩; have y0 := below_keeps b2 x0; have y1 := below_keeps b2 x1; have hz2 := b2.size))
    go_region_held3 (fun w' => w'.cell? ⟨w.heap.size, 0, none⟩ = some (.int .i64 (T.g i).l) ∧ w'.cell? ⟨w.heap.size, 1, none⟩ = some (.int .i64 (T.g i).c)) (first | go_keep | (obtain ⟨k1, k2⟩ := ‹_ ∧ _›; exact ⟨below_keeps ‹Below _ _ _› k1, below_keeps ‹Below _ _ _› k2⟩))
      (first | (go_at_call 87; refine (escapeWord_any (H1.out.1.below b2).drew i hi).mono ?_; rintro e w8 ⟨rfl, b8⟩) | (go_at_call 58; refine (pfault_any _ _ _ _ _).mono ?_; rintro e w9 ⟨fb, rfl, hfb, hflt, b9⟩))
    go_wp2
    go_ret2
    have hb8 : Below w2.heap.size w2 w8 := ⟨b8.os, b8.tape, b8.output, b8.size, b8.block⟩
    refine ⟨_, rfl, ?_, ((H1.out.2.trans (turn_below b2)).trans (turn_below hb8)).trans (turn_below b9)⟩
    unfold EscIs
    rw [hesc0.out]
    exact ⟨fb, rfl, by have := hb8.size; omega, hflt⟩
end Go.Proofs.YtpnkfbmdpgdbcaaGreatDoor
