import Derived.Test.YtnlopepbcnegbaaGreatDoorWhile
set_option linter.unusedVariables false
set_option linter.unusedSimpArgs false
namespace Go.Proofs.YtnlopepbcnegbaaGreatDoor
open Go.RowKit
theorem tells_blank : Tells 69 L.isBlank := ⟨enters_of Tryz.func69 (by kernel_rfl) rfl, isBlank_any, by decide⟩
theorem tells_line : Tells 70 L.inLine := ⟨enters_of Tryz.func70 (by kernel_rfl) rfl, inLine_any, by decide⟩
theorem tells_word : Tells 72 L.inWord := ⟨enters_of Tryz.func72 (by kernel_rfl) rfl, inWord_any, by decide⟩
theorem tells_run : Tells 73 L.inRun := ⟨enters_of Tryz.func73 (by kernel_rfl) rfl, inRun_any, by decide⟩
theorem tells_hex : Tells 90 L.isHex := ⟨enters_of Tryz.func90 (by kernel_rfl) rfl, isHex_any, by decide⟩

set_option maxRecDepth 100000 in
theorem clone_any (s : ByteArray) (w : World) (hlim : s.size ≤ 65536) :
    Calls Tryz.prog 47 #[.string s] w fun e w' => e = .returned (.string s) ∧ Below w.heap.size w w' := by
  go_enter Tryz.func47, Tryz.ntmps47
  go_wp2_with (go_at_call 67; refine (sh.stringslite_Clone _ _ (by omega)).mono ?_; rintro e w1 ⟨rfl, b1⟩)
  go_ret
  exact ⟨rfl, b1⟩

/-- what stands from one character up to another -/
def Tx.txt (T : Tx) (i j : Nat) : ByteArray := T.s.extract (T.g i).a (T.g j).a
theorem Tx.Ok.mono {T : Tx} (h : T.Ok) {i j : Nat} (hij : i ≤ j) (hj : j ≤ T.N) : (T.g i).a ≤ (T.g j).a := by
  induction j with
  | zero => obtain rfl : i = 0 := by omega
            exact Nat.le_refl _
  | succ j ih =>
    by_cases e : i = j + 1
    · rw [e]; exact Nat.le_refl _
    · have := ih (by omega) (by omega)
      have st := (h.good.step j (by omega)).1
      show (L.g T.C i).a ≤ (L.g T.C (j + 1)).a
      have : (L.g T.C i).a ≤ (L.g T.C j).a := this
      omega
theorem Tx.Ok.le_size {T : Tx} (h : T.Ok) {j : Nat} (hj : j ≤ T.N) : (T.g j).a ≤ T.s.size := by
  have := h.mono hj (Nat.le_refl _)
  have e : (T.g T.N).a = T.s.size := h.good.last.2.1
  omega
theorem lt_of_cell {w : World} {p : Addr} {v : Value} (h : w.cell? p = some v) : p.block < w.heap.size := by
  rcases Nat.lt_or_ge p.block w.heap.size with q | q
  · exact q
  · rw [World.cell?, Array.getElem?_eq_none q] at h; cases h
theorem below_keeps {w W : World} (bw : Below w.heap.size w W) {p : Addr} {v : Value} (h : w.cell? p = some v) : W.cell? p = some v := (bw.cell (lt_of_cell h)).trans h
set_option maxRecDepth 100000 in
set_option maxHeartbeats 1000000 in
theorem bytes_any {T : Tx} {w : World} {S : Nat → Prop} (ok : T.Ok) (inn : T.In S w) (i j : Nat) (hij : i ≤ j) (hj : j ≤ T.N) :
    Calls Tryz.prog 76 #[.agg #[.string T.s, T.rv, T.sv], .int .i64 (i : Int), .int .i64 (j : Int)] w fun e w' => e = .returned (.string (T.txt i j)) ∧ Below w.heap.size w w' := by
  have h1 := ok.mono hij hj
  have h2 := ok.le_size hj
  have h3 := ok.small
  obtain ⟨hS, hl, hc⟩ := inn.start
  have ci := hc i (by omega)
  have cj := hc j hj
  unfold Tx.txt Tx.sv
  generalize T.rv = rv
  generalize T.sb = sb at *
  generalize T.sc = sc
  have hfew := ok.few
  clear inn hc ok
  obtain ⟨ai, hai⟩ : ∃ x, (T.g i).a = x := ⟨_, rfl⟩
  obtain ⟨aj, haj⟩ : ∃ x, (T.g j).a = x := ⟨_, rfl⟩
  rw [hai] at h1 ci ⊢
  rw [haj] at h1 h2 cj ⊢
  have hsz : Hid ((T.s.extract ai aj).size ≤ 65536) := by show _ ≤ _; rw [ByteArray.size_extract]; omega
  have kc : ∀ k, ∀ v, (w.cell? ⟨sb, k, none⟩ = some v) → ((w.alloc (.cells #[.string T.s, rv, .slice (some ⟨sb, 0, none⟩) (T.N + 1) sc] 70)).cell? ⟨sb, k, none⟩ = some v) := fun k v h => by
    rw [World.cell?_of_block (Below.heap_alloc w _ sb hl)]; exact h
  have ci' := kc _ _ ci
  have cj' := kc _ _ cj
  clear kc ci cj hai haj
  have z1 : (0 : Int) ≤ (i : Int) := by omega
  have z2 : (i : Int) < ((T.N + 1 : Nat) : Int) := by omega
  have z3 : (0 : Int) ≤ (j : Int) := by omega
  have z4 : (j : Int) < ((T.N + 1 : Nat) : Int) := by omega
  have z5 : (i : Int) < (T.N : Int) + 1 := by omega
  have z6 : (j : Int) < (T.N : Int) + 1 := by omega
  go_enter Tryz.func76, Tryz.ntmps76
  go_wp2
  go_region_held3 (fun w' => w'.cell? ⟨w.heap.size, 0, none⟩ = some (.string T.s) ∧ w'.cell? ⟨w.heap.size, 2, none⟩ = some (.slice (some ⟨sb, 0, none⟩) (T.N + 1) sc) ∧ w'.cell? ⟨sb, i, none⟩ = some (.int .i64 (ai : Int)) ∧ w'.cell? ⟨sb, j, none⟩ = some (.int .i64 (aj : Int))) (first | go_keep | (obtain ⟨k1, k2, k3, k4⟩ := ‹_ ∧ _ ∧ _ ∧ _›; exact ⟨below_keeps ‹Below _ _ _› k1, below_keeps ‹Below _ _ _› k2, below_keeps ‹Below _ _ _› k3, below_keeps ‹Below _ _ _› k4⟩))
    (first | (go_at_call 47; refine (clone_any _ _ hsz.out).mono ?_; rintro e W2 ⟨rfl, bw⟩))
  go_wp2
  go_ret
  have b0 : Below w.heap.size w (w.alloc (.cells #[.string T.s, rv, .slice (some ⟨sb, 0, none⟩) (T.N + 1) sc] 70)).drew := ((Below.refl _ _).alloc (Nat.le_refl _) _).drew
  exact ⟨rfl, b0.trans (bw.mono b0.size)⟩

theorem bytes_at {T : Tx} {w : World} {S : Nat → Prop} (ok : T.Ok) (inn : T.In S w) (i j : Nat) (x y : Int) (hx : x = (i : Int)) (hy : y = (j : Int)) (hij : i ≤ j) (hj : j ≤ T.N) :
    Calls Tryz.prog 76 #[.agg #[.string T.s, T.rv, T.sv], .int .i64 x, .int .i64 y] w fun e w' => e = .returned (.string (T.txt i j)) ∧ Below w.heap.size w w' := by
  rw [hx, hy]; exact bytes_any ok inn i j hij hj
theorem Tx.In.drew {T : Tx} {S : Nat → Prop} {w : World} (h : T.In S w) : T.In S w.drew := h.turn (Turn.refl _ _).drew


set_option maxRecDepth 100000 in
set_option maxHeartbeats 1000000 in
theorem take_any {T : Tx} {b i : Nat} {w : World} (h : Scn T b i w) (hi : i < T.N) :
    Calls Tryz.prog 56 #[.pointer (some ⟨b, 0, none⟩)] w fun e w' => e = .returned (.string (T.txt i (i + 1))) ∧ Scn T b (i + 1) w' ∧ Turn (fun k => k = b) w w' := by
  have c3 := h.c3
  have HP := hide' (pass_any h hi)
  clear h
  obtain ⟨j, hj⟩ : ∃ j, i + 1 = j := ⟨_, rfl⟩
  rw [hj] at HP ⊢
  go_enter Tryz.func56, Tryz.ntmps56
  go_wp2_with (go_at_call 75; refine HP.out.mono ?_; rintro e w1 ⟨rfl, s1, t1⟩)
  have d0 := s1.c0
  have d1 := s1.c1
  have d2 := s1.c2
  have d3 := s1.c3
  have H1 := hide' (And.intro s1 t1)
  clear s1 t1
  go_region_held3 (fun w' => w'.cell? ⟨b, 0, none⟩ = some (.string T.s) ∧ w'.cell? ⟨b, 1, none⟩ = some T.rv ∧ w'.cell? ⟨b, 2, none⟩ = some T.sv ∧ w'.cell? ⟨b, 3, none⟩ = some (.int .i64 (j : Int))) (first | go_keep | (obtain ⟨k1, k2, k3, k4⟩ := ‹_ ∧ _ ∧ _ ∧ _›; exact ⟨below_keeps ‹Below _ _ _› k1, below_keeps ‹Below _ _ _› k2, below_keeps ‹Below _ _ _› k3, below_keeps ‹Below _ _ _› k4⟩))
    (first | (go_at_call 76; refine (bytes_at H1.out.1.ok H1.out.1.inn.drew i j _ _ rfl rfl (by omega) (by omega)).mono ?_; rintro e W2 ⟨rfl, bw⟩))
  go_wp2
  go_ret
  have bw' : Below w1.heap.size w1 W2 := ⟨bw.os, bw.tape, bw.output, bw.size, bw.block⟩
  exact ⟨rfl, H1.out.1.below bw', H1.out.2.trans (turn_below bw')⟩

set_option maxRecDepth 100000 in
set_option maxHeartbeats 1000000 in
theorem takeWhile_any {T : Tx} {b i : Nat} {w : World} (h : Scn T b i w) {f : Nat} {p : Int → Bool} (t : Tells f p) :
    Calls Tryz.prog 71 #[.pointer (some ⟨b, 0, none⟩), .func (.func f) #[] #[]] w fun e w' => e = .returned (.string (T.txt i (T.skp p i))) ∧ Scn T b (T.skp p i) w' ∧ Turn (fun k => k = b) w w' := by
  have c3 := h.c3
  have hsk := h.ok.skp_le t i h.le
  have H := hide' (And.intro h t)
  clear h t
  obtain ⟨j, hj⟩ : ∃ j, T.skp p i = j := ⟨_, rfl⟩
  have HP := hide' (passWhile_any H.out.1 H.out.2)
  rw [hj] at hsk HP ⊢
  go_enter Tryz.func71, Tryz.ntmps71
  go_wp2_with (go_at_call 68; refine HP.out.mono ?_; rintro e w1 ⟨rfl, s1, t1⟩)
  have d0 := s1.c0
  have d1 := s1.c1
  have d2 := s1.c2
  have d3 := s1.c3
  have H1 := hide' (And.intro s1 t1)
  clear s1 t1
  go_region_held3 (fun w' => w'.cell? ⟨b, 0, none⟩ = some (.string T.s) ∧ w'.cell? ⟨b, 1, none⟩ = some T.rv ∧ w'.cell? ⟨b, 2, none⟩ = some T.sv ∧ w'.cell? ⟨b, 3, none⟩ = some (.int .i64 (j : Int))) (first | go_keep | (obtain ⟨k1, k2, k3, k4⟩ := ‹_ ∧ _ ∧ _ ∧ _›; exact ⟨below_keeps ‹Below _ _ _› k1, below_keeps ‹Below _ _ _› k2, below_keeps ‹Below _ _ _› k3, below_keeps ‹Below _ _ _› k4⟩))
    (first | (go_at_call 76; refine (bytes_at H1.out.1.ok H1.out.1.inn.drew i j _ _ rfl rfl (by omega) (by omega)).mono ?_; rintro e W2 ⟨rfl, bw⟩))
  go_wp2
  go_ret
  have bw' : Below w1.heap.size w1 W2 := ⟨bw.os, bw.tape, bw.output, bw.size, bw.block⟩
  exact ⟨rfl, H1.out.1.below bw', H1.out.2.trans (turn_below bw')⟩
end Go.Proofs.YtnlopepbcnegbaaGreatDoor
