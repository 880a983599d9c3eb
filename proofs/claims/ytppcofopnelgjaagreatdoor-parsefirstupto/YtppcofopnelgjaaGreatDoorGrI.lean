import Derived.Test.YtppcofopnelgjaaGreatDoorGrH
import Derived.Test.YtppcofopnelgjaaGreatDoorRRo
import Derived.Test.YtppcofopnelgjaaGreatDoorRFa
import Derived.Test.YtppcofopnelgjaaGreatDoorFun
import Derived.Test.YtppcofopnelgjaaGreatDoorAlP
set_option linter.unusedVariables false
set_option linter.unusedSimpArgs false
namespace Go.Proofs.YtppcofopnelgjaaGreatDoor
open Go.RowKit
theorem R.src_len (l : List R.Tok) : (R.src l).l.length ≤ l.length := by
  induction l with
  | nil => exact Nat.le_refl _
  | cons x l ih =>
    unfold R.src
    split
    · simp
    · simp; exact ih
/-- what Decls tells -/
def DeclsIs (l : List R.Tok) (w : World) (e : Ending) (w' : World) : Prop :=
  match R.decls l with
  | .ok ds _ => ∃ (ps : List (R.Dc × Value)) (v : Value), e = .returned (.tuple #[v, .nilIface]) ∧ ds = ps.map Prod.fst ∧ Dcs w.heap.size ps v w'
  | .bad j c => ∃ fb, e = .returned (.tuple #[.slice none 0 0, .iface 72 (.pointer (some ⟨fb, 0, none⟩))]) ∧ w.heap.size ≤ fb ∧ Flt fb c ((R.src l).at j).2.2.1 ((R.src l).at j).2.2.2 ((R.src l).at j).2.1 w'
theorem Turn.belowW {b : Nat} {w w' : World} (t : Turn (fun k => k = b) w w') {B : Nat} (hb : B ≤ b) (hB : B ≤ w.heap.size) : Below B w w' := t.below (fun k q => by omega) hB
theorem one_cell {g : Nat} {w : World} {x : Value} {t : TypeId} (h : w.heap[g]? = some (.cells #[x] t (0, 0))) : w.cell? ⟨g, 0, none⟩ = some x ∧ w.frozen? ⟨g, 0, none⟩ = false := ⟨by rw [Lib.cell_of_heap h]; rfl, Lib.frozen_of_heap h 0⟩
set_option maxRecDepth 100000 in
set_option maxHeartbeats 8000000 in
theorem decls_any (l : List R.Tok) (ao : Option Addr) (cap B : Nat) (w : World) (hc : l.length ≤ cap) (ok : TkOk l) (ht : Toks l ao (fun _ => False) w) (hT : TbB B w) :
    Calls Tryz.prog 19 #[.slice ao l.length cap] w fun e w' => DeclsIs l w e w' ∧ Below w.heap.size w w' := by
  have hmf : ∀ (fn : Fn) (first cap : Array Value) (w : World), (Instr.makeFunc fn first cap).run Tryz.prog w = .ok (.func fn first cap) w := fun _ _ _ _ => rfl
  have hBw := hT.le
  have H := hide' (And.intro ok (And.intro ht hT))
  have HR := hide' fun w (ht : Toks l ao (fun _ => False) w) => readerOf_any l ao cap w hc ok ht
  have HX := hide' fun b w (h : Rdr (R.src l) ao cap b 0 w) (hT : TbB B w) (hB : B ≤ b) => text_any h hT hB (l.length + 1) (by have := R.src_len l; omega)
  have hsm : Hid (∀ j, ((R.src l).at j).2.1.size ≤ 281474976710656 ∨ ¬ ∃ b w, Rdr (R.src l) ao cap b 0 w) := fun j => by
    by_cases q : ∃ b w, Rdr (R.src l) ao cap b 0 w
    · obtain ⟨b, w, q⟩ := q
      have := q.ok.small j
      unfold R.lim at this
      exact Or.inl (by omega)
    · exact Or.inr q
  unfold DeclsIs R.decls
  clear ok ht hT
  cases hn : (R.src l).text (l.length + 1) [] 0 with
  | ok ds j =>
    rw [hn] at HX
    unfold RdIs encT at HX
    simp only at HX ⊢
    go_enter_defers Tryz.func19, Tryz.ntmps19
    go_wp2_with (first | (go_at_call 37; refine (HR.out _ (H.out.2.1.below ((Below.refl _ _).alloc (Nat.le_refl _) _))).mono ?_; rintro e w1 ⟨b, rfl, hb, hr1, b1⟩; have g0 := new_kept b1; have R1 := hide' (And.intro hr1 (And.intro b1 g0)); have hb' : w.heap.size < b := (by simp at hb; omega); clear hb hr1 b1 g0) | (go_at_call 38; refine (HX.out _ _ R1.out.1 ((H.out.2.2.alloc _).below R1.out.2.1) (by omega)).mono ?_; rintro e w2 ⟨⟨v, rfl, ps, hps, hd⟩, hr2, ht2⟩; have g2 := (ht2.block w.heap.size (by have := R1.out.2.1.size; simp at this; omega) (by omega)).trans R1.out.2.2; obtain ⟨c2, f2⟩ := one_cell g2; have R2 := hide' (And.intro hps (And.intro hd (And.intro ht2 g2))); clear hps hd hr2 ht2 g2))
    refine leaves_cons (f := 35) (args := #[.pointer (some ⟨w.heap.size, 0, none⟩)]) (by simp) (by simp [go_sem]) ?_
    refine (catch_idle _ _).mono ?_
    rintro e u' w3 ⟨rfl, rfl, rfl⟩
    obtain ⟨hps, hd, ht2, g2⟩ := R2.out
    have bb := old_kept R1.out.2.1
    have hz := R1.out.2.1.size
    simp at hz
    have ts : Turn (fun k => k = w.heap.size) w2 (w2.setCell ⟨w.heap.size, 0, none⟩ .nilIface) := (Turn.refl (fun k => k = w.heap.size) w2).setCell (p := ⟨w.heap.size, 0, none⟩) (fun _ => rfl) _
    have cW : (w2.setCell ⟨w.heap.size, 0, none⟩ .nilIface).cell? ⟨w.heap.size, 0, none⟩ = some .nilIface := World.cell?_setCell_same' _ _ _ (by rw [c2]; rfl)
    have hd2 := hd.turn ts (fun k q e => by omega)
    have bel : Below w.heap.size w (w2.setCell ⟨w.heap.size, 0, none⟩ .nilIface) := (bb.trans (ht2.belowW (by omega) bb.size)).trans (ts.belowW (Nat.le_refl _) (by have := bb.size; have := ht2.size; omega))
    generalize w2.setCell ⟨w.heap.size, 0, none⟩ .nilIface = W at *
    have fin : (∃ (ps : List (R.Dc × Value)) (v' : Value), Ending.returned (.tuple #[v, .nilIface]) = .returned (.tuple #[v', .nilIface]) ∧ ds = ps.map Prod.fst ∧ Dcs w.heap.size ps v' W) ∧ Below w.heap.size w W :=
      ⟨⟨ps, v, rfl, hps, ⟨row_mono hd2.row bb.size, fun p hp => row_mono (hd2.names p hp) bb.size, hd2.sep⟩⟩, bel⟩
    simp [Leaves, settle, results, Tryz.results19, go_sem, cW]
    simpa using fin
  | bad j c =>
    rw [hn] at HX
    unfold RdIs at HX
    simp only at HX ⊢
    go_enter_defers Tryz.func19, Tryz.ntmps19
    go_wp2_with (first | (go_at_call 37; refine (HR.out _ (H.out.2.1.below ((Below.refl _ _).alloc (Nat.le_refl _) _))).mono ?_; rintro e w1 ⟨b, rfl, hb, hr1, b1⟩; have g0 := new_kept b1; have R1 := hide' (And.intro hr1 (And.intro b1 g0)); have hb' : w.heap.size < b := (by simp at hb; omega); clear hb hr1 b1 g0) | (go_at_call 38; refine (HX.out _ _ R1.out.1 ((H.out.2.2.alloc _).below R1.out.2.1) (by omega)).mono ?_; rintro e w2 ⟨rfl, ht2⟩; have g2 := (ht2.block w.heap.size (by have := R1.out.2.1.size; simp at this; omega) (by omega)).trans R1.out.2.2; obtain ⟨c2, f2⟩ := one_cell g2; have R2 := hide' (And.intro ht2 g2); clear ht2 g2))
    refine leaves_cons (f := 35) (args := #[.pointer (some ⟨w.heap.size, 0, none⟩)]) (by simp) (by simp [go_sem]) ?_
    have hs9 : ((R.src l).at j).2.1.size ≤ 281474976710656 := by
      rcases hsm.out j with q | q
      · exact q
      · exact absurd ⟨b, w1, R1.out.1⟩ q
    refine (catch_panicking ⟨w.heap.size, 0, none⟩ _ c hs9 [] _ _ c2 f2).mono ?_
    rintro e u' w3 ⟨rfl, rfl, fb, hfb, hflt, hcell, ht3⟩
    obtain ⟨ht2, g2⟩ := R2.out
    have bb := old_kept R1.out.2.1
    have hz := R1.out.2.1.size
    simp at hz
    have bel : Below w.heap.size w w3 := (bb.trans (ht2.belowW (by omega) bb.size)).trans (ht3.belowW (Nat.le_refl _) (by have := bb.size; have := ht2.size; omega))
    have fin : (∃ fb', Ending.returned (.tuple #[.slice none 0 0, .iface 72 (.pointer (some ⟨fb, 0, none⟩))]) = .returned (.tuple #[.slice none 0 0, .iface 72 (.pointer (some ⟨fb', 0, none⟩))]) ∧ w.heap.size ≤ fb' ∧ Flt fb' c ((R.src l).at j).2.2.1 ((R.src l).at j).2.2.2 ((R.src l).at j).2.1 w3) ∧ Below w.heap.size w w3 :=
      ⟨⟨fb, rfl, by have := bb.size; have := ht2.size; omega, hflt⟩, bel⟩
    simp [Leaves, settle, results, Tryz.results19, go_sem, hcell]
    simpa using fin
end Go.Proofs.YtppcofopnelgjaaGreatDoor
set_option linter.unusedVariables false
set_option linter.unusedSimpArgs false
namespace Go.Proofs.YtppcofopnelgjaaGreatDoor
open Go.RowKit
/-- a row of tokens, one by one -/
theorem rows_at {w : World} {B : Nat} {v : Value} {r : List Tkn} (h : w.ownsRow B 44 4 v r.length (r.flatMap cells4)) (h0 : r ≠ []) :
    ∃ g cap, v = .slice (some ⟨g, 0, none⟩) r.length cap ∧ r.length ≤ cap ∧ B ≤ g ∧ g < w.heap.size ∧ ∀ i x, r[i]? = some x → w.cell? ⟨g, i * 4, none⟩ = some (.int .i8 x.1) ∧ w.cell? ⟨g, i * 4 + 1, none⟩ = some (.string x.2.1) ∧ w.cell? ⟨g, i * 4 + 2, none⟩ = some (.int .i64 x.2.2.1) ∧ w.cell? ⟨g, i * 4 + 3, none⟩ = some (.int .i64 x.2.2.2) := by
  rcases h.2 with ⟨_, h2⟩ | ⟨g, cap, cur, hv, hB, hg, hc, hrest⟩
  · exact absurd (List.eq_nil_of_length_eq_zero h2) h0
  · subst hv
    have hcells := h.cells rfl
    have hlt := (h.lt g rfl).2
    refine ⟨g, cap, rfl, hc, hB, hlt, fun i x hx => ?_⟩
    have hat : ∀ k, k < 4 → (r.flatMap cells4)[i * 4 + k]? = (cells4 x)[k]? := by
      clear hcells h hlt hc hrest
      induction r generalizing i with
      | nil => simp at hx
      | cons y ys ih =>
        intro k hk
        cases i with
        | zero =>
          simp only [List.getElem?_cons_zero, Option.some.injEq] at hx
          subst hx
          rw [List.flatMap_cons, Nat.zero_mul, Nat.zero_add, List.getElem?_append_left (by simp [cells4]; omega)]
        | succ i =>
          rw [List.getElem?_cons_succ] at hx
          rw [List.flatMap_cons, List.getElem?_append_right (by simp [cells4]; omega)]
          have hys : ys ≠ [] := fun e => by rw [e] at hx; simp at hx
          have := ih hys i hx k hk
          rw [← this]
          congr 1
          simp [cells4]; omega
    have g0 := hcells (i * 4) _ (by rw [show i * 4 = i * 4 + 0 by omega, hat 0 (by omega)]; rfl)
    have g1 := hcells (i * 4 + 1) _ (by rw [hat 1 (by omega)]; rfl)
    have g2 := hcells (i * 4 + 2) _ (by rw [hat 2 (by omega)]; rfl)
    have g3 := hcells (i * 4 + 3) _ (by rw [hat 3 (by omega)]; rfl)
    rw [addr_add] at g0 g1 g2 g3
    exact ⟨g0, g1, g2, g3⟩

theorem toks_of_rows {w : World} {g : Nat} {r : List R.Tok} (hl : g < w.heap.size) (h : ∀ i x, r[i]? = some x → w.cell? ⟨g, i * 4, none⟩ = some (.int .i8 x.1) ∧ w.cell? ⟨g, i * 4 + 1, none⟩ = some (.string x.2.1) ∧ w.cell? ⟨g, i * 4 + 2, none⟩ = some (.int .i64 x.2.2.1) ∧ w.cell? ⟨g, i * 4 + 3, none⟩ = some (.int .i64 x.2.2.2)) :
    Toks r (some ⟨g, 0, none⟩) (fun _ => False) w := by
  intro j t hj
  obtain ⟨q0, q1, q2, q3⟩ := h j t hj
  exact ⟨g, 0, rfl, fun q => q, hl, by simpa using q0, by simpa using q1, by simpa using q2, by simpa using q3⟩
theorem DeclsIs.mono {l : List R.Tok} {w w1 w' : World} {e : Ending} (h : DeclsIs l w1 e w') (hz : w.heap.size ≤ w1.heap.size) : DeclsIs l w e w' := by
  unfold DeclsIs at h ⊢
  cases hd : R.decls l with
  | ok ds j =>
    rw [hd] at h
    obtain ⟨ps, v, h1, h2, h3⟩ := h
    exact ⟨ps, v, h1, h2, ⟨row_mono h3.row hz, fun p hp => row_mono (h3.names p hp) hz, h3.sep⟩⟩
  | bad j c =>
    rw [hd] at h
    obtain ⟨fb, h1, h2, h3⟩ := h
    exact ⟨fb, h1, by omega, h3⟩
theorem DeclsIs.tuple {l : List R.Tok} {w w' : World} {e : Ending} (h : DeclsIs l w e w') : ∃ v u, e = .returned (.tuple #[v, u]) := by
  unfold DeclsIs at h
  cases hd : R.decls l with
  | ok ds j => rw [hd] at h; obtain ⟨ps, v, h1, _⟩ := h; exact ⟨_, _, h1⟩
  | bad j c => rw [hd] at h; obtain ⟨fb, h1, _⟩ := h; exact ⟨_, _, h1⟩
set_option maxRecDepth 100000 in
set_option maxHeartbeats 4000000 in
theorem parse_scan (s : ByteArray) (hs : s.size ≤ 65536) (r : List R.Tok) (hscn : L.scn s = (r, none)) (hr : r ≠ []) (ok : TkOk r) (B : Nat) (w : World) (hT : TbB B w) :
    Calls Tryz.prog 13 #[.string s] w fun e w' => DeclsIs r w e w' ∧ Below w.heap.size w w' := by
  have HS := hide' fun w => scan_fun s w hs
  rw [hscn] at HS
  unfold ScanIs at HS
  simp only at HS
  have H := hide' (And.intro ok hT)
  have HD := hide' fun g cap w hc ht hT => decls_any r (some ⟨g, 0, none⟩) cap B w hc ok ht hT
  clear hscn ok hT hs
  go_enter Tryz.func13, Tryz.ntmps13
  go_wp2_with (first | (go_at_call 26; refine (HS.out _).mono ?_; rintro e w1 ⟨⟨sv, rfl, hrow⟩, b1⟩; obtain ⟨g, cap, rfl, hc, hB, hl, hrr⟩ := rows_at hrow hr; have R1 := hide' (And.intro (toks_of_rows hl hrr) (And.intro hc b1)); clear hrr hrow hc b1) | (go_at_call 19; refine (HD.out _ _ _ R1.out.2.1 R1.out.1 (H.out.2.below R1.out.2.2)).mono ?_; rintro e w2 ⟨hd, b2⟩; obtain ⟨v, u, rfl⟩ := hd.tuple; have R2 := hide' (And.intro hd b2); clear hd b2))
  go_ret2
  exact ⟨R2.out.1.mono R1.out.2.2.size, R1.out.2.2.trans (R2.out.2.mono R1.out.2.2.size)⟩
theorem alive_ok : TkOk aliveK := ⟨by unfold R.lim; decide, by
  have : ∀ t ∈ aliveK, t.2.1.size ≤ 10 := by decide
  intro t ht
  have := this t ht
  unfold R.lim; omega⟩
theorem parse_alive (B : Nat) (w : World) (hT : TbB B w) :
    Calls Tryz.prog 13 #[.string aliveT] w fun e w' => (∃ (ps : List (R.Dc × Value)) (v : Value), e = .returned (.tuple #[v, .nilIface]) ∧ aliveD = ps.map Prod.fst ∧ Dcs w.heap.size ps v w') ∧ Below w.heap.size w w' := by
  refine (parse_scan aliveT (by decide) aliveK alive_scn (by decide) alive_ok B w hT).mono ?_
  rintro e w' ⟨h, b⟩
  unfold DeclsIs at h
  rw [alive_decls] at h
  exact ⟨h, b⟩
end Go.Proofs.YtppcofopnelgjaaGreatDoor
