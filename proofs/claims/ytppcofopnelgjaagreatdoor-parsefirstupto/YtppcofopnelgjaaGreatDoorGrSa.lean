import Derived.Test.YtppcofopnelgjaaGreatDoorLeaf
import Derived.Test.YtppcofopnelgjaaGreatDoorTurn
import Derived.Test.YtppcofopnelgjaaGreatDoorShelf
import Derived.BigQuiet
import Derived.Deep.RegionWith
import Derived.Lib.OthersKept
import Derived.Deep.RegionHeld3
set_option linter.unusedVariables false
set_option linter.unusedSimpArgs false
namespace Go.Proofs.YtppcofopnelgjaaGreatDoor
open Go.RowKit

/-- a text, its characters, and where their rows lie -/
structure Tx where
  s : ByteArray
  C : List L.Cx
  N : Nat
  ro : Option Addr
  rc : Nat
  sb : Nat
  sc : Nat
def Tx.g (T : Tx) (i : Nat) : L.Cx := L.g T.C i
def Tx.rv (T : Tx) : Value := .slice T.ro T.N T.rc
def Tx.sv (T : Tx) : Value := .slice (some ⟨T.sb, 0, none⟩) (T.N + 1) T.sc
/-- what the rows hold -/
structure Tx.Ok (T : Tx) : Prop where
  good : L.Good T.s T.C T.N 0 (1, 1)
  small : T.s.size ≤ 65536
  cap : T.N ≤ T.rc
/-- the rows lie there, in blocks of which a class holds none -/
structure Tx.In (T : Tx) (S : Nat → Prop) (w : World) : Prop where
  rune : ∀ j, j < T.N → ∃ rb, T.ro = some ⟨rb, 0, none⟩ ∧ ¬ S rb ∧ rb < w.heap.size ∧ w.cell? ⟨rb, j, none⟩ = some (.int .i32 (T.g j).r)
  start : ¬ S T.sb ∧ T.sb < w.heap.size ∧ ∀ j, j ≤ T.N → w.cell? ⟨T.sb, j, none⟩ = some (.int .i64 ((T.g j).a : Int))
theorem Tx.In.turn {T : Tx} {S : Nat → Prop} {w w' : World} (h : T.In S w) (t : Turn S w w') : T.In S w' := by
  refine ⟨fun j hj => ?_, h.start.1, Nat.lt_of_lt_of_le h.start.2.1 t.size, fun j hj => ?_⟩
  · obtain ⟨rb, e, hS, hl, hc⟩ := h.rune j hj
    exact ⟨rb, e, hS, Nat.lt_of_lt_of_le hl t.size, (t.cell (p := ⟨rb, j, none⟩) hl hS).trans hc⟩
  · exact (t.cell (p := ⟨T.sb, j, none⟩) h.start.2.1 h.start.1).trans (h.start.2.2 j hj)
theorem Tx.In.mono {T : Tx} {S S' : Nat → Prop} {w : World} (h : T.In S w) (hS : ∀ k, k < w.heap.size → S' k → S k) : T.In S' w :=
  ⟨fun j hj => by obtain ⟨rb, e, q, hl, hc⟩ := h.rune j hj; exact ⟨rb, e, fun k => q (hS _ hl k), hl, hc⟩, fun k => h.start.1 (hS _ h.start.2.1 k), h.start.2⟩
/-- THE SCANNER AT BLOCK b STANDS IN FRONT OF CHARACTER i -/
structure Scn (T : Tx) (b i : Nat) (w : World) : Prop where
  ok : T.Ok
  le : i ≤ T.N
  lt : b < w.heap.size
  c0 : w.cell? ⟨b, 0, none⟩ = some (.string T.s)
  c1 : w.cell? ⟨b, 1, none⟩ = some T.rv
  c2 : w.cell? ⟨b, 2, none⟩ = some T.sv
  c3 : w.cell? ⟨b, 3, none⟩ = some (.int .i64 (i : Int))
  c4 : w.cell? ⟨b, 4, none⟩ = some (.int .i64 (T.g i).l)
  c5 : w.cell? ⟨b, 5, none⟩ = some (.int .i64 (T.g i).c)
  f : ∀ k, k < 6 → w.frozen? ⟨b, k, none⟩ = false
  inn : T.In (fun k => k = b) w
theorem Scn.far {T : Tx} {b i : Nat} {w w' : World} (h : Scn T b i w) {S : Nat → Prop} (t : Turn S w w') (hS : ∀ k, k < w.heap.size → ¬ S k) : Scn T b i w' := by
  have t' : Turn (fun _ => False) w w' := t.mono fun k hk q => hS k hk q
  have hb : ¬ False := id
  refine ⟨h.ok, h.le, Nat.lt_of_lt_of_le h.lt t.size, (t'.cell h.lt hb).trans h.c0, (t'.cell h.lt hb).trans h.c1, (t'.cell h.lt hb).trans h.c2, (t'.cell h.lt hb).trans h.c3, (t'.cell h.lt hb).trans h.c4, (t'.cell h.lt hb).trans h.c5, fun k hk => ?_, h.inn.turn (t'.mono fun k hk q => q.elim)⟩
  exact (World.frozen?_of_block (w := w) (t'.block b h.lt hb)).trans (h.f k hk)
theorem Scn.below {T : Tx} {b i : Nat} {w w' : World} (h : Scn T b i w) (t : Below w.heap.size w w') : Scn T b i w' :=
  h.far (S := fun _ => False) ⟨t.os, t.tape, t.output, t.size, fun k hk _ => t.block k hk⟩ (fun _ _ q => q)
theorem turn_below {S : Nat → Prop} {w w' : World} (t : Below w.heap.size w w') : Turn S w w' := ⟨t.os, t.tape, t.output, t.size, fun k hk _ => t.block k hk⟩
theorem below_drewN (B : Nat) (w : World) (n : Nat) : Below B w (w.drewN n) := ⟨rfl, rfl, rfl, Nat.le_refl _, fun _ _ => rfl⟩

/-- the character's number that a scanner holds -/
def nextOf (b : Nat) (w : World) : Nat := match w.cell? ⟨b, 3, none⟩ with | some (.int _ n) => n.toNat | _ => 0
theorem nextOf_of {T : Tx} {b i : Nat} {w : World} (h : Scn T b i w) : nextOf b w = i := by simp [nextOf, h.c3]

theorem Tx.Ok.bd {T : Tx} (h : T.Ok) (i : Nat) (hi : i ≤ T.N) : (0 ≤ (T.g i).l ∧ (T.g i).l ≤ 4294967296) ∧ (0 ≤ (T.g i).c ∧ (T.g i).c ≤ 4294967296) := by
  have := h.good.bd i hi
  have f := h.good.few
  have s := h.small
  unfold Tx.g
  simp only at this
  omega
theorem Tx.Ok.few {T : Tx} (h : T.Ok) : T.N ≤ 65536 := by have f := h.good.few; have s := h.small; omega

set_option maxRecDepth 100000 in
set_option maxHeartbeats 1000000 in
theorem peek_any {T : Tx} {b i : Nat} {w : World} (h : Scn T b i w) :
    Calls Tryz.prog 94 #[.pointer (some ⟨b, 0, none⟩)] w fun e w' => e = .returned (.int .i32 (T.g i).r) ∧ Below w.heap.size w w' := by
  have hf := h.ok.few
  obtain ⟨ok, le, lt, c0, c1, c2, c3, c4, c5, f, inn⟩ := h
  unfold Tx.rv at c1
  by_cases hi : i = T.N
  · have e1 : ((i : Int) == (T.N : Int)) = true := by simp; omega
    have hr : Hid ((T.g i).r = -1) := (by rw [hi]; exact ok.good.last.1)
    clear ok inn f hi
    obtain ⟨r, hr'⟩ : ∃ r, (T.g i).r = r := ⟨_, rfl⟩
    rw [hr'] at hr ⊢
    have := hr.out; subst this
    clear hr'
    go_enter Tryz.func94, Tryz.ntmps94
    go_wp2
    go_quiet (fail)
    go_wp2
    go_ret
    exact ⟨rfl, below_drewN _ _ _⟩
  · have e1 : ((i : Int) == (T.N : Int)) = false := by simp; omega
    have hlt : i < T.N := by omega
    obtain ⟨rb, hro, hS, hl, hc⟩ := inn.rune i hlt
    rw [hro] at c1
    clear ok inn f hi hS hl
    go_enter Tryz.func94, Tryz.ntmps94
    go_wp2
    go_quiet (fail)
    go_wp2
    go_quiet (fail)
    go_wp2
    go_ret
    exact ⟨rfl, (below_drewN _ _ _).trans (below_drewN _ _ _)⟩
end Go.Proofs.YtppcofopnelgjaaGreatDoor
set_option linter.unusedVariables false
set_option linter.unusedSimpArgs false
namespace Go.Proofs.YtppcofopnelgjaaGreatDoor
open Go.RowKit

theorem Scn.step {T : Tx} {b i : Nat} {w W2 : World} (h : Scn T b i w) (hi : i < T.N) (bw : Below w.heap.size w W2) (l c : Int) (hlc : (l, c) = L.nxt ((T.g i).l, (T.g i).c) (T.g i).r) :
    Scn T b (i + 1) (((W2.setCell ⟨b, 4, none⟩ (.int .i64 l)).setCell ⟨b, 5, none⟩ (.int .i64 c)).setCell ⟨b, 3, none⟩ (.int .i64 ((i : Int) + 1))) ∧ Turn (fun k => k = b) w (((W2.setCell ⟨b, 4, none⟩ (.int .i64 l)).setCell ⟨b, 5, none⟩ (.int .i64 c)).setCell ⟨b, 3, none⟩ (.int .i64 ((i : Int) + 1))) := by
  have h2 := h.below bw
  have hst := (h.ok.good.step i hi).2.2.2
  obtain ⟨ok, le, lt, c0, c1, c2, c3, c4, c5, f, inn⟩ := h2
  have t2 : Turn (fun k => k = b) W2 (((W2.setCell ⟨b, 4, none⟩ (.int .i64 l)).setCell ⟨b, 5, none⟩ (.int .i64 c)).setCell ⟨b, 3, none⟩ (.int .i64 ((i : Int) + 1))) :=
    (((Turn.refl (fun k => k = b) _).setCell (p := ⟨b, 4, none⟩) (fun _ => rfl) _).setCell (p := ⟨b, 5, none⟩) (fun _ => rfl) _).setCell (p := ⟨b, 3, none⟩) (fun _ => rfl) _
  have hl : (T.g (i + 1)).l = l ∧ (T.g (i + 1)).c = c := by
    have e : ((T.g (i + 1)).l, (T.g (i + 1)).c) = (l, c) := by rw [hlc]; exact hst
    exact ⟨congrArg Prod.fst e, congrArg Prod.snd e⟩
  refine ⟨⟨ok, hi, Nat.lt_of_lt_of_le lt t2.size, ?_, ?_, ?_, ?_, ?_, ?_, fun k hk => ?_, inn.turn t2⟩, (turn_below bw).trans t2⟩
  · go_simp
  · go_simp
  · go_simp
  · go_simp
  · rw [hl.1]; go_simp
  · rw [hl.2]; go_simp
  · simp only [World.frozen?_setCell]; exact f k hk

set_option maxRecDepth 100000 in
set_option maxHeartbeats 1000000 in
theorem pass_any {T : Tx} {b i : Nat} {w : World} (h : Scn T b i w) (hi : i < T.N) :
    Calls Tryz.prog 125 #[.pointer (some ⟨b, 0, none⟩)] w fun e w' => e = .returned (.tuple #[]) ∧ Scn T b (i + 1) w' ∧ Turn (fun k => k = b) w w' := by
  have hf := h.ok.few
  have hbd := h.ok.bd i h.le
  have hst := h.ok.good.step i hi
  have Hs := hide' h
  obtain ⟨ok, le, lt, c0, c1, c2, c3, c4, c5, f, inn⟩ := h
  unfold Tx.rv at c1
  obtain ⟨rb, hro, hS, hl, hc⟩ := inn.rune i hi
  rw [hro] at c1
  have f3 := f 3 (by omega)
  have f4 := f 4 (by omega)
  have f5 := f 5 (by omega)
  have Hst := hide' hst
  clear ok inn f hst
  obtain ⟨X, hX⟩ : ∃ X, T.g i = X := ⟨_, rfl⟩
  rw [hX] at c4 c5 hc hbd
  obtain ⟨XS, Xr, Xl, Xc, Xa⟩ := X
  simp only at c4 c5 hc hbd
  have hne : Hid (rb ≠ b) := hS
  clear hS
  go_enter Tryz.func125, Tryz.ntmps125
  go_wp2
  go_region_with (go_at_call 139; refine (behind_any Xl Xc _ _ hbd.1 hbd.2).mono ?_; rintro e W2 ⟨rfl, bw⟩; have a3 := (bw.cell (p := ⟨b, 3, none⟩) lt).trans c3; have a4 := (bw.cell (p := ⟨b, 4, none⟩) lt).trans c4; have a5 := (bw.cell (p := ⟨b, 5, none⟩) lt).trans c5; have g3 := (bw.frozen (p := ⟨b, 3, none⟩) lt).trans f3; have g4 := (bw.frozen (p := ⟨b, 4, none⟩) lt).trans f4; have g5 := (bw.frozen (p := ⟨b, 5, none⟩) lt).trans f5)
  all_goals
    have bw' : Below w.heap.size w W2 := ⟨bw.os, bw.tape, bw.output, bw.size, bw.block⟩
    have hfin := Hs.out.step hi bw' (L.nxt (Xl, Xc) Xr).1 (L.nxt (Xl, Xc) Xr).2 (by rw [hX])
    clear hX bw
    go_wp2
    go_end0
    exact ⟨rfl, hfin.1, hfin.2⟩
end Go.Proofs.YtppcofopnelgjaaGreatDoor
set_option linter.unusedVariables false
set_option linter.unusedSimpArgs false
namespace Go.Proofs.YtppcofopnelgjaaGreatDoor
open Go.RowKit
/-- a function of the program that tells a class -/
structure Tells (f : Nat) (p : Int → Bool) : Prop where
  enters : ∀ args w, (callFunc f args).run Tryz.prog w = .ok (.enter f args) w
  calls : ∀ r w, Calls Tryz.prog f #[.int .i32 r] w fun e w' => e = .returned (.bool (p r)) ∧ w' = w
  none : p (-1) = false

def Tx.skp (T : Tx) (p : Int → Bool) (i : Nat) : Nat := L.skp T.C p T.N i
theorem Tx.Ok.no {T : Tx} (h : T.Ok) {f : Nat} {p : Int → Bool} (t : Tells f p) : p (L.g T.C T.N).r = false := by rw [h.good.last.1]; exact t.none
theorem Tx.Ok.skp_le {T : Tx} (h : T.Ok) {f : Nat} {p : Int → Bool} (t : Tells f p) (i : Nat) (hi : i ≤ T.N) : i ≤ T.skp p i ∧ T.skp p i ≤ T.N :=
  L.skp_le T.C p T.N T.N i hi (h.no t)

set_option maxRecDepth 100000 in
set_option maxHeartbeats 1000000 in
theorem passWhile_any {T : Tx} {b i : Nat} {w : World} (h : Scn T b i w) {f : Nat} {p : Int → Bool} (t : Tells f p) :
    Calls Tryz.prog 118 #[.pointer (some ⟨b, 0, none⟩), .func (.func f) #[] #[]] w fun e w' => e = .returned (.tuple #[]) ∧ Scn T b (T.skp p i) w' ∧ Turn (fun k => k = b) w w' := by
  have ef := t.enters
  have hno := h.ok.no t
  have H := hide' (And.intro h (And.intro t hno))
  have hle := h.le
  clear h t hno
  go_enter Tryz.func118, Tryz.ntmps118
  go_wp2
  go_loopw [] (fun wx => ∃ j, Scn T b j wx ∧ Turn (fun k => k = b) w wx ∧ T.skp p j = T.skp p i ∧ j ≤ T.N) (fun wx => T.N - nextOf b wx)
  case atStart => exact ⟨i, H.out.1, Turn.refl _ _, rfl, hle⟩
  case round =>
    obtain ⟨j, hs, ht, hk, hj⟩ := hrel
    have Hs := hide' (And.intro hs (And.intro ht hk))
    have hne := nextOf_of hs
    clear hs ht hk
    cases hp : p (T.g j).r
    · go_wp2_with (first | (go_at_call 94; refine (peek_any Hs.out.1).mono ?_; rintro e w1 ⟨rfl, b1⟩) | (go_at_fn f; refine (H.out.2.1.calls _ _).mono ?_; rintro e w2 ⟨rfl, hw2⟩; replace hw2 := hw2.symm; subst hw2))
      go_end0
      have e : T.skp p i = j := Hs.out.2.2.symm.trans (L.skp_no T.C p T.N j hp)
      exact ⟨rfl, by rw [e]; exact Hs.out.1.below b1, Hs.out.2.1.trans (turn_below b1)⟩
    · have hlt : j < T.N := by
        rcases Nat.lt_or_ge j T.N with q | q
        · exact q
        · have : j = T.N := by omega
          rw [this] at hp
          have := H.out.2.2
          rw [show (L.g T.C T.N) = T.g T.N from rfl, hp] at this; cases this
      go_wp2_with (first | (go_at_call 94; refine (peek_any Hs.out.1).mono ?_; rintro e w1 ⟨rfl, b1⟩) | (go_at_fn f; refine (H.out.2.1.calls _ _).mono ?_; rintro e w2 ⟨rfl, hw2⟩; replace hw2 := hw2.symm; subst hw2) | (go_at_call 125; refine (pass_any (Hs.out.1.below b1) hlt).mono ?_; rintro e w3 ⟨rfl, s3, t3⟩))
      have e : T.skp p (j + 1) = T.skp p i := by
        rw [← Hs.out.2.2]
        unfold Tx.skp
        have hN : T.N = (T.N - 1) + 1 := by omega
        have q1 : L.skp T.C p T.N j = L.skp T.C p (T.N - 1) (j + 1) := by
          have := L.skp_yes T.C p (T.N - 1) j hp
          rw [← hN] at this; exact this
        rw [q1]
        exact L.skp_more T.C p T.N T.N (T.N - 1) (j + 1) (by omega) H.out.2.2 (by omega) (by omega)
      refine ⟨⟨j + 1, s3, (Hs.out.2.1.trans (turn_below b1)).trans t3, e, by omega⟩, ?_⟩
      rw [nextOf_of s3, hne]; omega
end Go.Proofs.YtppcofopnelgjaaGreatDoor
set_option linter.unusedVariables false
set_option linter.unusedSimpArgs false
namespace Go.Proofs.YtppcofopnelgjaaGreatDoor
open Go.RowKit
theorem tells_blank : Tells 119 L.isBlank := ⟨enters_of Tryz.func119 (by kernel_rfl) rfl, isBlank_any, by decide⟩
theorem tells_line : Tells 120 L.inLine := ⟨enters_of Tryz.func120 (by kernel_rfl) rfl, inLine_any, by decide⟩
theorem tells_word : Tells 122 L.inWord := ⟨enters_of Tryz.func122 (by kernel_rfl) rfl, inWord_any, by decide⟩
theorem tells_run : Tells 123 L.inRun := ⟨enters_of Tryz.func123 (by kernel_rfl) rfl, inRun_any, by decide⟩
theorem tells_hex : Tells 148 L.isHex := ⟨enters_of Tryz.func148 (by kernel_rfl) rfl, isHex_any, by decide⟩

set_option maxRecDepth 100000 in
theorem clone_any (s : ByteArray) (w : World) (hlim : s.size ≤ 65536) :
    Calls Tryz.prog 76 #[.string s] w fun e w' => e = .returned (.string s) ∧ Below w.heap.size w w' := by
  go_enter Tryz.func76, Tryz.ntmps76
  go_wp2_with (go_at_call 105; refine (sh.stringslite_Clone _ _ (by omega)).mono ?_; rintro e w1 ⟨rfl, b1⟩)
  go_ret
  exact ⟨rfl, b1⟩

/-- what stands from one character up to another -/
def Tx.txt (T : Tx) (i j : Nat) : ByteArray := T.s.extract (T.g i).a (T.g j).a
theorem Tx.Ok.mono {T : Tx} (h : T.Ok) {i j : Nat} (hij : i ≤ j) (hj : j ≤ T.N) : (T.g i).a ≤ (T.g j).a := by
  induction j with
  | zero => obtain rfl : i = 0 := by omega
            exact Nat.le_refl _
  | succ j ih =>
    by_cases e : i = j + 1
    · rw [e]; exact Nat.le_refl _
    · have := ih (by omega) (by omega)
      have st := (h.good.step j (by omega)).1
      show (L.g T.C i).a ≤ (L.g T.C (j + 1)).a
      have : (L.g T.C i).a ≤ (L.g T.C j).a := this
      omega
theorem Tx.Ok.le_size {T : Tx} (h : T.Ok) {j : Nat} (hj : j ≤ T.N) : (T.g j).a ≤ T.s.size := by
  have := h.mono hj (Nat.le_refl _)
  have e : (T.g T.N).a = T.s.size := h.good.last.2.1
  omega
theorem lt_of_cell {w : World} {p : Addr} {v : Value} (h : w.cell? p = some v) : p.block < w.heap.size := by
  rcases Nat.lt_or_ge p.block w.heap.size with q | q
  · exact q
  · rw [World.cell?, Array.getElem?_eq_none q] at h; cases h
theorem below_keeps {w W : World} (bw : Below w.heap.size w W) {p : Addr} {v : Value} (h : w.cell? p = some v) : W.cell? p = some v := (bw.cell (lt_of_cell h)).trans h
set_option maxRecDepth 100000 in
set_option maxHeartbeats 1000000 in
theorem bytes_any {T : Tx} {w : World} {S : Nat → Prop} (ok : T.Ok) (inn : T.In S w) (i j : Nat) (hij : i ≤ j) (hj : j ≤ T.N) :
    Calls Tryz.prog 126 #[.agg #[.string T.s, T.rv, T.sv], .int .i64 (i : Int), .int .i64 (j : Int)] w fun e w' => e = .returned (.string (T.txt i j)) ∧ Below w.heap.size w w' := by
  have h1 := ok.mono hij hj
  have h2 := ok.le_size hj
  have h3 := ok.small
  obtain ⟨hS, hl, hc⟩ := inn.start
  have ci := hc i (by omega)
  have cj := hc j hj
  unfold Tx.txt Tx.sv
  generalize T.rv = rv
  generalize T.sb = sb at *
  generalize T.sc = sc
  have hfew := ok.few
  clear inn hc ok
  obtain ⟨ai, hai⟩ : ∃ x, (T.g i).a = x := ⟨_, rfl⟩
  obtain ⟨aj, haj⟩ : ∃ x, (T.g j).a = x := ⟨_, rfl⟩
  rw [hai] at h1 ci ⊢
  rw [haj] at h1 h2 cj ⊢
  have hsz : Hid ((T.s.extract ai aj).size ≤ 65536) := by show _ ≤ _; rw [ByteArray.size_extract]; omega
  have kc : ∀ k, ∀ v, (w.cell? ⟨sb, k, none⟩ = some v) → ((w.alloc (.cells #[.string T.s, rv, .slice (some ⟨sb, 0, none⟩) (T.N + 1) sc] 131)).cell? ⟨sb, k, none⟩ = some v) := fun k v h => by
    rw [World.cell?_of_block (Below.heap_alloc w _ sb hl)]; exact h
  have ci' := kc _ _ ci
  have cj' := kc _ _ cj
  clear kc ci cj hai haj
  have z1 : (0 : Int) ≤ (i : Int) := by omega
  have z2 : (i : Int) < ((T.N + 1 : Nat) : Int) := by omega
  have z3 : (0 : Int) ≤ (j : Int) := by omega
  have z4 : (j : Int) < ((T.N + 1 : Nat) : Int) := by omega
  have z5 : (i : Int) < (T.N : Int) + 1 := by omega
  have z6 : (j : Int) < (T.N : Int) + 1 := by omega
  go_enter Tryz.func126, Tryz.ntmps126
  go_wp2
  go_region_held3 (fun w' => w'.cell? ⟨w.heap.size, 0, none⟩ = some (.string T.s) ∧ w'.cell? ⟨w.heap.size, 2, none⟩ = some (.slice (some ⟨sb, 0, none⟩) (T.N + 1) sc) ∧ w'.cell? ⟨sb, i, none⟩ = some (.int .i64 (ai : Int)) ∧ w'.cell? ⟨sb, j, none⟩ = some (.int .i64 (aj : Int))) (first | go_keep | (obtain ⟨k1, k2, k3, k4⟩ := ‹_ ∧ _ ∧ _ ∧ _›; exact ⟨below_keeps ‹Below _ _ _› k1, below_keeps ‹Below _ _ _› k2, below_keeps ‹Below _ _ _› k3, below_keeps ‹Below _ _ _› k4⟩))
    (first | (go_at_call 76; refine (clone_any _ _ hsz.out).mono ?_; rintro e W2 ⟨rfl, bw⟩))
  go_wp2
  go_ret
  have b0 : Below w.heap.size w (w.alloc (.cells #[.string T.s, rv, .slice (some ⟨sb, 0, none⟩) (T.N + 1) sc] 131)).drew := ((Below.refl _ _).alloc (Nat.le_refl _) _).drew
  exact ⟨rfl, b0.trans (bw.mono b0.size)⟩

theorem bytes_at {T : Tx} {w : World} {S : Nat → Prop} (ok : T.Ok) (inn : T.In S w) (i j : Nat) (x y : Int) (hx : x = (i : Int)) (hy : y = (j : Int)) (hij : i ≤ j) (hj : j ≤ T.N) :
    Calls Tryz.prog 126 #[.agg #[.string T.s, T.rv, T.sv], .int .i64 x, .int .i64 y] w fun e w' => e = .returned (.string (T.txt i j)) ∧ Below w.heap.size w w' := by
  rw [hx, hy]; exact bytes_any ok inn i j hij hj
theorem Tx.In.drew {T : Tx} {S : Nat → Prop} {w : World} (h : T.In S w) : T.In S w.drew := h.turn (Turn.refl _ _).drew


set_option maxRecDepth 100000 in
set_option maxHeartbeats 1000000 in
theorem take_any {T : Tx} {b i : Nat} {w : World} (h : Scn T b i w) (hi : i < T.N) :
    Calls Tryz.prog 101 #[.pointer (some ⟨b, 0, none⟩)] w fun e w' => e = .returned (.string (T.txt i (i + 1))) ∧ Scn T b (i + 1) w' ∧ Turn (fun k => k = b) w w' := by
  have c3 := h.c3
  have HP := hide' (pass_any h hi)
  clear h
  obtain ⟨j, hj⟩ : ∃ j, i + 1 = j := ⟨_, rfl⟩
  rw [hj] at HP ⊢
  go_enter Tryz.func101, Tryz.ntmps101
  go_wp2_with (go_at_call 125; refine HP.out.mono ?_; rintro e w1 ⟨rfl, s1, t1⟩)
  have d0 := s1.c0
  have d1 := s1.c1
  have d2 := s1.c2
  have d3 := s1.c3
  have H1 := hide' (And.intro s1 t1)
  clear s1 t1
  go_region_held3 (fun w' => w'.cell? ⟨b, 0, none⟩ = some (.string T.s) ∧ w'.cell? ⟨b, 1, none⟩ = some T.rv ∧ w'.cell? ⟨b, 2, none⟩ = some T.sv ∧ w'.cell? ⟨b, 3, none⟩ = some (.int .i64 (j : Int))) (first | go_keep | (obtain ⟨k1, k2, k3, k4⟩ := ‹_ ∧ _ ∧ _ ∧ _›; exact ⟨below_keeps ‹Below _ _ _› k1, below_keeps ‹Below _ _ _› k2, below_keeps ‹Below _ _ _› k3, below_keeps ‹Below _ _ _› k4⟩))
    (first | (go_at_call 126; refine (bytes_at H1.out.1.ok H1.out.1.inn.drew i j _ _ rfl rfl (by omega) (by omega)).mono ?_; rintro e W2 ⟨rfl, bw⟩))
  go_wp2
  go_ret
  have bw' : Below w1.heap.size w1 W2 := ⟨bw.os, bw.tape, bw.output, bw.size, bw.block⟩
  exact ⟨rfl, H1.out.1.below bw', H1.out.2.trans (turn_below bw')⟩

set_option maxRecDepth 100000 in
set_option maxHeartbeats 1000000 in
theorem takeWhile_any {T : Tx} {b i : Nat} {w : World} (h : Scn T b i w) {f : Nat} {p : Int → Bool} (t : Tells f p) :
    Calls Tryz.prog 121 #[.pointer (some ⟨b, 0, none⟩), .func (.func f) #[] #[]] w fun e w' => e = .returned (.string (T.txt i (T.skp p i))) ∧ Scn T b (T.skp p i) w' ∧ Turn (fun k => k = b) w w' := by
  have c3 := h.c3
  have hsk := h.ok.skp_le t i h.le
  have H := hide' (And.intro h t)
  clear h t
  obtain ⟨j, hj⟩ : ∃ j, T.skp p i = j := ⟨_, rfl⟩
  have HP := hide' (passWhile_any H.out.1 H.out.2)
  rw [hj] at hsk HP ⊢
  go_enter Tryz.func121, Tryz.ntmps121
  go_wp2_with (go_at_call 118; refine HP.out.mono ?_; rintro e w1 ⟨rfl, s1, t1⟩)
  have d0 := s1.c0
  have d1 := s1.c1
  have d2 := s1.c2
  have d3 := s1.c3
  have H1 := hide' (And.intro s1 t1)
  clear s1 t1
  go_region_held3 (fun w' => w'.cell? ⟨b, 0, none⟩ = some (.string T.s) ∧ w'.cell? ⟨b, 1, none⟩ = some T.rv ∧ w'.cell? ⟨b, 2, none⟩ = some T.sv ∧ w'.cell? ⟨b, 3, none⟩ = some (.int .i64 (j : Int))) (first | go_keep | (obtain ⟨k1, k2, k3, k4⟩ := ‹_ ∧ _ ∧ _ ∧ _›; exact ⟨below_keeps ‹Below _ _ _› k1, below_keeps ‹Below _ _ _› k2, below_keeps ‹Below _ _ _› k3, below_keeps ‹Below _ _ _› k4⟩))
    (first | (go_at_call 126; refine (bytes_at H1.out.1.ok H1.out.1.inn.drew i j _ _ rfl rfl (by omega) (by omega)).mono ?_; rintro e W2 ⟨rfl, bw⟩))
  go_wp2
  go_ret
  have bw' : Below w1.heap.size w1 W2 := ⟨bw.os, bw.tape, bw.output, bw.size, bw.block⟩
  exact ⟨rfl, H1.out.1.below bw', H1.out.2.trans (turn_below bw')⟩
end Go.Proofs.YtppcofopnelgjaaGreatDoor
set_option linter.unusedVariables false
set_option linter.unusedSimpArgs false
namespace Go.Proofs.YtppcofopnelgjaaGreatDoor
open Go.RowKit
/-- a token's block -/
structure Tk (g : Nat) (a b c d : Value) (w : World) : Prop where
  c0 : w.cell? ⟨g, 0, none⟩ = some a
  c1 : w.cell? ⟨g, 1, none⟩ = some b
  c2 : w.cell? ⟨g, 2, none⟩ = some c
  c3 : w.cell? ⟨g, 3, none⟩ = some d
  f : ∀ k, k < 4 → w.frozen? ⟨g, k, none⟩ = false
theorem Tk.of_block {g : Nat} {a b c d : Value} {w w' : World} (h : Tk g a b c d w) (k : w'.heap[g]? = w.heap[g]?) : Tk g a b c d w' :=
  ⟨(World.cell?_of_block k).trans h.c0, (World.cell?_of_block k).trans h.c1, (World.cell?_of_block k).trans h.c2, (World.cell?_of_block k).trans h.c3, fun i hi => (World.frozen?_of_block k).trans (h.f i hi)⟩
theorem Tk.of_cells {g : Nat} {a b c d : Value} {w : World} {t : TypeId} (h : w.heap[g]? = some (.cells #[a, b, c, d] t (0, 0))) : Tk g a b c d w := by
  refine ⟨?_, ?_, ?_, ?_, fun k hk => ?_⟩
  all_goals first | (simp [World.cell?, World.frozen?, h]; done) | skip
theorem load4 (w : World) (g : Nat) (a b c d : Value) (h : Tk g a b c d w) : (loadVar 44 ⟨g, 0, none⟩).run Tryz.prog w = .ok (.agg #[a, b, c, d]) w := by
  have hu := Tryz.underlying44
  have hl : (loadCells ⟨g, 0, none⟩ [a, b, c, d].length).run Tryz.prog w = .ok [a, b, c, d].toArray w :=
    run_loadCells_list (P := Tryz.prog) w ⟨g, 0, none⟩ [a, b, c, d] (fun j v hv => by
      have hadd : (⟨g, 0, none⟩ : Addr).add j = ⟨g, j, none⟩ := by unfold Addr.add; split <;> simp_all
      rw [hadd]
      match j, hv with
      | 0, hv => simp at hv; subst hv; exact h.c0
      | 1, hv => simp at hv; subst hv; exact h.c1
      | 2, hv => simp at hv; subst hv; exact h.c2
      | 3, hv => simp at hv; subst hv; exact h.c3
      | _ + 4, hv => simp at hv)
  have hi : (Tryz.prog.info? 44).map (·.size) = some 4 := by kernel_rfl
  cases hq : Tryz.prog.info? 44 with
  | none => simp [hq] at hi
  | some i =>
    have hs : i.size = 4 := by simpa [hq] using hi
    have hagg : (isAgg 44).run Tryz.prog w = .ok true w := by
      unfold isAgg
      rw [Sem.run_bind, run_underlying hu w]
      rfl
    simp only [List.length_cons, List.length_nil] at hl
    simp [loadVar, Sem.run_bind, hagg, sizeOf, typeInfo, hq, hs, hl]
theorem results4 {fn : Func} {p u : Tmp} (h : fn.results = #[.cell p 44, .tmp u]) (tmps : Array Value) (w : World) (g : Nat) (a b c d : Value) (hp : tmps.getD p undef = .pointer (some ⟨g, 0, none⟩)) (t : Tk g a b c d w) :
    (results fn tmps).run Tryz.prog w = .ok (.tuple #[.agg #[a, b, c, d], tmps.getD u undef]) w := by
  rw [results_cell_tmp h tmps, hp]
  simp [asAddr, Result.andThen, load4 w g a b c d t]
/-- what a call that reads a token tells -/
inductive Res where
  | tok (k : Int) (t : ByteArray) (l c : Int) (j : Nat)
  | flt (code l c : Int) (word : ByteArray)
def Res.Is (r : Res) (T : Tx) (b : Nat) (w : World) (v : Value) (w' : World) : Prop :=
  match r with
  | .tok k t l c j => v = .tuple #[tokV k t l c, .pointer none] ∧ Scn T b j w'
  | .flt code l c word => ∃ fb, v = .tuple #[tokV 0 ByteArray.empty 0 0, .pointer (some ⟨fb, 0, none⟩)] ∧ w.heap.size ≤ fb ∧ Flt fb code l c word w'
/-- the word at a place -/
def Tx.wordR (T : Tx) (i : Nat) : Res := if 32 < (T.txt i (T.skp L.inWord i)).size then .flt 10 (T.g i).l (T.g i).c (T.txt i (T.skp L.inWord i)) else .tok 1 (T.txt i (T.skp L.inWord i)) (T.g i).l (T.g i).c (T.skp L.inWord i)

theorem Tk.set {g : Nat} {a b c d : Value} {w : World} (h : Tk g a b c d w) (a' b' c' d' : Value) :
    Tk g a' b' c' d' ((((w.setCell ⟨g, 0, none⟩ a').setCell ⟨g, 1, none⟩ b').setCell ⟨g, 2, none⟩ c').setCell ⟨g, 3, none⟩ d') := by
  obtain ⟨c0, c1, c2, c3, f⟩ := h
  refine ⟨?_, ?_, ?_, ?_, fun k hk => ?_⟩
  · go_simp
  · go_simp
  · go_simp
  · go_simp
  · simp only [World.frozen?_setCell]; exact f k hk
theorem Turn.set4 {S : Nat → Prop} {w w' : World} (h : Turn S w w') {g : Nat} (hg : w.heap.size ≤ g) (a b c d : Value) :
    Turn S w ((((w'.setCell ⟨g, 0, none⟩ a).setCell ⟨g, 1, none⟩ b).setCell ⟨g, 2, none⟩ c).setCell ⟨g, 3, none⟩ d) :=
  (((h.setCell (p := ⟨g, 0, none⟩) (fun q => absurd q (by simp; omega)) _).setCell (p := ⟨g, 1, none⟩) (fun q => absurd q (by simp; omega)) _).setCell (p := ⟨g, 2, none⟩) (fun q => absurd q (by simp; omega)) _).setCell (p := ⟨g, 3, none⟩) (fun q => absurd q (by simp; omega)) _

/-- two new blocks, and behind them a call that turns one block alone -/
theorem after2 {b : Nat} {w w1 : World} {o1 o2 : Obj} (lt : b < w.heap.size) (t : Turn (fun k => k = b) ((w.alloc o1).alloc o2) w1) :
    w1.heap[w.heap.size]? = some o1 ∧ w1.heap[w.heap.size + 1]? = some o2 ∧ w.heap.size + 2 ≤ w1.heap.size ∧ Turn (fun k => k = b) w w1 := by
  refine ⟨?_, ?_, ?_, ((Turn.refl _ _).alloc _).alloc _ |>.trans t⟩
  · rw [t.block _ (by simp; omega) (by omega)]
    exact (Below.heap_alloc _ _ _ (by simp)).trans (heap_alloc_new _ _)
  · rw [t.block _ (by simp) (by omega)]
    have := heap_alloc_new (w.alloc o1) o2
    simpa using this
  · have := t.size; simpa using this
theorem two_cells {g : Nat} {w : World} {x y : Value} {t : TypeId} (h : w.heap[g]? = some (.cells #[x, y] t (0, 0))) : w.cell? ⟨g, 0, none⟩ = some x ∧ w.cell? ⟨g, 1, none⟩ = some y := by
  constructor <;> simp [World.cell?, h]
theorem Tk.below {g : Nat} {a b c d : Value} {w w' : World} (h : Tk g a b c d w) (t : Below w.heap.size w w') : Tk g a b c d w' := h.of_block (t.block g (lt_of_cell h.c0))
theorem Tk.frz {g : Nat} {a b c d : Value} {w : World} (h : Tk g a b c d w) : w.frozen? ⟨g, 0, none⟩ = false ∧ w.frozen? ⟨g, 1, none⟩ = false ∧ w.frozen? ⟨g, 2, none⟩ = false ∧ w.frozen? ⟨g, 3, none⟩ = false := ⟨h.f 0 (by omega), h.f 1 (by omega), h.f 2 (by omega), h.f 3 (by omega)⟩
theorem turn4 (w : World) (g : Nat) (a' b' c' d' : Value) : Turn (fun k => k = g) w ((((w.setCell ⟨g, 0, none⟩ a').setCell ⟨g, 1, none⟩ b').setCell ⟨g, 2, none⟩ c').setCell ⟨g, 3, none⟩ d') :=
  ((((Turn.refl (fun k => k = g) w).setCell (p := ⟨g, 0, none⟩) (fun _ => rfl) a').setCell (p := ⟨g, 1, none⟩) (fun _ => rfl) b').setCell (p := ⟨g, 2, none⟩) (fun _ => rfl) c').setCell (p := ⟨g, 3, none⟩) (fun _ => rfl) d'
theorem Scn.turn1 {T : Tx} {b i : Nat} {w w' : World} (h : Scn T b i w) {g : Nat} (t : Turn (fun k => k = g) w w') (hg : g ≠ b) (hr : ∀ rb, T.ro = some ⟨rb, 0, none⟩ → rb ≠ g) (hs : T.sb ≠ g) : Scn T b i w' := by
  have hb : ¬ b = g := fun e => hg e.symm
  obtain ⟨ok, le, lt, c0, c1, c2, c3, c4, c5, f, inn⟩ := h
  have i2 : T.In (fun k => k = g) w := ⟨fun j hj => by obtain ⟨rb, e, q, hl, hc⟩ := inn.rune j hj; exact ⟨rb, e, hr rb e, hl, hc⟩, hs, inn.start.2⟩
  have i3 := i2.turn t
  have hc : ∀ k, w'.cell? ⟨b, k, none⟩ = w.cell? ⟨b, k, none⟩ := fun k => t.cell (p := ⟨b, k, none⟩) lt hb
  have i4 : T.In (fun k => k = b) w' := by
    refine ⟨fun j hj => ?_, inn.start.1, i3.start.2⟩
    obtain ⟨rb, e, q, hl, hcc⟩ := i3.rune j hj
    obtain ⟨rb', e', q', _, _⟩ := inn.rune j hj
    have : rb' = rb := by rw [e] at e'; injection e' with e'; injection e' with e'; exact e'.symm
    exact ⟨rb, e, this ▸ q', hl, hcc⟩
  exact ⟨ok, le, Nat.lt_of_lt_of_le lt t.size, (hc 0).trans c0, (hc 1).trans c1, (hc 2).trans c2, (hc 3).trans c3, (hc 4).trans c4, (hc 5).trans c5, fun k hk => (World.frozen?_of_block (w := w) (t.block b lt hb)).trans (f k hk), i4⟩
/-- the rows lie in old blocks -/
theorem Scn.old {T : Tx} {b i : Nat} {w : World} (h : Scn T b i w) {g : Nat} (hg : w.heap.size ≤ g) : g ≠ b ∧ (0 < T.N → ∀ rb, T.ro = some ⟨rb, 0, none⟩ → rb ≠ g) ∧ T.sb ≠ g := by
  refine ⟨fun e => by have := h.lt; omega, fun hN rb e => ?_, fun e => by have := h.inn.start.2.1; omega⟩
  obtain ⟨rb', e', _, hl, _⟩ := h.inn.rune 0 hN
  rw [e] at e'; cases e'
  omega
/-- the end of a call that tells a fault, or a token -/
theorem Res.fin_flt {T : Tx} {b : Nat} {w w2 : World} {g fb : Nat} {code l c : Int} {t : ByteArray} (hg : w.heap.size ≤ g) (hfb : w.heap.size ≤ fb) (hne : fb ≠ g) (hf : Flt fb code l c t w2) (a' b' c' d' : Value) :
    (Res.flt code l c t).Is T b w (.tuple #[tokV 0 ByteArray.empty 0 0, .pointer (some ⟨fb, 0, none⟩)]) ((((w2.setCell ⟨g, 0, none⟩ a').setCell ⟨g, 1, none⟩ b').setCell ⟨g, 2, none⟩ c').setCell ⟨g, 3, none⟩ d') :=
  ⟨fb, rfl, hfb, ((Below.heap_setCell _ _ _ _ hne).trans ((Below.heap_setCell _ _ _ _ hne).trans ((Below.heap_setCell _ _ _ _ hne).trans (Below.heap_setCell _ _ _ _ hne)))).trans hf⟩

set_option maxRecDepth 100000 in
set_option maxHeartbeats 1000000 in
theorem word_any {T : Tx} {b i : Nat} {w : World} (h : Scn T b i w) (hi : i < T.N) :
    Calls Tryz.prog 97 #[.pointer (some ⟨b, 0, none⟩)] w fun e w' => ∃ v, e = .returned v ∧ (T.wordR i).Is T b w v w' ∧ Turn (fun k => k = b) w w' := by
  have c4 := h.c4
  have c5 := h.c5
  have lt := h.lt
  have hold := h.old (Nat.le_refl w.heap.size)
  have H := hide' (And.intro h hold)
  obtain ⟨t, ht⟩ : ∃ t, T.txt i (T.skp L.inWord i) = t := ⟨_, rfl⟩
  obtain ⟨j, hj⟩ : ∃ j, T.skp L.inWord i = j := ⟨_, rfl⟩
  have HP := hide' fun (w : World) (h : Scn T b i w) => takeWhile_any h tells_word
  unfold Tx.wordR
  rw [ht, hj]
  rw [ht, hj] at HP
  clear h ht hj hold
  by_cases hsz : 32 < t.size
  · have e1 : decide ((32 : Int) < (t.size : Int)) = true := by simp; omega
    rw [if_pos hsz]
    go_enter Tryz.func97, Tryz.ntmps97
    go_wp2_with (first | (go_at_call 121; refine (HP.out _ ((H.out.1.below ((Below.refl _ _).alloc (Nat.le_refl _) _)).below ((Below.refl _ _).alloc (Nat.le_refl _) _))).mono ?_; rintro e w1 ⟨rfl, s1, t1⟩; obtain ⟨h0, h1, hz1, t1'⟩ := after2 lt t1; obtain ⟨p0, p1⟩ := two_cells h1; have K := hide' (And.intro (Tk.of_cells h0) (And.intro s1 t1')); clear h0 h1 s1 t1 t1') | (go_at_call 103; refine (pfault_any _ _ _ _ _).mono ?_; rintro e w2 ⟨fb, rfl, hfb, hflt, b2⟩; have k2 := K.out.1.below b2; have kc0 := k2.c0; have kc1 := k2.c1; have kc2 := k2.c2; have kc3 := k2.c3; obtain ⟨z0, z1, z2, z3⟩ := k2.frz; have K2 := hide' (And.intro k2 (And.intro hflt b2)); clear k2 hflt b2))
    refine bodyPost_ret_by (results4 rfl _ _ w.heap.size _ _ _ _ rfl (K2.out.1.set _ _ _ _)) rfl ?_
    exact ⟨_, rfl, Res.fin_flt (Nat.le_refl _) (by omega) (by omega) K2.out.2.1 _ _ _ _, (K.out.2.2.trans (turn_below K2.out.2.2)).set4 (Nat.le_refl _) _ _ _ _⟩
  · have e1 : decide ((32 : Int) < (t.size : Int)) = false := by simp; omega
    rw [if_neg hsz]
    go_enter Tryz.func97, Tryz.ntmps97
    go_wp2_with (first | (go_at_call 121; refine (HP.out _ ((H.out.1.below ((Below.refl _ _).alloc (Nat.le_refl _) _)).below ((Below.refl _ _).alloc (Nat.le_refl _) _))).mono ?_; rintro e w1 ⟨rfl, s1, t1⟩; obtain ⟨h0, h1, hz1, t1'⟩ := after2 lt t1; obtain ⟨p0, p1⟩ := two_cells h1; have K := hide' (And.intro (Tk.of_cells h0) (And.intro s1 t1')); clear h0 h1 s1 t1 t1') | (go_at_call 95; refine (ptoken_any _ _ _ _ _).mono ?_; rintro e w2 ⟨rfl, b2⟩; have k2 := K.out.1.below b2; have kc0 := k2.c0; have kc1 := k2.c1; have kc2 := k2.c2; have kc3 := k2.c3; obtain ⟨z0, z1, z2, z3⟩ := k2.frz; have K2 := hide' (And.intro k2 b2); clear k2 b2; unfold tokV))
    refine bodyPost_ret_by (results4 rfl _ _ w.heap.size _ _ _ _ rfl (K2.out.1.set _ _ _ _)) rfl ?_
    refine ⟨_, rfl, ⟨rfl, ?_⟩, (K.out.2.2.trans (turn_below K2.out.2)).set4 (Nat.le_refl _) _ _ _ _⟩
    exact (K.out.2.1.below K2.out.2).turn1 (turn4 _ _ _ _ _ _) H.out.2.1 (H.out.2.2.1 (by omega)) H.out.2.2.2
end Go.Proofs.YtppcofopnelgjaaGreatDoor
