import Derived.Test.YtppcofopnelgjaaGreatDoorScan
set_option linter.unusedVariables false
set_option linter.unusedSimpArgs false
namespace Go.Proofs.YtppcofopnelgjaaGreatDoor
open Go.RowKit
/-- a token's and a fault's data -/
abbrev Tkn := Int × ByteArray × Int × Int
abbrev Flw := Int × Int × Int × ByteArray
def El.data : El → Tkn
  | .tok k t l c => (k, t, l, c)
  | .flt _ code l c word => (0, ByteArray.empty, 0, 0)
def cells4 (x : Tkn) : List Value := [.int .i8 x.1, .string x.2.1, .int .i64 x.2.2.1, .int .i64 x.2.2.2]
/-- the tokens from a place on, and the fault behind them -/
def Tx.run (T : Tx) : Nat → Nat → List Tkn × Option Flw
  | 0, _ => ([], none)
  | f + 1, i => match T.tokR i with
    | .tok k t l c j => if k = 5 then ([(k, t, l, c)], none) else ((k, t, l, c) :: (T.run f j).1, (T.run f j).2)
    | .flt code l c word => ([], some (code, l, c, word))
theorem run_tok {T : Tx} {f i : Nat} {k : Int} {t : ByteArray} {l c : Int} {j : Nat} (h : T.tokR i = .tok k t l c j) (hk : k ≠ 5) : T.run (f + 1) i = ((k, t, l, c) :: (T.run f j).1, (T.run f j).2) := by
  rw [Tx.run, h]; simp [hk]
theorem run_end {T : Tx} {f i : Nat} {t : ByteArray} {l c : Int} {j : Nat} (h : T.tokR i = .tok 5 t l c j) : T.run (f + 1) i = ([(5, t, l, c)], none) := by
  rw [Tx.run, h]; simp
theorem run_flt {T : Tx} {f i : Nat} {code l c : Int} {word : ByteArray} (h : T.tokR i = .flt code l c word) : T.run (f + 1) i = ([], some (code, l, c, word)) := by
  rw [Tx.run, h]
theorem walk_run {T : Tx} {i : Nat} {pre : List El} {j : Nat} (h : Walk T i pre j) : ∀ f, T.run (pre.length + f) i = (pre.map El.data ++ (T.run f j).1, (T.run f j).2) := by
  induction h with
  | nil => intro f; simp
  | snoc h1 h2 h3 ih =>
    intro f
    have := ih (f + 1)
    rw [run_tok h2 h3] at this
    rw [List.length_append, List.length_singleton, Nat.add_assoc, Nat.add_comm 1 f, this]
    simp [El.data]
theorem all_run {T : Tx} (ok : T.Ok) {xs : List El} (h : T.All xs) (ht : ∀ x ∈ xs, x.isTok = true) : T.run (T.N + 2) 0 = (xs.map El.data, none) := by
  obtain ⟨pre, j, x, rfl, hw, hl⟩ := h
  have hlen := walk_len ok hw
  have hx := ht x (by simp)
  have hr := walk_run hw (T.N + 2 - pre.length)
  rw [show pre.length + (T.N + 2 - pre.length) = T.N + 2 by omega] at hr
  cases x with
  | flt fb code l c word => cases hx
  | tok k t l c =>
    obtain ⟨rfl, j', hj⟩ := hl
    rw [hr, show T.N + 2 - pre.length = (T.N + 1 - pre.length) + 1 by omega, run_end hj]
    simp [El.data]
theorem part_run {T : Tx} (ok : T.Ok) {pre : List El} {fb : Nat} {code l c : Int} {word : ByteArray} (h : T.Part (pre ++ [.flt fb code l c word])) : T.run (T.N + 2) 0 = (pre.map El.data, some (code, l, c, word)) := by
  obtain ⟨pre', j, x, he, hw, hl⟩ := h
  obtain ⟨rfl, hx⟩ := List.append_inj' he rfl
  have hx : El.flt fb code l c word = x := by simpa using hx
  subst hx
  have hlen := walk_len ok hw
  have hr := walk_run hw (T.N + 2 - pre.length)
  rw [show pre.length + (T.N + 2 - pre.length) = T.N + 2 by omega] at hr
  rw [hr, show T.N + 2 - pre.length = (T.N + 1 - pre.length) + 1 by omega, run_flt hl]
  simp
/-- WHAT A TEXT THAT IS NOT TOO LONG HAS -/
def L.scn (s : ByteArray) : List Tkn × Option Flw := Tx.run ⟨s, L.cx s, (L.cx s).length - 1, none, 0, 0, 0⟩ ((L.cx s).length + 1) 0
theorem run_any (s : ByteArray) (C : List L.Cx) (N : Nat) (ro ro' : Option Addr) (rc sb sc rc' sb' sc' : Nat) : ∀ f i, Tx.run ⟨s, C, N, ro, rc, sb, sc⟩ f i = Tx.run ⟨s, C, N, ro', rc', sb', sc'⟩ f i := by
  have hq : ∀ o f i acc, Tx.qloop ⟨s, C, N, ro, rc, sb, sc⟩ o f i acc = Tx.qloop ⟨s, C, N, ro', rc', sb', sc'⟩ o f i acc := by
    intro o f
    induction f with
    | zero => intro i acc; rfl
    | succ f ih =>
      intro i acc
      unfold Tx.qloop
      have he : Tx.esc ⟨s, C, N, ro, rc, sb, sc⟩ i = Tx.esc ⟨s, C, N, ro', rc', sb', sc'⟩ i := rfl
      rw [he]
      cases Tx.esc ⟨s, C, N, ro', rc', sb', sc'⟩ i <;> simp only [Option.elim, ih] <;> rfl
  have ht : ∀ i, Tx.tokR ⟨s, C, N, ro, rc, sb, sc⟩ i = Tx.tokR ⟨s, C, N, ro', rc', sb', sc'⟩ i := by
    intro i
    have hg : Tx.gap ⟨s, C, N, ro, rc, sb, sc⟩ i = Tx.gap ⟨s, C, N, ro', rc', sb', sc'⟩ i := rfl
    unfold Tx.tokR
    rw [hg]
    unfold Tx.tokAt Tx.quotedR
    rw [hq]
    rfl
  intro f
  induction f with
  | zero => intro i; rfl
  | succ f ih =>
    intro i
    unfold Tx.run
    rw [ht]
    cases Tx.tokR ⟨s, C, N, ro', rc', sb', sc'⟩ i with
    | tok k t l c j => simp only [ih]
    | flt code l c word => rfl
theorem run_scn {T : Tx} {s : ByteArray} (hs : T.s = s) (hC : T.C = L.cx s) (ok : T.Ok) : T.run (T.N + 2) 0 = L.scn s := by
  have hl := ok.good.len
  obtain ⟨ts, tC, tN, ro, rc, sb, sc⟩ := T
  simp only at hs hC hl
  subst hs hC
  unfold L.scn
  rw [hl]
  exact run_any _ _ _ _ _ _ _ _ _ _ _ _ _
theorem cells_data (xs : List El) (h : ∀ x ∈ xs, x.isTok = true) : xs.flatMap El.cells = (xs.map El.data).flatMap cells4 := by
  induction xs with
  | nil => rfl
  | cons x xs ih =>
    rw [List.flatMap_cons, List.map_cons, List.flatMap_cons, ih (fun y hy => h y (List.mem_cons_of_mem _ hy))]
    have := h x (List.mem_cons_self ..)
    cases x with
    | tok k t l c => rfl
    | flt fb code l c word => cases this
/-- what Scan tells -/
def ScanIs (r : List Tkn × Option Flw) (w : World) (e : Ending) (w' : World) : Prop :=
  match r.2 with
  | none => ∃ sv, e = .returned (.tuple #[sv, .nilIface]) ∧ w'.ownsRow w.heap.size 44 4 sv r.1.length (r.1.flatMap cells4)
  | some f => ∃ fb, e = .returned (.tuple #[.slice none 0 0, .iface 72 (.pointer (some ⟨fb, 0, none⟩))]) ∧ w.heap.size ≤ fb ∧ Flt fb f.1 f.2.1 f.2.2.1 f.2.2.2 w'
theorem scan_fun (s : ByteArray) (w : World) (hs : s.size ≤ 65536) :
    Calls Tryz.prog 26 #[.string s] w fun e w' => ScanIs (L.scn s) w e w' ∧ Below w.heap.size w w' := by
  refine (scan_any s w hs).mono ?_
  rintro e w' ⟨T, v, hTs, hTC, hok, rfl, hsc, hb⟩
  refine ⟨?_, hb⟩
  have hr := run_scn hTs hTC hok
  rcases hsc with ⟨xs, sv, h1, h2, rfl, h3⟩ | ⟨pre, fb, code, l, c, word, h1, rfl, h2, h3⟩
  · rw [← hr, all_run hok h1 h2]
    refine ⟨sv, rfl, ?_⟩
    simp only [List.length_map]
    rw [← cells_data xs h2]; exact h3
  · rw [← hr, part_run hok h1]
    exact ⟨fb, rfl, h2, h3⟩
end Go.Proofs.YtppcofopnelgjaaGreatDoor
