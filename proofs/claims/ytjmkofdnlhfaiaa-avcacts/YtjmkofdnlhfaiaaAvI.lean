import Derived.Test.YtjmkofdnlhfaiaaAvL
import Derived.Laws.ResultCell
set_option linter.unusedVariables false
set_option linter.unusedSimpArgs false
namespace Go.Proofs.Ytjmkofdnlhfaiaa
open Go.RowKit
namespace C
theorem results_row_tmp {P : Program} {fn : Func} {p u : Tmp} {ty : TypeId} (h : fn.results = #[.cell p ty, .tmp u]) (tmps : Array Value) (w : World) (g : Nat) (t : TypeId) (cs : Array Value) (fr : Nat × Nat) (d : TypeDesc)
    (hp : tmps.getD p undef = .pointer (some ⟨g, 0, none⟩)) (hg : w.heap[g]? = some (.cells cs t fr))
    (hu : P.underlying ty = some d) (hd : (match d with | .struct _ | .array _ _ => true | _ => false) = true) (hi : (P.info? ty).map (·.size) = some cs.size) :
    (results fn tmps).run P w = .ok (.tuple #[.agg cs, tmps.getD u undef]) w := by
  rw [results_cell_tmp h tmps, hp]
  simp [asAddr, Result.andThen, run_loadVar_row w g t ty cs fr d hg hu hd hi]
/-- is a call a Put of a triple? -/
def isP (t : Tr) (x : Act) : Bool := decide (x.d = 2) && decide (x.t = t)
theorem isP_true {t : Tr} {x : Act} (h : isP t x = true) : x.d = 2 ∧ x.t = t := by
  unfold isP at h
  simp only [Bool.and_eq_true, decide_eq_true_eq] at h
  exact h
theorem isP_of {t : Tr} {x : Act} (h : x.d = 2) (e : x.t = t) : isP t x = true := by unfold isP; rw [decide_eq_true h, decide_eq_true e]; rfl
theorem isP_not {t : Tr} {x : Act} (h : ¬ (x.d = 2 ∧ x.t = t)) : isP t x = false := by
  cases q : isP t x with
  | false => rfl
  | true => exact absurd (isP_true q) h
/-- the last Put of a triple -/
def lst (xs : List Act) (t : Tr) : Option Act := xs.foldl (fun o x => if isP t x then some x else o) none
theorem lst_add (xs : List Act) (x : Act) (t : Tr) : lst (xs ++ [x]) t = if isP t x then some x else lst xs t := by
  unfold lst
  rw [List.foldl_append]
  rfl
theorem lst_nil (t : Tr) : lst [] t = none := rfl
theorem lst_is {t : Tr} : ∀ (n : Nat) (xs : List Act), xs.length = n → ∀ x, lst xs t = some x → x.d = 2 ∧ x.t = t ∧ x ∈ xs := by
  intro n
  induction n with
  | zero => intro xs hl x h; rw [List.length_eq_zero_iff.1 hl] at h; cases h
  | succ n ih =>
    intro xs hl x h
    rcases List.eq_nil_or_concat xs with e | ⟨ys, y, e⟩
    · rw [e] at hl; cases hl
    · subst e
      rw [List.concat_eq_append] at h hl ⊢
      rw [lst_add] at h
      by_cases hp : isP t y = true
      · rw [if_pos hp] at h
        cases h
        exact ⟨(isP_true hp).1, (isP_true hp).2, by simp⟩
      · rw [if_neg hp] at h
        have := ih ys (by simpa using hl) x h
        exact ⟨this.1, this.2.1, by simp [this.2.2]⟩
/-- none behind a place is one -/
theorem lst_cut {t : Tr} {xs : List Act} : ∀ (m k : Nat), k + m = xs.length → (∀ j x, k ≤ j → xs[j]? = some x → isP t x = false) → lst xs t = lst (xs.take k) t := by
  intro m
  induction m with
  | zero => intro k hk _; rw [List.take_of_length_le (by omega)]
  | succ m ih =>
    intro k hk h
    rw [ih (k + 1) (by omega) (fun j x hj => h j x (by omega))]
    have hl : k < xs.length := by omega
    rw [List.take_succ_eq_append_getElem hl, lst_add, if_neg]
    have := h k xs[k] (Nat.le_refl _) (List.getElem?_eq_getElem hl)
    rw [this]; decide
def zA : Act := ⟨0, 0, ⟨0, 0, 0⟩, false⟩
def lsv (xs : List Act) (t : Tr) : Act := (lst xs t).getD zA
variable {w w' : World}
/-- a block with a call in it -/
def Ab (b : Nat) (x : Act) (w : World) : Prop := w.heap[b]? = some (.cells x.arr 45 (0, 0))
theorem Ab.below {b : Nat} {x : Act} (h : Ab b x w) (k : Below w.heap.size w w') : Ab b x w' := (k.block b (lt_of_heap h)).trans h
theorem Ab.c0 {b : Nat} {x : Act} (h : Ab b x w) : w.cell? ⟨b, 0, none⟩ = some (.int .i64 x.d) := by rw [Lib.cell_of_heap h]; rfl
theorem Ab.c1 {b : Nat} {x : Act} (h : Ab b x w) : w.cell? ⟨b, 1, none⟩ = some (.int .i64 x.tag) := by rw [Lib.cell_of_heap h]; rfl
theorem Ab.c2 {b : Nat} {x : Act} (h : Ab b x w) : w.cell? ⟨b, 2, none⟩ = some (.int .i64 x.t.s) := by rw [Lib.cell_of_heap h]; rfl
theorem Ab.c3 {b : Nat} {x : Act} (h : Ab b x w) : w.cell? ⟨b, 3, none⟩ = some (.int .i64 x.t.o) := by rw [Lib.cell_of_heap h]; rfl
theorem Ab.c4 {b : Nat} {x : Act} (h : Ab b x w) : w.cell? ⟨b, 4, none⟩ = some (.int .i64 x.t.a) := by rw [Lib.cell_of_heap h]; rfl
theorem Ab.c5 {b : Nat} {x : Act} (h : Ab b x w) : w.cell? ⟨b, 5, none⟩ = some (.bool x.al) := by rw [Lib.cell_of_heap h]; rfl
theorem Ab.fz {b : Nat} {x : Act} (h : Ab b x w) (j : Nat) : w.frozen? ⟨b, j, none⟩ = false := Lib.frozen_of_heap h j
theorem Ab.there {b : Nat} {x : Act} (h : Ab b x w) : w.there b 0 6 := fun j hj => by
  rw [Nat.zero_add, Lib.cell_of_heap h]
  refine ⟨?_, h.fz j⟩
  have : j = 0 ∨ j = 1 ∨ j = 2 ∨ j = 3 ∨ j = 4 ∨ j = 5 := by omega
  rcases this with rfl | rfl | rfl | rfl | rfl | rfl <;> rfl
theorem Ab.put {b : Nat} {x y : Act} (h : Ab b x w) : Ab b y (w.setCells b 0 [.int .i64 y.d, .int .i64 y.tag, .int .i64 y.t.s, .int .i64 y.t.o, .int .i64 y.t.a, .bool y.al]) := by
  unfold Ab
  exact set_block (off := 5) (set_block (off := 4) (set_block (off := 3) (set_block (off := 2) (set_block (off := 1) (set_block (off := 0) h)))))
theorem Acs.at {a : Option Addr} {xs : List Act} (h : Acs w a xs) {j : Nat} {x : Act} (hx : xs[j]? = some x) : ∃ b off, a = some ⟨b, off, none⟩ ∧ b < w.heap.size ∧ w.rangeAt b (off + j * 6) [.int .i64 x.d, .int .i64 x.tag, .int .i64 x.t.s, .int .i64 x.t.o, .int .i64 x.t.a, .bool x.al] := by
  rcases h with h | ⟨b, off, h1, h2, h3⟩
  · rw [h] at hx; cases hx
  · exact ⟨b, off, h1, h2, h3 j x hx⟩
theorem msrd {k : Nat} : (intOf (.int .i64 ((k : Int) - 1)) + 1).toNat < (intOf (.int .i64 (k : Int)) + 1).toNat := by
  show ((k : Int) - 1 + 1).toNat < ((k : Int) + 1).toNat
  omega
theorem wpred (k : Nat) (h : k < 4611686018427387904) : wrap64 ((k : Int) - 1) = (k : Int) - 1 := by unfold wrap64; omega
set_option maxRecDepth 100000 in
set_option maxHeartbeats 2000000 in
theorem last_any (a : Option Addr) (cap : Nat) (xs : List Act) (x : Act) (h : Acs w a xs) (hl : xs.length < 4000000000000000000) : Calls Try.prog 20 #[.slice a xs.length cap, .agg #[.int .i64 x.d, .int .i64 x.tag, .int .i64 x.t.s, .int .i64 x.t.o, .int .i64 x.t.a, .bool x.al]] w fun e w' => e = .returned (.tuple #[.agg (lsv xs x.t).arr, .bool (lst xs x.t).isSome]) ∧ Below w.heap.size w w' := by
  obtain ⟨w1, hw1⟩ : ∃ w1, w1 = (w.alloc (.cells #[.int .i64 x.d, .int .i64 x.tag, .int .i64 x.t.s, .int .i64 x.t.o, .int .i64 x.t.a, .bool x.al] 45)).alloc (.cells #[.int .i64 0, .int .i64 0, .int .i64 0, .int .i64 0, .int .i64 0, .bool false] 45) := ⟨_, rfl⟩
  have hb1 : Below w.heap.size w w1 := by rw [hw1]; exact ((Below.refl _ _).alloc (Nat.le_refl _) _).alloc (by simp) _
  obtain ⟨xb, hx⟩ : ∃ x, x = w.heap.size := ⟨_, rfl⟩
  have a1 : Ab xb x w1 := by rw [hw1, hx]; exact (Below.heap_alloc _ _ _ (by simp)).trans (heap_alloc_new _ _)
  have a2 : Ab (xb + 1) zA w1 := by
    rw [hw1, hx]
    have := heap_alloc_new (w.alloc (.cells #[.int .i64 x.d, .int .i64 x.tag, .int .i64 x.t.s, .int .i64 x.t.o, .int .i64 x.t.a, .bool x.al] 45)) (.cells #[.int .i64 0, .int .i64 0, .int .i64 0, .int .i64 0, .int .i64 0, .bool false] 45)
    rw [show (w.alloc (.cells #[.int .i64 x.d, .int .i64 x.tag, .int .i64 x.t.s, .int .i64 x.t.o, .int .i64 x.t.a, .bool x.al] 45)).heap.size = w.heap.size + 1 by simp] at this
    exact this
  have HS := hide' (And.intro (h.below hb1) (And.intro hb1 (And.intro a1 a2)))
  have Hx := hide' hx
  have Hw1 := hide' hw1
  have Hl := hide' hl
  have Hw := hide' (wpred xs.length (by omega))
  obtain ⟨R, hR⟩ : ∃ R, R = lst xs x.t := ⟨_, rfl⟩
  have HR := hide' hR
  unfold lsv
  rw [← hR]
  clear h hl hb1 hx hw1 a1 a2 hR
  go_enter Try.func20, Try.ntmps20
  go_wp2_with fail
  rw [← Hx.out, ← Hw1.out, Hw.out]
  clear Hw1 Hw
  go_loopw [6] (fun i wx => ∃ k : Nat, k ≤ xs.length ∧ i = .int .i64 ((k : Int) - 1) ∧ Hid (∀ j y, k ≤ j → xs[j]? = some y → isP x.t y = false) ∧ Hid (Acs wx a xs ∧ Below w.heap.size w wx ∧ Ab xb x wx ∧ Ab (xb + 1) zA wx)) (fun i _ => (intOf i + 1).toNat)
  case atStart => exact ⟨xs.length, Nat.le_refl _, rfl, hide' (fun j y hj hy => by have := (List.getElem?_eq_some_iff.1 hy).1; omega), HS⟩
  case round =>
    clear HS
    obtain ⟨k, hk, rfl, HN, HS⟩ := hrel
    rcases Nat.eq_zero_or_pos k with e | e
    · subst e
      have HE : Hid (R = none) := hide' (by rw [HR.out, lst_cut xs.length 0 (by omega) HN.out]; rfl)
      have c0 := HS.out.2.2.2.c0
      obtain ⟨w5, hw5⟩ : ∃ w5, w5 = wr.setCells (xb + 1) 0 [.int .i64 0, .int .i64 0, .int .i64 0, .int .i64 0, .int .i64 0, .bool false] := ⟨_, rfl⟩
      have H5 : Hid (Ab (xb + 1) zA w5 ∧ Below w.heap.size w w5) := hide' (by
        rw [hw5]
        refine ⟨HS.out.2.2.2.put (y := zA), HS.out.2.1.trans ((turn_cells (xb + 1) _ 0 wr).below (fun j hj => by rw [hj, Hx.out]; omega) HS.out.2.1.size)⟩)
      have HW5 := hide' hw5
      have Hth := hide' HS.out.2.2.2.there
      clear hw5 HS HN HR c0
      go_wp2_with (with_reducible refine stay_store 45 _ _ rfl ?_)
      unfold Stay
      refine wpList_store_mid rfl 45 _ _ rfl (xb + 1) 0 #[.int .i64 0, .int .i64 0, .int .i64 0, .int .i64 0, .int .i64 0, .bool false] rfl rfl Hth.out (by kernel_rfl) (by simp [Value.oneCell']) ?_
      show wpList _ _ _ _ _ (wr.setCells (xb + 1) 0 [.int .i64 0, .int .i64 0, .int .i64 0, .int .i64 0, .int .i64 0, .bool false])
      rw [← HW5.out]
      go_wp2
      refine bodyPost_ret (results_row_tmp rfl _ _ (xb + 1) 45 #[.int .i64 0, .int .i64 0, .int .i64 0, .int .i64 0, .int .i64 0, .bool false] (0, 0) _ rfl H5.out.1 Try.underlying45 rfl (by kernel_rfl)) rfl ?_
      rw [HE.out]
      exact ⟨rfl, H5.out.2⟩
    · obtain ⟨m, rfl⟩ : ∃ m, k = m + 1 := ⟨k - 1, by omega⟩
      rw [show ((m + 1 : Nat) : Int) - 1 = (m : Int) by omega]
      have hm : m < xs.length := by omega
      obtain ⟨y, hy⟩ : ∃ y, xs[m]? = some y := ⟨_, List.getElem?_eq_getElem hm⟩
      obtain ⟨ab, off, rfl, hab, hra⟩ := HS.out.1.at hy
      have HRa := hide' hra
      have hm' : (m : Int) < (xs.length : Int) := by omega
      have Hw := hide' (wpred m (by have := Hl.out; omega))
      have HB : Hid (∀ o, Acs (wr.alloc o) (some ⟨ab, off, none⟩) xs ∧ Below w.heap.size w (wr.alloc o) ∧ Ab xb x (wr.alloc o) ∧ Ab (xb + 1) zA (wr.alloc o)) := hide' (fun o => by
        have k : Below wr.heap.size wr (wr.alloc o) := (Below.refl _ _).alloc (Nat.le_refl _) _
        exact ⟨HS.out.1.below k, HS.out.2.1.trans (k.mono HS.out.2.1.size), HS.out.2.2.1.below k, HS.out.2.2.2.below k⟩)
      have c2 := fun o => (HB.out o).2.2.1.c2
      have c3 := fun o => (HB.out o).2.2.1.c3
      have c4 := fun o => (HB.out o).2.2.1.c4
      have HY : Hid (isP x.t y = false → ∀ j z, m ≤ j → xs[j]? = some z → isP x.t z = false) := hide' (fun q j z hj hz => by
        by_cases e : j = m
        · subst e; rw [hy] at hz; cases hz; exact q
        · exact HN.out j z (by omega) hz)
      have HF : Hid (isP x.t y = true → R = some y) := hide' (fun q => by
        rw [HR.out, lst_cut (xs.length - (m + 1)) (m + 1) (by omega) HN.out, List.take_succ_eq_append_getElem hm, lst_add]
        have : xs[m] = y := by rw [List.getElem?_eq_getElem hm] at hy; exact Option.some.inj hy
        rw [this, if_pos q])
      clear hy hra HN HR hab
      by_cases e0 : y.d = 2
      · by_cases e2 : y.t.s = x.t.s
        · by_cases e3 : y.t.o = x.t.o
          · by_cases e4 : y.t.a = x.t.a
            · have HE := hide' (HF.out (isP_of e0 (Tr.ext' e2 e3 e4)))
              clear HY HF
              obtain ⟨tg, al, hy2⟩ : ∃ tg al, y = ⟨2, tg, x.t, al⟩ := ⟨y.tag, y.al, by cases y; simp only at e0 e2 e3 e4 ⊢; rw [e0]; congr 1; exact Tr.ext' e2 e3 e4⟩
              subst hy2
              clear e0 e2 e3 e4
              replace HRa : Hid (wr.rangeAt ab (off + m * 6) [.int .i64 2, .int .i64 tg, .int .i64 x.t.s, .int .i64 x.t.o, .int .i64 x.t.a, .bool al]) := HRa
              obtain ⟨w5, hw5⟩ : ∃ w5, w5 = (wr.alloc (.cells #[.int .i64 2, .int .i64 tg, .int .i64 x.t.s, .int .i64 x.t.o, .int .i64 x.t.a, .bool al] 45)).setCells (xb + 1) 0 [.int .i64 2, .int .i64 tg, .int .i64 x.t.s, .int .i64 x.t.o, .int .i64 x.t.a, .bool al] := ⟨_, rfl⟩
              have H5 : Hid (Ab (xb + 1) ⟨2, tg, x.t, al⟩ w5 ∧ Below w.heap.size w w5) := hide' (by
                rw [hw5]
                have := HB.out (.cells #[.int .i64 2, .int .i64 tg, .int .i64 x.t.s, .int .i64 x.t.o, .int .i64 x.t.a, .bool al] 45)
                exact ⟨this.2.2.2.put (y := ⟨2, tg, x.t, al⟩), this.2.1.trans ((turn_cells (xb + 1) _ 0 _).below (fun j hj => by rw [hj, Hx.out]; omega) this.2.1.size)⟩)
              have HW5 := hide' hw5
              have Hth := hide' (HB.out (.cells #[.int .i64 2, .int .i64 tg, .int .i64 x.t.s, .int .i64 x.t.o, .int .i64 x.t.a, .bool al] 45)).2.2.2.there
              clear hw5 HS HB
              go_wp2_with (with_reducible refine stay_load 45 _ rfl ?_)
              unfold Stay
              refine wpList_load_mid rfl 45 _ rfl ab (off + m * 6) rfl [.int .i64 2, .int .i64 tg, .int .i64 x.t.s, .int .i64 x.t.o, .int .i64 x.t.a, .bool al] _ HRa.out Try.underlying45 rfl (by kernel_rfl) ?_
              go_wp2_with (with_reducible refine stay_load 45 _ rfl ?_)
              unfold Stay
              refine wpList_load_row rfl 45 _ rfl wr.heap.size rfl 45 #[.int .i64 2, .int .i64 tg, .int .i64 x.t.s, .int .i64 x.t.o, .int .i64 x.t.a, .bool al] (0, 0) _ (heap_alloc_new wr _) Try.underlying45 rfl (by kernel_rfl) ?_
              go_wp2_with (with_reducible refine stay_store 45 _ _ rfl ?_)
              unfold Stay
              refine wpList_store_mid rfl 45 _ _ rfl (xb + 1) 0 #[.int .i64 2, .int .i64 tg, .int .i64 x.t.s, .int .i64 x.t.o, .int .i64 x.t.a, .bool al] rfl rfl Hth.out (by kernel_rfl) (by simp [Value.oneCell']) ?_
              show wpList _ _ _ _ _ ((wr.alloc (.cells #[.int .i64 2, .int .i64 tg, .int .i64 x.t.s, .int .i64 x.t.o, .int .i64 x.t.a, .bool al] 45)).setCells (xb + 1) 0 [.int .i64 2, .int .i64 tg, .int .i64 x.t.s, .int .i64 x.t.o, .int .i64 x.t.a, .bool al])
              rw [← HW5.out]
              go_wp2
              refine bodyPost_ret (results_row_tmp rfl _ _ (xb + 1) 45 #[.int .i64 2, .int .i64 tg, .int .i64 x.t.s, .int .i64 x.t.o, .int .i64 x.t.a, .bool al] (0, 0) _ rfl H5.out.1 Try.underlying45 rfl (by kernel_rfl)) rfl ?_
              rw [HE.out]
              exact ⟨rfl, H5.out.2⟩
            · have HNo := hide' (HY.out (isP_not (fun q => e4 (by rw [q.2]))))
              clear HY HF HS
              go_wp2_with (with_reducible refine stay_load 45 _ rfl ?_)
              unfold Stay
              refine wpList_load_mid rfl 45 _ rfl ab (off + m * 6) rfl [.int .i64 y.d, .int .i64 y.tag, .int .i64 y.t.s, .int .i64 y.t.o, .int .i64 y.t.a, .bool y.al] _ HRa.out Try.underlying45 rfl (by kernel_rfl) ?_
              go_wp2
              exact ⟨⟨m, by omega, by rw [Hw.out], HNo, hide' (HB.out _)⟩, by rw [Hw.out]; exact msrd⟩
          · have HNo := hide' (HY.out (isP_not (fun q => e3 (by rw [q.2]))))
            clear HY HF HS
            go_wp2_with (with_reducible refine stay_load 45 _ rfl ?_)
            unfold Stay
            refine wpList_load_mid rfl 45 _ rfl ab (off + m * 6) rfl [.int .i64 y.d, .int .i64 y.tag, .int .i64 y.t.s, .int .i64 y.t.o, .int .i64 y.t.a, .bool y.al] _ HRa.out Try.underlying45 rfl (by kernel_rfl) ?_
            go_wp2
            exact ⟨⟨m, by omega, by rw [Hw.out], HNo, hide' (HB.out _)⟩, by rw [Hw.out]; exact msrd⟩
        · have HNo := hide' (HY.out (isP_not (fun q => e2 (by rw [q.2]))))
          clear HY HF HS
          go_wp2_with (with_reducible refine stay_load 45 _ rfl ?_)
          unfold Stay
          refine wpList_load_mid rfl 45 _ rfl ab (off + m * 6) rfl [.int .i64 y.d, .int .i64 y.tag, .int .i64 y.t.s, .int .i64 y.t.o, .int .i64 y.t.a, .bool y.al] _ HRa.out Try.underlying45 rfl (by kernel_rfl) ?_
          go_wp2
          exact ⟨⟨m, by omega, by rw [Hw.out], HNo, hide' (HB.out _)⟩, by rw [Hw.out]; exact msrd⟩
      · have HNo := hide' (HY.out (isP_not (fun q => e0 q.1)))
        clear HY HF HS
        go_wp2_with (with_reducible refine stay_load 45 _ rfl ?_)
        unfold Stay
        refine wpList_load_mid rfl 45 _ rfl ab (off + m * 6) rfl [.int .i64 y.d, .int .i64 y.tag, .int .i64 y.t.s, .int .i64 y.t.o, .int .i64 y.t.a, .bool y.al] _ HRa.out Try.underlying45 rfl (by kernel_rfl) ?_
        go_wp2
        exact ⟨⟨m, by omega, by rw [Hw.out], HNo, hide' (HB.out _)⟩, by rw [Hw.out]; exact msrd⟩
end C
end Go.Proofs.Ytjmkofdnlhfaiaa
