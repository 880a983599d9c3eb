import Derived.Test.YtppcofopnelgjaaGreatDoorGrL
import Derived.Test.YtppcofopnelgjaaGreatDoorGrK
import Derived.Test.YtppcofopnelgjaaGreatDoorGrTo
import Derived.Test.YtppcofopnelgjaaGreatDoorGrI
import Derived.Deep.Cut
import Derived.Deep.CutBlock
import Derived.Deep.DeepCutAuto
set_option linter.unusedVariables false
set_option linter.unusedSimpArgs false
namespace Go.Proofs.YtppcofopnelgjaaGreatDoor
open Go.RowKit
namespace Fs
theorem cellsT_at (c : List R.Tok) : ∀ (j : Nat) (t : R.Tok), c[j]? = some t → (c.flatMap cellsT)[j * 4]? = some (.int .i8 t.1) ∧ (c.flatMap cellsT)[j * 4 + 1]? = some (.string t.2.1) ∧ (c.flatMap cellsT)[j * 4 + 2]? = some (.int .i64 t.2.2.1) ∧ (c.flatMap cellsT)[j * 4 + 3]? = some (.int .i64 t.2.2.2) := by
  induction c with
  | nil => intro j t h; simp at h
  | cons y ys ih =>
    intro j t h
    cases j with
    | zero =>
      simp only [List.getElem?_cons_zero, Option.some.injEq] at h
      subst h
      simp [cellsT]
    | succ j =>
      rw [List.getElem?_cons_succ] at h
      have := ih j t h
      have e : ∀ k, k < 4 → ((y :: ys).flatMap cellsT)[(j + 1) * 4 + k]? = (ys.flatMap cellsT)[j * 4 + k]? := by
        intro k hk
        rw [List.flatMap_cons, List.getElem?_append_right (by simp [cellsT]; omega)]
        congr 1
        simp [cellsT]; omega
      exact ⟨(e 0 (by omega)).trans this.1, (e 1 (by omega)).trans this.2.1, (e 2 (by omega)).trans this.2.2.1, (e 3 (by omega)).trans this.2.2.2⟩
theorem toks_block {c : List R.Tok} {b : Nat} {cs : Array Value} {W : World} (h : W.heap[b]? = some (.cells cs 44 (0, 0))) (hc : cs = (c.flatMap cellsT).toArray) : Toks c (some ⟨b, 0, none⟩) (fun _ => False) W := by
  subst hc
  intro j t hj
  obtain ⟨a0, a1, a2, a3⟩ := cellsT_at c j t hj
  have hl : b < W.heap.size := (Array.getElem?_eq_some_iff.1 h).1
  refine ⟨b, 0, rfl, fun q => q, hl, ?_, ?_, ?_, ?_⟩
  · rw [Nat.zero_add, Lib.cell_of_heap h]; simpa using a0
  · rw [Nat.zero_add, Lib.cell_of_heap h]; simpa using a1
  · rw [Nat.zero_add, Lib.cell_of_heap h]; simpa using a2
  · rw [Nat.zero_add, Lib.cell_of_heap h]; simpa using a3
def objs (w : World) : List Obj := [.cells #[.int .i8 2, .string ⟨#[110]⟩, .int .i64 0, .int .i64 0] 44,
    .cells #[.int .i8 4, .string ⟨#[59]⟩, .int .i64 0, .int .i64 0] 44,
    .cells #[.int .i8 4, .string ⟨#[58]⟩, .int .i64 0, .int .i64 0] 44,
    .cells #[.int .i8 1, .string ⟨#[111, 110]⟩, .int .i64 0, .int .i64 0] 44,
    .cells #[] 44,
    .cells #[.int .i8 4, .string ⟨#[59]⟩, .int .i64 0, .int .i64 0] 44,
    .cells #[.int .i8 2, .string ⟨#[110]⟩, .int .i64 0, .int .i64 0, .int .i8 4, .string ⟨#[59]⟩, .int .i64 0, .int .i64 0] 44,
    .cells #[.int .i8 4, .string ⟨#[58]⟩, .int .i64 0, .int .i64 0, .int .i8 2, .string ⟨#[110]⟩, .int .i64 0, .int .i64 0, .int .i8 4, .string ⟨#[59]⟩, .int .i64 0, .int .i64 0] 44,
    .cells #[.int .i8 2, .string ⟨#[110]⟩, .int .i64 0, .int .i64 0, .int .i8 4, .string ⟨#[58]⟩, .int .i64 0, .int .i64 0, .int .i8 2, .string ⟨#[110]⟩, .int .i64 0, .int .i64 0, .int .i8 4, .string ⟨#[59]⟩, .int .i64 0, .int .i64 0] 44,
    .cells #[.int .i8 1, .string ⟨#[111, 110]⟩, .int .i64 0, .int .i64 0, .int .i8 2, .string ⟨#[110]⟩, .int .i64 0, .int .i64 0, .int .i8 4, .string ⟨#[58]⟩, .int .i64 0, .int .i64 0, .int .i8 2, .string ⟨#[110]⟩, .int .i64 0, .int .i64 0, .int .i8 4, .string ⟨#[59]⟩, .int .i64 0, .int .i64 0] 44,
    .cells #[.int .i8 2, .string ⟨#[110]⟩, .int .i64 0, .int .i64 0, .int .i8 1, .string ⟨#[111, 110]⟩, .int .i64 0, .int .i64 0, .int .i8 2, .string ⟨#[110]⟩, .int .i64 0, .int .i64 0, .int .i8 4, .string ⟨#[58]⟩, .int .i64 0, .int .i64 0, .int .i8 2, .string ⟨#[110]⟩, .int .i64 0, .int .i64 0, .int .i8 4, .string ⟨#[59]⟩, .int .i64 0, .int .i64 0] 44,
    .cells #[.int .i8 3, .string ⟨#[49]⟩, .int .i64 0, .int .i64 0, .int .i8 4, .string ⟨#[59]⟩, .int .i64 0, .int .i64 0] 44,
    .cells #[.slice (some ⟨w.heap.size + 1 + 1 + 1 + 1, 0, none⟩) 0 0, .slice (some ⟨w.heap.size + 1 + 1 + 1 + 1 + 1, 0, none⟩) 1 1, .slice (some ⟨w.heap.size + 1 + 1 + 1 + 1 + 1 + 1, 0, none⟩) 2 2, .slice (some ⟨w.heap.size + 1 + 1 + 1 + 1 + 1 + 1 + 1, 0, none⟩) 3 3, .slice (some ⟨w.heap.size + 1 + 1 + 1 + 1 + 1 + 1 + 1 + 1, 0, none⟩) 4 4, .slice (some ⟨w.heap.size + 1 + 1 + 1 + 1 + 1 + 1 + 1 + 1 + 1, 0, none⟩) 5 5, .slice (some ⟨w.heap.size + 1 + 1 + 1 + 1 + 1 + 1 + 1 + 1 + 1 + 1, 0, none⟩) 6 6, .slice (some ⟨w.heap.size + 1 + 1 + 1 + 1 + 1 + 1 + 1 + 1 + 1 + 1 + 1, 0, none⟩) 2 2] 40]
theorem objs_facts (w W : World) (hW : W = (objs w).foldl World.alloc w) :
    (∀ j c, R.M.closings[j]? = some c → ∃ gc ccap, W.cell? ⟨w.heap.size + 1 + 1 + 1 + 1 + 1 + 1 + 1 + 1 + 1 + 1 + 1 + 1, j, none⟩ = some (.slice (some gc) c.length ccap) ∧ c.length ≤ ccap ∧ Toks c (some gc) (fun _ => False) W) ∧ Below w.heap.size w W := by
  subst hW
  obtain ⟨h1, h2, h3⟩ := news_at (objs w) w
  refine ⟨fun j c hj => ?_, h3⟩
  have hl := h1 12 _ rfl
  have hj8 : j < 8 := (List.getElem?_eq_some_iff.1 hj).1
  match j, hj8 with
  | 0, _ =>
    obtain rfl : [] = c := Option.some.inj hj
    exact ⟨⟨w.heap.size + 1 + 1 + 1 + 1, 0, none⟩, 0, by rw [show w.heap.size + 1 + 1 + 1 + 1 + 1 + 1 + 1 + 1 + 1 + 1 + 1 + 1 = w.heap.size + 12 from rfl, Lib.cell_of_heap hl]; rfl, by decide, toks_block (h1 4 _ rfl) rfl⟩
  | 1, _ =>
    obtain rfl : [R.M.tSemi] = c := Option.some.inj hj
    exact ⟨⟨w.heap.size + 1 + 1 + 1 + 1 + 1, 0, none⟩, 1, by rw [show w.heap.size + 1 + 1 + 1 + 1 + 1 + 1 + 1 + 1 + 1 + 1 + 1 + 1 = w.heap.size + 12 from rfl, Lib.cell_of_heap hl]; rfl, by decide, toks_block (h1 5 _ rfl) rfl⟩
  | 2, _ =>
    obtain rfl : [R.M.tN, R.M.tSemi] = c := Option.some.inj hj
    exact ⟨⟨w.heap.size + 1 + 1 + 1 + 1 + 1 + 1, 0, none⟩, 2, by rw [show w.heap.size + 1 + 1 + 1 + 1 + 1 + 1 + 1 + 1 + 1 + 1 + 1 + 1 = w.heap.size + 12 from rfl, Lib.cell_of_heap hl]; rfl, by decide, toks_block (h1 6 _ rfl) rfl⟩
  | 3, _ =>
    obtain rfl : [R.M.tColon, R.M.tN, R.M.tSemi] = c := Option.some.inj hj
    exact ⟨⟨w.heap.size + 1 + 1 + 1 + 1 + 1 + 1 + 1, 0, none⟩, 3, by rw [show w.heap.size + 1 + 1 + 1 + 1 + 1 + 1 + 1 + 1 + 1 + 1 + 1 + 1 = w.heap.size + 12 from rfl, Lib.cell_of_heap hl]; rfl, by decide, toks_block (h1 7 _ rfl) rfl⟩
  | 4, _ =>
    obtain rfl : [R.M.tN, R.M.tColon, R.M.tN, R.M.tSemi] = c := Option.some.inj hj
    exact ⟨⟨w.heap.size + 1 + 1 + 1 + 1 + 1 + 1 + 1 + 1, 0, none⟩, 4, by rw [show w.heap.size + 1 + 1 + 1 + 1 + 1 + 1 + 1 + 1 + 1 + 1 + 1 + 1 = w.heap.size + 12 from rfl, Lib.cell_of_heap hl]; rfl, by decide, toks_block (h1 8 _ rfl) rfl⟩
  | 5, _ =>
    obtain rfl : [R.M.tOn, R.M.tN, R.M.tColon, R.M.tN, R.M.tSemi] = c := Option.some.inj hj
    exact ⟨⟨w.heap.size + 1 + 1 + 1 + 1 + 1 + 1 + 1 + 1 + 1, 0, none⟩, 5, by rw [show w.heap.size + 1 + 1 + 1 + 1 + 1 + 1 + 1 + 1 + 1 + 1 + 1 + 1 = w.heap.size + 12 from rfl, Lib.cell_of_heap hl]; rfl, by decide, toks_block (h1 9 _ rfl) rfl⟩
  | 6, _ =>
    obtain rfl : [R.M.tN, R.M.tOn, R.M.tN, R.M.tColon, R.M.tN, R.M.tSemi] = c := Option.some.inj hj
    exact ⟨⟨w.heap.size + 1 + 1 + 1 + 1 + 1 + 1 + 1 + 1 + 1 + 1, 0, none⟩, 6, by rw [show w.heap.size + 1 + 1 + 1 + 1 + 1 + 1 + 1 + 1 + 1 + 1 + 1 + 1 = w.heap.size + 12 from rfl, Lib.cell_of_heap hl]; rfl, by decide, toks_block (h1 10 _ rfl) rfl⟩
  | 7, _ =>
    obtain rfl : [R.M.tOne, R.M.tSemi] = c := Option.some.inj hj
    exact ⟨⟨w.heap.size + 1 + 1 + 1 + 1 + 1 + 1 + 1 + 1 + 1 + 1 + 1, 0, none⟩, 2, by rw [show w.heap.size + 1 + 1 + 1 + 1 + 1 + 1 + 1 + 1 + 1 + 1 + 1 + 1 = w.heap.size + 12 from rfl, Lib.cell_of_heap hl]; rfl, by decide, toks_block (h1 11 _ rfl) rfl⟩
set_option maxRecDepth 100000 in
set_option maxHeartbeats 4000000 in
theorem closings_any (w : World) : Calls Tryz.prog 43 #[] w fun e w' => ∃ g, e = .returned (.slice (some ⟨g, 0, none⟩) 8 8) ∧ (∀ j c, R.M.closings[j]? = some c → ∃ gc ccap, w'.cell? ⟨g, j, none⟩ = some (.slice (some gc) c.length ccap) ∧ c.length ≤ ccap ∧ Toks c (some gc) (fun _ => False) w') ∧ Below w.heap.size w w' := by
  go_enter Tryz.func43, Tryz.ntmps43
  go_wp2_with fail
  go_ret
  exact ⟨_, rfl, objs_facts w _ rfl⟩
end Fs
end Go.Proofs.YtppcofopnelgjaaGreatDoor
set_option linter.unusedVariables false
set_option linter.unusedSimpArgs false
namespace Go.Proofs.YtppcofopnelgjaaGreatDoor
open Go.RowKit
namespace Fs
theorem twin_at (l : List R.Tok) (k : Nat) (hk : l.length = k) (ao : Option Addr) (cap : Nat) (w : World) (few : l.length ≤ R.lim) (ht : Toks l ao (fun _ => False) w) :
    Calls Tryz.prog 17 #[.slice ao k cap] w fun e w' => ∃ v, e = .returned v ∧ w'.ownsRow w.heap.size 44 4 v l.length (l.flatMap cellsT) ∧ Below w.heap.size w w' := by
  subst hk
  exact twin_any l ao cap w few ht
theorem decls_at (l : List R.Tok) (k : Nat) (hk : l.length = k) (ao : Option Addr) (cap B : Nat) (w : World) (hc : l.length ≤ cap) (ok : TkOk l) (ht : Toks l ao (fun _ => False) w) (hT : TbB B w) :
    Calls Tryz.prog 19 #[.slice ao k cap] w fun e w' => DeclsIs l w e w' ∧ Below w.heap.size w w' := by
  subst hk
  exact decls_any l ao cap B w hc ok ht hT
theorem toks_take {l : List R.Tok} {ao : Option Addr} {S : Nat → Prop} {w : World} (h : Toks l ao S w) (k : Nat) : Toks (l.take k) ao S w := by
  intro j t hj
  rw [List.getElem?_take] at hj
  split at hj
  · exact h j t hj
  · cases hj
/-- the fault that an error of Decls is -/
def fltD (l : List R.Tok) : Value :=
  match R.decls l with
  | .ok _ _ => .agg #[.int .i64 0, .int .i64 0, .int .i64 0, .string ⟨#[]⟩]
  | .bad j c => .agg #[.int .i64 c, .int .i64 ((R.src l).at j).2.2.1, .int .i64 ((R.src l).at j).2.2.2, .string ((R.src l).at j).2.1]
theorem tell (l : List R.Tok) (w : World) (e : Ending) (w' : World) (h : DeclsIs l w e w') (hc : ∀ j c, R.decls l = .bad j c → c ≠ 0) :
    ∃ s n cap ev, e = .returned (.tuple #[.slice s n cap, ev]) ∧ (ev = .nilIface ↔ R.M.isOk l = true) ∧ (ev = .nilIface ∨ ∃ p, ev = .iface 72 (.pointer (some p))) ∧
      ∀ W, Below w'.heap.size w' W → W.cell? ⟨0, 0, none⟩ = some (ty 33) → Calls Tryz.prog 14 #[ev] W fun e w'' => e = .returned (.tuple #[fltD l, .bool true]) ∧ Below W.heap.size W w'' := by
  unfold DeclsIs at h
  unfold fltD R.M.isOk
  cases hd : R.decls l with
  | ok ds j =>
    simp only [hd] at h
    obtain ⟨ps, v, rfl, _, D⟩ := h
    obtain ⟨s, c, rfl⟩ := row_form D.row
    exact ⟨s, _, c, _, rfl, by simp, .inl rfl, fun W _ _ => told_nil W⟩
  | bad j c =>
    simp only [hd] at h
    obtain ⟨fb, rfl, hfb, hF⟩ := h
    refine ⟨none, 0, 0, _, rfl, by simp, .inr ⟨_, rfl⟩, fun W b hg => ?_⟩
    have hlt : fb < w'.heap.size := (Array.getElem?_eq_some_iff.1 hF).1
    exact told_flt fb c _ _ (by simpa using hc j c hd) _ W ((b.block fb hlt).trans hF) hg
/-- a token and a fault of their own -/
theorem two44 (w : World) (a b c d a' b' c' d' : Value) :
    Tk w.heap.size a b c d ((w.alloc (.cells #[a, b, c, d] 44)).alloc (.cells #[a', b', c', d'] 26)) ∧
    Tk (w.heap.size + 1) a' b' c' d' ((w.alloc (.cells #[a, b, c, d] 44)).alloc (.cells #[a', b', c', d'] 26)) ∧
    Below w.heap.size w ((w.alloc (.cells #[a, b, c, d] 44)).alloc (.cells #[a', b', c', d'] 26)) ∧
    ((w.alloc (.cells #[a, b, c, d] 44)).alloc (.cells #[a', b', c', d'] 26)).heap.size = w.heap.size + 2 := by
  obtain ⟨h1, h2, h3⟩ := news_at [.cells #[a, b, c, d] 44, .cells #[a', b', c', d'] 26] w
  exact ⟨Tk.of_cells (h1 0 _ rfl), Tk.of_cells (h1 1 _ rfl), h3, h2⟩
theorem flat_text (F : List R.Tok) : ∀ (j : Nat) (t : R.Tok) (s : ByteArray), F[j]? = some t → (F.flatMap cellsT).set (j * 4 + 1) (.string s) = (F.set j (t.1, s, t.2.2.1, t.2.2.2)).flatMap cellsT := by
  induction F with
  | nil => intro j t s h; simp at h
  | cons y F ih =>
    intro j t s h
    cases j with
    | zero =>
      simp only [List.getElem?_cons_zero, Option.some.injEq] at h
      subst h
      simp [cellsT]
    | succ j =>
      rw [List.getElem?_cons_succ] at h
      have := ih j t s h
      simp only [List.set_cons_succ, List.flatMap_cons]
      rw [← this, List.set_append_right _ _ (by rw [cellsT_len]; omega), cellsT_len]
      congr 2
      omega
/-- a token's text written over, in a row of one's own -/
theorem row_text {B : Nat} {v : Value} {F : List R.Tok} {w : World} {j : Nat} {t : R.Tok} (h : w.ownsRow B 44 4 v F.length (F.flatMap cellsT)) (hj : F[j]? = some t) :
    ∃ g cap, v = .slice (some ⟨g, 0, none⟩) F.length cap ∧ F.length ≤ cap ∧ B ≤ g ∧ g < w.heap.size ∧ w.cell? ⟨g, j * 4 + 1, none⟩ = some (.string t.2.1) ∧ w.frozen? ⟨g, j * 4 + 1, none⟩ = false ∧
      ∀ s, (w.setCell ⟨g, j * 4 + 1, none⟩ (.string s)).ownsRow B 44 4 v F.length ((F.set j (t.1, s, t.2.2.1, t.2.2.2)).flatMap cellsT) := by
  have hlt : j < F.length := (List.getElem?_eq_some_iff.1 hj).1
  rcases h.2 with ⟨_, h0⟩ | ⟨g, cap, cur, rfl, hb, hg, hc, _⟩
  · omega
  · refine ⟨g, cap, rfl, hc, hb, (Array.getElem?_eq_some_iff.1 hg).1, ?_, World.ownsRow.frozenAt h _, fun s => ?_⟩
    · rw [World.ownsRow.cellAt h (j * 4 + 1) (by omega)]
      exact (cellsT_at F j t hj).2.1
    · have := (World.ownsRow.stored h (j * 4 + 1) (.string s)).1
      rw [flat_text F j t s hj] at this
      exact this
/-- what the fault is, of tokens without an end -/
theorem fault_form (F : List R.Tok) (h5 : ∀ t ∈ F, t.1 ≠ 5) : ∃ c l k wo, fltD F = .agg #[.int .i64 c, .int .i64 l, .int .i64 k, .string wo] ∧
    (((∀ j, j ≤ F.length → R.M.alive (F.take j) = true) ∧ (c = 0 ∨ c = 40) ∧ l = 0 ∧ k = 0 ∧ wo = ⟨#[]⟩) ∨
     ∃ i t, F[i]? = some t ∧ (∀ j, j ≤ i → R.M.alive (F.take j) = true) ∧ R.M.alive (F.take (i + 1)) = false ∧ c = (if t.1 = 3 ∧ R.M.alive (F.take i ++ [(3, R.M.bn [48, 46, 53], t.2.2.1, t.2.2.2)]) = true then 23 else 40) ∧ l = t.2.2.1 ∧ k = t.2.2.2 ∧ wo = t.2.1) := by
  have hs := R.M.src_plain F h5
  unfold fltD
  rcases R.M.first_fault F h5 with ⟨h1, ⟨ds, j, h2⟩ | h2⟩ | ⟨i, t, h1, h2, h3, h4⟩
  · rw [h2]
    exact ⟨_, _, _, _, rfl, .inl ⟨h1, .inl rfl, rfl, rfl, rfl⟩⟩
  · rw [h2, hs]
    have e : R.Src.at ⟨F, (5, ByteArray.empty, 0, 0)⟩ F.length = (5, ByteArray.empty, 0, 0) := by unfold R.Src.at; simp
    simp only [e]
    exact ⟨_, _, _, _, rfl, .inl ⟨h1, .inr rfl, rfl, rfl, rfl⟩⟩
  · rw [h4, hs]
    have e : R.Src.at ⟨F, (5, ByteArray.empty, 0, 0)⟩ i = t := by unfold R.Src.at; simp [List.getD_eq_getElem?_getD, h1]
    simp only [e]
    exact ⟨_, _, _, _, rfl, .inr ⟨i, t, h1, h2, h3, rfl, rfl, rfl, rfl⟩⟩
end Fs
end Go.Proofs.YtppcofopnelgjaaGreatDoor
set_option linter.unusedVariables false
set_option linter.unusedSimpArgs false
namespace Go.Proofs.YtppcofopnelgjaaGreatDoor
open Go.RowKit
namespace Fs
theorem msr' {k n : Nat} (h : k < n) (i : Int) (e : i = (k : Int) + 1) : n - (intOf (.int .i64 i)).toNat < n - (intOf (.int .i64 (k : Int))).toNat := by
  rw [e]
  show n - ((k : Int) + 1).toNat < n - (k : Int).toNat
  omega
theorem clos_size : ∀ c ∈ R.M.closings, c.length ≤ 6 ∧ ∀ t ∈ c, t.2.1.size ≤ 2 := by decide
set_option maxRecDepth 100000 in
set_option maxHeartbeats 8000000 in
theorem goes_any (l : List R.Tok) (n k : Nat) (ao : Option Addr) (cap B : Nat) (w : World) (hn : l.length = n) (hk : k ≤ n) (hc : n ≤ cap) (few : n ≤ 1048576) (small : ∀ t ∈ l, t.2.1.size ≤ 1048576) (no5 : ∀ t ∈ l, t.1 ≠ 5) (ht : Toks l ao (fun _ => False) w) (hT : TbB B w) :
    Calls Tryz.prog 24 #[.slice ao n cap, .int .i64 (k : Int)] w fun e w' => e = .returned (.bool (R.M.alive (l.take k))) ∧ Below w.heap.size w w' := by
  have no5' : ∀ t ∈ l.take k, t.1 ≠ 5 := fun t h => no5 t (List.mem_of_mem_take h)
  have small' : ∀ t ∈ l.take k, t.2.1.size ≤ 1048576 := fun t h => small t (List.mem_of_mem_take h)
  have ht' := toks_take ht k
  have hlk : (l.take k).length = k := by rw [List.length_take]; omega
  rw [R.M.alive_closes _ no5']
  generalize l.take k = L at *
  have H := hide' (And.intro ht' (And.intro hT (And.intro small' (And.intro hlk (And.intro no5' few)))))
  have E1 : Hid (∀ k : Nat, k ≤ 1000 → wrap64 ((k : Int) + 1) = (k : Int) + 1) := hide' (fun k hk => by unfold wrap64; omega)
  have hki : (k : Int) ≤ (cap : Int) := by omega
  have hkc : k ≤ cap := by omega
  have hkn : k ≤ 1048576 := by omega
  have HK := hide' hkn
  have hi44 := info29
  cases hq44 : Tryz.prog.info? 44 with
  | none => simp [hq44] at hi44
  | some i0 =>
  obtain ⟨hz0, hz1, hz2⟩ : i0.zero = some (.agg #[.int .i8 0, .string ByteArray.empty, .int .i64 0, .int .i64 0]) ∧ i0.size = 4 ∧ i0.bytes = 40 := by simpa [hq44] using hi44
  have Hz := hide' (And.intro hq44 (And.intro hz0 (And.intro hz1 hz2)))
  clear hi44 hq44 hz0 hz1 hz2 ht ht' hT small small' no5 no5' hlk few hn hk hc hkn
  go_enter Tryz.func24, Tryz.ntmps24
  go_upto_region 2 with (go_at_call 43; refine (closings_any _).mono ?_; rintro e w1 ⟨g, rfl, hcl, b1⟩; have H1 := hide' (And.intro hcl b1); clear hcl b1)
  go_wp2_with fail
  go_loopw [6] (fun i wx => ∃ (j : Nat) (V : World), V = wx ∧ i = .int .i64 (j : Int) ∧ j ≤ 8 ∧ Below w1.heap.size w1 V ∧ ∀ m c, m < j → R.M.closings[m]? = some c → R.M.isOk (L ++ c) = false) (fun i _ => 8 - (intOf i).toNat)
  case atStart => exact ⟨0, _, rfl, rfl, Nat.zero_le _, Below.refl _ _, fun m c h => by omega⟩
  case round =>
    obtain ⟨j, V, rfl, rfl, hj, bw, hno⟩ := hrel
    have Bw := hide' bw
    have HNo := hide' hno
    clear hno
    by_cases hlt : j < 8
    · have hlt' : (j : Int) < 8 := by omega
      obtain ⟨c, hcj⟩ : ∃ c, R.M.closings[j]? = some c := ⟨_, List.getElem?_eq_getElem (show j < R.M.closings.length by show j < 8; exact hlt)⟩
      obtain ⟨gc, ccap, q1, q2, q3⟩ := H1.out.1 j c hcj
      have hcm := List.mem_of_getElem? hcj
      obtain ⟨m1, m2⟩ := clos_size c hcm
      have m5 := R.M.closings_plain c hcm
      have c1 : V.cell? ⟨g, j, none⟩ = some (.slice (some gc) c.length ccap) := (bw.cell (p := ⟨g, j, none⟩) (lt_of_cell q1)).trans q1
      have t1 : Toks c (some gc) (fun _ => False) V := q3.below bw
      have e1 := E1.out j (by omega)
      have Hend := hide' (msr' hlt _ e1)
      have Hlt := hide' hlt
      have b0 : Below w.heap.size w V := H1.out.2.trans (bw.mono H1.out.2.size)
      have HV := hide' (And.intro b0 (And.intro t1 (And.intro hcj (And.intro m1 (And.intro m2 m5)))))
      have HT := hide' (twin_at L k H.out.2.2.2.1 ao cap V (by rw [H.out.2.2.2.1]; have := HK.out; unfold R.lim; omega) (H.out.1.below b0))
      clear bw hj hlt q1 q2 q3 t1 b0 hcm m2 m5 hcj
      go_upto_region 6 with (go_at_call 17; refine HT.out.mono ?_; rintro e w2 ⟨v, rfl, r2, b2⟩; have H2 := hide' (And.intro r2 b2); clear r2 b2)
      have c2 := (H2.out.2.cell (p := ⟨g, j, none⟩) (lt_of_cell c1)).trans c1
      have t2 := hide' (HV.out.2.1.below H2.out.2)
      have HL := H.out.2.2.2.1
      have hkk := HK.out
      obtain ⟨m, hm⟩ : ∃ m, (L ++ c).length = m := ⟨_, rfl⟩
      have Hm := hide' hm
      clear hm
      clear c1 HT
      go_upto_region 7 with (at_builtin; go_loud (refine wpList_append_src rfl _ _ 40 rfl V.heap.size 44 i0 _ 4 40 Tryz.underlying40 Hz.out.1 Hz.out.2.1 Hz.out.2.2.1 Hz.out.2.2.2 rfl (by decide) v _ _ rfl H2.out.1 (some gc) c.length ccap (c.flatMap cellsT) rfl (fun q => by cases q) (flat4_len c) (toks_cells t2.out) (flat4_one c) (by rw [HL]; unfold maxLen; omega) (by rw [HL]; omega) H2.out.2.size ?_); intro v7 w7 r7 g7 o7; have r7' : w7.ownsRow V.heap.size 44 4 v7 (L ++ c).length ((L ++ c).flatMap cellsT) := (by rw [List.length_append, List.flatMap_append]; exact r7); have b7 : Below V.heap.size V w7 := H2.out.2.grown g7 H2.out.2.size (fun k q => (H2.out.1.lt k q).1); obtain ⟨x7, c7, hv7, hc7, t7⟩ := toks_row r7'; rw [Hm.out] at hv7; subst hv7; have H7 := hide' (And.intro t7 (And.intro hc7 b7)); clear r7 r7' g7 o7 b7 hc7 t7)
      have hn1 : (L ++ c).length = k + c.length := by rw [List.length_append, HL]
      have HD := hide' (decls_at (L ++ c) m Hm.out x7 c7 B w7 H7.out.2.1 ⟨by rw [hn1]; unfold R.lim; omega, fun t ht => (List.mem_append.1 ht).elim (fun q => by have := H.out.2.2.1 t q; unfold R.lim; omega) (fun q => by have := HV.out.2.2.2.2.1 t q; unfold R.lim; omega)⟩ H7.out.1 (H.out.2.1.below (HV.out.1.trans (H7.out.2.2.mono HV.out.1.size))))
      clear hn1 HL hkk m1 c2
      go_upto_region 8 with (go_at_call 19; go_loud (refine HD.out.mono ?_; rintro e w8 ⟨d8, b8⟩; obtain ⟨s, n8, cap8, ev, rfl, hev, hev2, _⟩ := tell _ _ _ _ d8 (fun j c h => by have := R.M.bad_code _ _ _ h; omega); have H8 := hide' (And.intro hev b8); clear d8 b8 hev))
      have bb : Hid (Below w.heap.size w w8 ∧ Below w1.heap.size w1 w8) := hide' (by
        have z1 := H1.out.2.size
        have z2 := Bw.out.size
        exact ⟨(HV.out.1.trans (H7.out.2.2.mono HV.out.1.size)).trans (H8.out.2.mono (by have := H7.out.2.2.size; omega)), (Bw.out.trans (H7.out.2.2.mono z2)).trans (H8.out.2.mono (by have := H7.out.2.2.size; omega))⟩)
      rcases hev2 with rfl | ⟨p, rfl⟩
      · have hyes : Hid (R.M.isOk (L ++ c) = true) := hide' (H8.out.1.1 rfl)
        go_wp2_with fail
        go_ret
        exact ⟨ret_bool (List.any_eq_true.2 ⟨c, List.mem_of_getElem? HV.out.2.2.1, hyes.out⟩).symm, bb.out.1⟩
      · have hno : Hid (R.M.isOk (L ++ c) = false) := hide' (by
          cases h : R.M.isOk (L ++ c) with
          | false => rfl
          | true => exact absurd (H8.out.1.2 h) (by simp))
        go_wp2_with fail
        refine ⟨⟨j + 1, w8, rfl, by first | rfl | (rw [e1]; rfl), Hlt.out, bb.out.2, fun m c' hm hc' => ?_⟩, by first | exact Hend.out | (rw [← e1]; exact Hend.out)⟩
        by_cases hmj : m < j
        · exact HNo.out m c' hmj hc'
        · obtain rfl : m = j := by omega
          rw [HV.out.2.2.1] at hc'
          cases hc'
          exact hno.out
    · obtain rfl : j = 8 := by omega
      have hlt' : ¬ (((8 : Nat) : Int) < 8) := by omega
      have hfin : R.M.closings.any (fun c => R.M.isOk (L ++ c)) = false := by
        rw [List.any_eq_false]
        intro c hc
        obtain ⟨m, hm, e⟩ := List.getElem_of_mem hc
        have := HNo.out m c (show m < 8 from hm) (by rw [List.getElem?_eq_getElem hm, e])
        rw [this]; decide
      have Hfin := hide' hfin
      clear hfin hj hlt
      go_wp2_with fail
      go_ret
      exact ⟨ret_bool Hfin.out.symm, H1.out.2.trans (Bw.out.mono H1.out.2.size)⟩
end Fs
end Go.Proofs.YtppcofopnelgjaaGreatDoor
