import Derived.Test.YtppcofopnelgjaaGreatDoorRPk
import Derived.Test.YtppcofopnelgjaaGreatDoorGrB
import Derived.Test.YtppcofopnelgjaaGreatDoorChOf
set_option linter.unusedVariables false
set_option linter.unusedSimpArgs false
namespace Go.Proofs.YtppcofopnelgjaaGreatDoor
open Go.RowKit
namespace R
theorem src_hit (l : List Tok) : ∀ (k : Nat) (t : Tok), (∀ j x, j < k → l[j]? = some x → x.1 ≠ 5) → l[k]? = some t → t.1 = 5 → src l = ⟨l.take k, (5, ByteArray.empty, t.2.2.1, t.2.2.2)⟩ := by
  induction l with
  | nil => intro k t _ h; simp at h
  | cons x l ih =>
    intro k t h1 h2 h3
    cases k with
    | zero =>
      simp at h2
      subst h2
      simp [src, h3]
    | succ k =>
      have hx := h1 0 x (by omega) rfl
      have := ih k t (fun j y hj hy => h1 (j + 1) y (by omega) (by simpa using hy)) (by simpa using h2) h3
      have hx' : (x.1 == 5) = false := by simpa using hx
      simp [src, hx', this]
theorem src_none (l : List Tok) (h : ∀ x ∈ l, x.1 ≠ 5) : src l = ⟨l, (5, ByteArray.empty, 0, 0)⟩ := by
  induction l with
  | nil => rfl
  | cons x l ih =>
    have hx' : (x.1 == 5) = false := by simpa using h x (List.mem_cons_self ..)
    simp [src, hx', ih (fun y hy => h y (List.mem_cons_of_mem _ hy))]
end R
/-- a list of tokens is not too long, nor are its texts -/
structure TkOk (l : List R.Tok) : Prop where
  few : l.length ≤ R.lim
  small : ∀ t ∈ l, t.2.1.size ≤ R.lim
theorem SrcOk.of {l : List R.Tok} (h : TkOk l) (k : Nat) (a b : Int) : SrcOk ⟨l.take k, (5, ByteArray.empty, a, b)⟩ := by
  refine ⟨⟨rfl, rfl⟩, ?_, fun j => ?_⟩
  · have := h.few
    simp only [List.length_take]; omega
  · by_cases hj : j < (l.take k).length
    · have : R.Src.at ⟨l.take k, (5, ByteArray.empty, a, b)⟩ j = (l.take k)[j] := by simp [R.Src.at, List.getD, List.getElem?_eq_getElem hj]
      rw [this]
      exact h.small _ (List.mem_of_mem_take (List.getElem_mem hj))
    · have : R.Src.at ⟨l.take k, (5, ByteArray.empty, a, b)⟩ j = (5, ByteArray.empty, a, b) := R.at_end hj
      rw [this]
      exact Nat.zero_le _
theorem Toks.take {l : List R.Tok} {ao : Option Addr} {S : Nat → Prop} {w : World} (h : Toks l ao S w) (k : Nat) : Toks (l.take k) ao S w := by
  intro j t hj
  rw [List.getElem?_take] at hj
  split at hj
  · exact h j t hj
  · cases hj
theorem Rdr.made {I : R.Src} {ao : Option Addr} {cap : Nat} {w : World} (ok : SrcOk I) (ht : Toks I.l ao (fun _ => False) w) :
    Rdr I ao cap w.heap.size 0 (w.alloc (.cells #[.slice ao I.l.length cap, .int .i8 5, .string ⟨#[]⟩, .int .i64 I.e.2.2.1, .int .i64 I.e.2.2.2, .int .i64 0] 121)) := by
  have hb := heap_alloc_new w (.cells #[.slice ao I.l.length cap, .int .i8 5, .string ⟨#[]⟩, .int .i64 I.e.2.2.1, .int .i64 I.e.2.2.2, .int .i64 0] 121)
  refine ⟨ok, Nat.zero_le _, by simp, (by rw [Lib.cell_of_heap hb]; rfl), (by rw [Lib.cell_of_heap hb]; rfl), (by rw [Lib.cell_of_heap hb]; rfl), (by rw [Lib.cell_of_heap hb]; rfl), (by rw [Lib.cell_of_heap hb]; rfl), (by rw [Lib.cell_of_heap hb]; rfl), Lib.frozen_of_heap hb 5, ?_⟩
  intro j t hj
  obtain ⟨tb, to, e, _, hl, q0, q1, q2, q3⟩ := ht j t hj
  have k := Below.heap_alloc w (.cells #[.slice ao I.l.length cap, .int .i8 5, .string ⟨#[]⟩, .int .i64 I.e.2.2.1, .int .i64 I.e.2.2.2, .int .i64 0] 121) tb hl
  exact ⟨tb, to, e, by omega, by simp; omega, (World.cell?_of_block k).trans q0, (World.cell?_of_block k).trans q1, (World.cell?_of_block k).trans q2, (World.cell?_of_block k).trans q3⟩
theorem Toks.below {l : List R.Tok} {ao : Option Addr} {S : Nat → Prop} {w w' : World} (h : Toks l ao S w) (t : Below w.heap.size w w') : Toks l ao S w' := h.turn (turn_below t)
def idxOf (v : Value) : Nat := match v with | .int _ n => n.toNat | _ => 0
set_option maxRecDepth 100000 in
set_option maxHeartbeats 8000000 in
theorem readerOf_any (l : List R.Tok) (ao : Option Addr) (cap : Nat) (w : World) (hc : l.length ≤ cap) (ok : TkOk l) (ht : Toks l ao (fun _ => False) w) :
    Calls Tryz.prog 37 #[.slice ao l.length cap] w fun e w' => ∃ b, e = .returned (.pointer (some ⟨b, 0, none⟩)) ∧ w.heap.size ≤ b ∧ Rdr (R.src l) ao cap b 0 w' ∧ Below w.heap.size w w' := by
  have hfew := ok.few
  have hlen : (l.length : Int) < 1099511627777 := by unfold R.lim at hfew; omega
  have H := hide' (And.intro ok (And.intro ht hlen))
  clear ok ht hfew hlen
  go_enter Tryz.func37, Tryz.ntmps37
  go_wp2
  go_loopw [7] (fun v wx => ∃ k : Nat, k ≤ l.length ∧ v = .int .i64 (k : Int) ∧ Below w.heap.size w wx ∧ Hid (∀ j x, j < k → l[j]? = some x → x.1 ≠ 5)) (fun v _ => l.length - idxOf v)
  case atStart => exact ⟨0, Nat.zero_le _, rfl, Below.refl _ _, fun j x hj => by omega⟩
  case round =>
    obtain ⟨k, hk, rfl, hb, hno⟩ := hrel
    by_cases hkl : k < l.length
    · obtain ⟨tb, to, rfl, _, hl, q0, q1, q2, q3⟩ := (H.out.2.1.below hb) k _ (List.getElem?_eq_getElem hkl)
      have hkw : IntKind.i64.wrap ((k : Int) + 1) = (k : Int) + 1 := by
        have := H.out.2.2
        rw [IntKind.wrap_i64]; omega
      have hx : l[k]? = some l[k] := List.getElem?_eq_getElem hkl
      generalize l[k] = t at *
      obtain ⟨tk, tt, tl, tc⟩ := t
      simp only at q0 q1 q2 q3
      have Hx := hide' hx
      clear hx
      have n1 : ¬ tb = wr.heap.size := by omega
      by_cases h5 : tk = 5
      · subst h5
        have hk0 : (0 : Int) ≤ (k : Int) := by omega
        have hkc : (k : Int) ≤ (cap : Int) := by omega
        have hkc' : k ≤ cap := by omega
        go_wp2
        go_region_with (fail)
        all_goals try go_wp2
        all_goals go_ret
        all_goals
          have hn : R.src l = ⟨l.take k, (5, ByteArray.empty, tl, tc)⟩ := R.src_hit l k _ hno.out Hx.out rfl
          have b1 : Below w.heap.size w (wr.alloc (.cells #[.int .i8 5, .string tt, .int .i64 tl, .int .i64 tc] 44)) := hb.trans ((Below.refl _ _).alloc hb.size _)
          have hm := Rdr.made (cap := cap) (SrcOk.of H.out.1 k tl tc) ((H.out.2.1.below b1).take k)
          rw [hn]
          have hz := hb.size
          simp only [List.length_take, Nat.min_eq_left hk, World.size_alloc'] at hm
          exact ⟨_, rfl, by omega, hm.drew, (b1.trans ((Below.refl _ _).alloc b1.size _)).drew⟩
      · have h5' : (tk == 5) = false := by simpa using h5
        go_wp2
        refine ⟨⟨k + 1, by omega, by simp, hb.trans ((Below.refl _ _).alloc hb.size _), fun j x hj hx => ?_⟩, by simp [idxOf]; omega⟩
        by_cases e : j = k
        · subst e
          rw [Hx.out] at hx
          cases hx
          exact h5
        · exact hno.out j x (by omega) hx
    · go_wp2
      go_ret
      have hn : R.src l = ⟨l.take l.length, (5, ByteArray.empty, 0, 0)⟩ := by
        rw [List.take_length]
        refine R.src_none l (fun x hx => ?_)
        obtain ⟨j, hj, rfl⟩ := List.getElem_of_mem hx
        exact hno.out j _ (by omega) (List.getElem?_eq_getElem hj)
      refine ⟨_, rfl, hb.size, ?_, hb.trans ((Below.refl _ _).alloc hb.size _)⟩
      rw [hn]
      have := Rdr.made (cap := cap) (SrcOk.of H.out.1 l.length 0 0) ((H.out.2.1.below hb).take l.length)
      simpa using this
end Go.Proofs.YtppcofopnelgjaaGreatDoor
