import Derived.Test.YtdhdcpppilacmaaRk
set_option linter.unusedVariables false
set_option linter.unusedSimpArgs false
namespace Go.Proofs.Ytdhdcpppilacmaa
open Go.RowKit
namespace K
open M
/-- bytes, the first s of them safe -/
def mk (l : List UInt8) (s : Nat) : List By := l.mapIdx fun i b => (b, decide (i < s))
theorem mk_len (l : List UInt8) (s : Nat) : (mk l s).length = l.length := by simp [mk]
theorem mk_at (l : List UInt8) (s i : Nat) : (mk l s)[i]? = l[i]?.map (fun b => (b, decide (i < s))) := by simp [mk]
theorem mk_get {l : List UInt8} {s i : Nat} {z : UInt8} (h : l[i]? = some z) : (mk l s)[i]? = some (z, decide (i < s)) := by rw [mk_at, h]; rfl
theorem tg_at (f : Bool) (t : List UInt8) (i : Nat) : (tg f t)[i]? = t[i]?.map (fun b => (b, f)) := by simp [tg]
theorem mk_app {l t : List UInt8} {s : Nat} (h : s ≤ l.length) : mk l s ++ tg false t = mk (l ++ t) s := by
  apply List.ext_getElem?
  intro i
  rw [mk_at]
  by_cases hi : i < l.length
  · rw [List.getElem?_append_left (by rw [mk_len]; exact hi), List.getElem?_append_left hi, mk_at]
  · rw [List.getElem?_append_right (by rw [mk_len]; omega), List.getElem?_append_right (by omega), mk_len, tg_at]
    have : decide (i < s) = false := by simp; omega
    rw [this]
theorem mk_all (t : List UInt8) : tg true t = mk t t.length := by
  apply List.ext_getElem?
  intro i
  rw [mk_at, tg_at]
  by_cases hi : i < t.length
  · rw [show decide (i < t.length) = true by simp [hi]]
  · rw [List.getElem?_eq_none (by omega)]; rfl
def sf (x : By) : By := (x.1, true)
/-- the first k made safe -/
def sy : Nat → List By → List By
  | 0, ss => ss
  | k + 1, ss => (sy k ss).modify k sf
theorem sy_len (k : Nat) (ss : List By) : (sy k ss).length = ss.length := by
  induction k with
  | zero => rfl
  | succ k ih => show ((sy k ss).modify k sf).length = _; rw [List.length_modify, ih]
theorem sy_at (k : Nat) (ss : List By) (i : Nat) : (sy k ss)[i]? = if i < k then ss[i]?.map sf else ss[i]? := by
  induction k with
  | zero => simp [sy]
  | succ k ih =>
    show ((sy k ss).modify k sf)[i]? = _
    rw [List.getElem?_modify, ih]
    by_cases h1 : k = i
    · subst h1
      rw [if_neg (Nat.lt_irrefl _), if_pos (Nat.lt_succ_self _)]
      cases ss[k]? <;> simp
    · by_cases h2 : i < k
      · rw [if_pos h2, if_pos (by omega)]; cases ss[i]? <;> simp [h1]
      · rw [if_neg h2, if_neg (by omega)]; cases ss[i]? <;> simp [h1]
theorem mk_sync (l : List UInt8) (s : Nat) : sy l.length (mk l s) = mk l l.length := by
  apply List.ext_getElem?
  intro i
  rw [sy_at, mk_at, mk_at]
  by_cases hi : i < l.length
  · rw [if_pos hi, show decide (i < l.length) = true by simp [hi]]
    cases l[i]? <;> simp [sf]
  · rw [if_neg hi, List.getElem?_eq_none (by omega)]; rfl
theorem flat_put : ∀ (ss : List By) (k : Nat), (flat bb ss).set (k * 2 + 1) (.bool true) = flat bb (ss.modify k sf) := by
  intro ss
  induction ss with
  | nil => intro k; simp [flat]
  | cons a t ih =>
    intro k
    cases k with
    | zero => simp [flat, bb, sf, List.modify]
    | succ k =>
      have := ih k
      rw [show flat bb (a :: t) = .int .u8 (a.1.toNat : Int) :: .bool a.2 :: flat bb t from rfl, show (k + 1) * 2 + 1 = (k * 2 + 1) + 1 + 1 by omega, List.set_cons_succ, List.set_cons_succ, this]
      rw [List.modify_succ_cons]
      rfl
variable {B c cap : Nat} {room : Int} {ss : List By} {ao : Option Addr} {w w' : World}
theorem Rr.put {g : Nat} (q : Rr B c room ss (some ⟨g, 0, none⟩) cap w) (k : Nat) : Rr B c room (ss.modify k sf) (some ⟨g, 0, none⟩) cap (w.setCell ⟨g, 0 + k * 2 + 1, none⟩ (.bool true)) ∧ Turn (At (some ⟨g, 0, none⟩)) w (w.setCell ⟨g, 0 + k * 2 + 1, none⟩ (.bool true)) := by
  rw [Nat.zero_add]
  have hgc : c ≠ g := fun e => q.na (by rw [e]; exact ⟨_, rfl, rfl⟩)
  have t1 := turn_b g (k * 2 + 1) (.bool true) w
  refine ⟨⟨?_, ⟨?_⟩, q.hb, ?_, q.hm⟩, t1.mono (fun j _ hj => ⟨_, rfl, hj⟩)⟩
  · rw [List.length_modify]; exact (t1.block c q.lt hgc).trans q.hp
  · have h := q.row.row
    refine ⟨by rw [List.length_modify, flat_len ha_bb, List.length_modify], ?_⟩
    rcases h.2 with ⟨hv, _⟩ | ⟨g', cap', cur, hv, hb, hg', h1, h2, h3, h4⟩
    · cases hv
    · simp only [Value.slice.injEq, Option.some.injEq] at hv
      obtain ⟨hv1, _, rfl⟩ := hv
      cases hv1
      refine .inr ⟨g, cap, cur.setIfInBounds (k * 2 + 1) (.bool true), by rw [List.length_modify], hb, set_block hg', by rw [List.length_modify]; exact h1, h2, by simpa using h3, ?_⟩
      rw [Array.toList_setIfInBounds, List.take_set, List.length_modify, h4, flat_put]
  · rw [List.length_modify]; exact q.hr
end K
end Go.Proofs.Ytdhdcpppilacmaa
