import Derived.Test.YtmcdifmbblbhgaaTurn
import Derived.Test.YtmcdifmbblbhgaaProg
import Derived.WalkKit
import Derived.ProofKit
import Derived.Laws.Cover2
import Derived.Laws.BitsAllLaws
import Derived.WalkLawsBesides
import Derived.WalkSpells
import Derived.Outline
import Derived.BigQuiet
import Derived.OwnWalk
import Derived.Deep.RegionHeld3
set_option linter.unusedVariables false
set_option linter.unusedSimpArgs false
namespace Go.Proofs.Ytmcdifmbblbhgaa
open Go.RowKit
namespace D
theorem hide' {p : Prop} (h : p) : Hid p := h
theorem text_inj {a b : ByteArray} (h : a.toList = b.toList) : a = b := by
  rw [ByteArray.toList_eq, ByteArray.toList_eq] at h
  cases a; cases b
  simp only [ByteArray.mk.injEq]
  exact Array.toList_inj.1 h
theorem text_ne {a b : ByteArray} (h : a ≠ b) : (a.toList == b.toList) = false := by
  rw [beq_eq_false_iff_ne]
  exact fun e => h (text_inj e)
theorem text_eq (a : ByteArray) : (a.toList == a.toList) = true := by rw [beq_iff_eq]
/-- things that can be read, of m cells each -/
def Lies (m : Nat) (ao : Option Addr) (zs : List (List Value)) (w : World) : Prop := zs = [] ∨ ∃ b off, ao = some ⟨b, off, none⟩ ∧ b < w.heap.size ∧ ∀ i r k u, zs[i]? = some k → k[r]? = some u → w.cell? ⟨b, off + i * m + r, none⟩ = some u
theorem Lies.below {m : Nat} {ao : Option Addr} {zs : List (List Value)} {w w' : World} (h : Lies m ao zs w) (t : Below w.heap.size w w') : Lies m ao zs w' := by
  rcases h with h | ⟨b, off, h1, h2, h3⟩
  · exact .inl h
  · exact .inr ⟨b, off, h1, Nat.lt_of_lt_of_le h2 t.size, fun i r k u q s => (t.cell (p := ⟨b, off + i * m + r, none⟩) h2).trans (h3 i r k u q s)⟩
/-- one cell each -/
theorem Lies.one {α : Type} {cl : α → Value} {ao : Option Addr} {zs : List α} {w : World} (h : Lies 1 ao (zs.map fun z => [cl z]) w) {i : Nat} {z : α} (q : zs[i]? = some z) : ∃ b off, ao = some ⟨b, off, none⟩ ∧ b < w.heap.size ∧ w.cell? ⟨b, off + i, none⟩ = some (cl z) := by
  rcases h with h | ⟨b, off, h1, h2, h3⟩
  · rw [List.map_eq_nil_iff.1 h] at q; simp at q
  · refine ⟨b, off, h1, h2, ?_⟩
    have := h3 i 0 [cl z] (cl z) (by rw [List.getElem?_map, q]; rfl) rfl
    rw [Nat.mul_one, Nat.add_zero] at this
    exact this
def fdxR : Int → List ByteArray → ByteArray → Int
  | _, [], _ => -1
  | k, z :: r, s => if z = s then k else fdxR (k + 1) r s
/-- the first place of a text, or -1 -/
def fdx (zs : List ByteArray) (s : ByteArray) : Int := fdxR 0 zs s
theorem fdxR_at {s : ByteArray} : ∀ (zs : List ByteArray) (k : Int) (i : Nat), zs[i]? = some s → (∀ j, j < i → zs[j]? ≠ some s) → fdxR k zs s = k + i := by
  intro zs
  induction zs with
  | nil => intro k i h; simp at h
  | cons z r ih =>
    intro k i h hn
    cases i with
    | zero => simp at h; simp [fdxR, h]
    | succ i =>
      have hz : z ≠ s := fun e => hn 0 (by omega) (by simp [e])
      simp only [fdxR, if_neg hz]
      rw [ih (k + 1) i (by simpa using h) (fun j hj => by have := hn (j + 1) (by omega); simpa using this)]
      omega
theorem fdxR_no {s : ByteArray} : ∀ (zs : List ByteArray) (k : Int), (∀ j : Nat, zs[j]? ≠ some s) → fdxR k zs s = -1 := by
  intro zs
  induction zs with
  | nil => intro k _; rfl
  | cons z r ih =>
    intro k hn
    have hz : z ≠ s := fun e => hn 0 (by simp [e])
    simp only [fdxR, if_neg hz]
    exact ih (k + 1) (fun j => by have := hn (j + 1); simpa using this)
theorem fdx_at {s : ByteArray} {zs : List ByteArray} {i : Nat} (h : zs[i]? = some s) (hn : ∀ j, j < i → zs[j]? ≠ some s) : fdx zs s = (i : Int) := by
  unfold fdx; rw [fdxR_at zs 0 i h hn]; omega
theorem fdx_no {s : ByteArray} {zs : List ByteArray} (h : ∀ j, j < zs.length → zs[j]? ≠ some s) : fdx zs s = -1 := fdxR_no zs 0 (fun j => by
  by_cases q : j < zs.length
  · exact h j q
  · rw [List.getElem?_eq_none (by omega)]; simp)
theorem fdx_bd (zs : List ByteArray) (s : ByteArray) : -1 ≤ fdx zs s ∧ fdx zs s < zs.length := by
  have key : ∀ (zs : List ByteArray) (k : Int), 0 ≤ k → -1 ≤ fdxR k zs s ∧ fdxR k zs s < k + zs.length := by
    intro zs
    induction zs with
    | nil => intro k hk; simp [fdxR]; omega
    | cons z r ih =>
      intro k hk
      simp only [fdxR, List.length_cons]
      split
      · omega
      · have := ih (k + 1) (by omega); omega
  have := key zs 0 (by omega)
  unfold fdx
  omega
theorem ret_i {a b : Int} (h : a = b) : Ending.returned (.int .i64 a) = .returned (.int .i64 b) := by rw [h]
set_option maxHeartbeats 1000000 in
set_option maxRecDepth 100000 in
theorem index_any (ao : Option Addr) (cap : Nat) (zs : List ByteArray) (s : ByteArray) (w : World) (h : Lies 1 ao (zs.map fun z => [Value.string z]) w) (hc : zs.length ≤ cap) (hl : (zs.length : Int) ≤ 9223372036854775807) :
    Calls Try.prog 35 #[.slice ao zs.length cap, .string s] w fun e w' => e = .returned (.int .i64 (fdx zs s)) ∧ w' = w := by
  have H := hide' h
  clear h
  go_enter Try.func35, Try.ntmps35
  go_wp2
  go_loopw [8] (fun i wx => ∃ k : Nat, k ≤ zs.length ∧ i = .int .i64 (k : Int) ∧ (∀ j, j < k → zs[j]? ≠ some s) ∧ wx = w) (fun i _ => zs.length - (intOf i).toNat)
  case atStart => exact ⟨0, by omega, rfl, fun j hj => by omega, rfl⟩
  case round =>
    obtain ⟨k, hk, rfl, hno, rfl⟩ := hrel
    by_cases hlt : k < zs.length
    · have hlt' : (k : Int) < (zs.length : Int) := by omega
      obtain ⟨z, hz⟩ : ∃ z, zs[k]? = some z := ⟨_, List.getElem?_eq_getElem hlt⟩
      obtain ⟨x, off, rfl, _, c1⟩ := H.out.one hz
      have HN := hide' hno
      have Hz := hide' hz
      clear hz hno
      by_cases he : z = s
      · subst he
        have he1 := text_eq z
        have K : Hid (fdx zs z = (k : Int)) := fdx_at Hz.out HN.out
        go_wp2
        go_ret
        exact ⟨ret_i K.out.symm, rfl⟩
      · have hs : Hid (∀ j, j < k + 1 → zs[j]? ≠ some s) := fun j hj => by
          by_cases q : j < k
          · exact HN.out j q
          · rw [show j = k by omega, Hz.out]; exact fun e => he (Option.some.inj e)
        have he1 : (s.toList == z.toList) = false := text_ne (Ne.symm he)
        go_wp2
        exact ⟨⟨k + 1, by omega, by go_num, hs.out, trivial⟩, by simp [intOf]; omega⟩
    · have hkl : zs.length = k := by omega
      subst hkl
      have hlt' : ¬ (zs.length : Int) < (zs.length : Int) := by omega
      have K : Hid (fdx zs s = -1) := fdx_no hno
      clear hno
      go_wp2
      go_ret
      exact ⟨ret_i K.out.symm, rfl⟩
set_option maxHeartbeats 1000000 in
set_option maxRecDepth 100000 in
theorem place_any (ao : Option Addr) (cap : Nat) (zs : List ByteArray) (s : ByteArray) (w : World) (h : Lies 1 ao (zs.map fun z => [Value.string z]) w) (hc : zs.length ≤ cap) (hl : (zs.length : Int) ≤ 9223372036854775807) :
    Calls Try.prog 63 #[.slice ao zs.length cap, .string s] w fun e w' => e = .returned (.int .i64 (fdx zs s)) ∧ w' = w := by
  have H := hide' h
  clear h
  go_enter Try.func63, Try.ntmps63
  go_wp2
  go_loopw [5] (fun i wx => ∃ k : Nat, k ≤ zs.length ∧ i = .int .i64 (k : Int) ∧ (∀ j, j < k → zs[j]? ≠ some s) ∧ wx = w) (fun i _ => zs.length - (intOf i).toNat)
  case atStart => exact ⟨0, by omega, rfl, fun j hj => by omega, rfl⟩
  case round =>
    obtain ⟨k, hk, rfl, hno, rfl⟩ := hrel
    by_cases hlt : k < zs.length
    · have hlt' : (k : Int) < (zs.length : Int) := by omega
      obtain ⟨z, hz⟩ : ∃ z, zs[k]? = some z := ⟨_, List.getElem?_eq_getElem hlt⟩
      obtain ⟨x, off, rfl, _, c1⟩ := H.out.one hz
      have HN := hide' hno
      have Hz := hide' hz
      clear hz hno
      by_cases he : z = s
      · subst he
        have he1 := text_eq z
        have K : Hid (fdx zs z = (k : Int)) := fdx_at Hz.out HN.out
        go_wp2
        go_ret
        exact ⟨ret_i K.out.symm, rfl⟩
      · have hs : Hid (∀ j, j < k + 1 → zs[j]? ≠ some s) := fun j hj => by
          by_cases q : j < k
          · exact HN.out j q
          · rw [show j = k by omega, Hz.out]; exact fun e => he (Option.some.inj e)
        have he1 : (z.toList == s.toList) = false := text_ne he
        go_wp2
        exact ⟨⟨k + 1, by omega, by go_num, hs.out, trivial⟩, by simp [intOf]; omega⟩
    · have hkl : zs.length = k := by omega
      subst hkl
      have hlt' : ¬ (zs.length : Int) < (zs.length : Int) := by omega
      have K : Hid (fdx zs s = -1) := fdx_no hno
      clear hno
      go_wp2
      go_ret
      exact ⟨ret_i K.out.symm, rfl⟩
end D
end Go.Proofs.Ytmcdifmbblbhgaa
