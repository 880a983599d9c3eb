import Derived.Test.YtdhmommfmmiieaaKN
import Derived.Test.YtdhmommfmmiieaaRA
import Derived.Test.YtdhmommfmmiieaaRw
import Derived.Deep.RegionHeld3
import Derived.Deep.RegionLaw
import Derived.Test.YtdhmommfmmiieaaApp
set_option linter.unusedVariables false
set_option linter.unusedSimpArgs false
namespace Go.Proofs.Ytdhmommfmmiieaa
open Go.RowKit Go.Maps
namespace S
end S
end Go.Proofs.Ytdhmommfmmiieaa
set_option linter.unusedVariables false
set_option linter.unusedSimpArgs false
namespace Go.Proofs.Ytdhmommfmmiieaa
open Go.RowKit Go.Maps
namespace N
/-- the reasons after n turns -/
def rsn (F : ByteArray → List ByteArray) (fr : List ByteArray) : Nat → List Int
  | 0 => [-1]
  | n + 1 => rsn F fr n ++ List.replicate ((Bf.st F fr (n + 1)).length - (Bf.st F fr n).length) (n : Int)
/-- what Breadth has at a place of its inner loop -/
def cur (ps : List K2) (x : ByteArray) (n i : Nat) (k : ByteArray) : List ByteArray := Bf.add (Bf.st (nxt ps) [x] n) (nxt (ps.take i) k)
def rcur (ps : List K2) (x : ByteArray) (n i : Nat) (k : ByteArray) : List Int := rsn (nxt ps) [x] n ++ List.replicate ((cur ps x n i k).length - (Bf.st (nxt ps) [x] n).length) (n : Int)
theorem cur_zero (ps : List K2) (x : ByteArray) (n : Nat) (k : ByteArray) : cur ps x n 0 k = Bf.st (nxt ps) [x] n := by simp [cur, nxt, Bf.add]
theorem rcur_zero (ps : List K2) (x : ByteArray) (n : Nat) (k : ByteArray) : rcur ps x n 0 k = rsn (nxt ps) [x] n := by simp [rcur, cur_zero]
theorem cur_full {ps : List K2} {x : ByteArray} {n : Nat} {k : ByteArray} (h : (Bf.st (nxt ps) [x] n)[n]? = some k) : cur ps x n ps.length k = Bf.st (nxt ps) [x] (n + 1) := by rw [Bf.st_some h, cur, List.take_length]
theorem rcur_full {ps : List K2} {x : ByteArray} {n : Nat} {k : ByteArray} (h : (Bf.st (nxt ps) [x] n)[n]? = some k) : rcur ps x n ps.length k = rsn (nxt ps) [x] (n + 1) := by rw [rcur, cur_full h]; rfl
theorem cur_pre (ps : List K2) (x : ByteArray) (n i : Nat) (k : ByteArray) : Bf.st (nxt ps) [x] n <+: cur ps x n i k := Bf.add_prefix _ _
theorem cur_skip {ps : List K2} {x : ByteArray} {n i : Nat} {k : ByteArray} {p : K2} (hp : ps[i]? = some p) (h : p.1 ≠ k) : cur ps x n (i + 1) k = cur ps x n i k := by
  unfold cur; rw [List.take_add_one, hp]; show Bf.add _ (nxt (ps.take i ++ [p]) k) = _; rw [nxt_snoc_no h]
theorem cur_old {ps : List K2} {x : ByteArray} {n i : Nat} {k : ByteArray} {p : K2} (hp : ps[i]? = some p) (h : p.1 = k) (hin : p.2 ∈ cur ps x n i k) : cur ps x n (i + 1) k = cur ps x n i k := by
  unfold cur at hin ⊢; rw [List.take_add_one, hp]; show Bf.add _ (nxt (ps.take i ++ [p]) k) = _; rw [nxt_snoc_yes h]; exact Bf.add_snoc_old hin
theorem cur_new {ps : List K2} {x : ByteArray} {n i : Nat} {k : ByteArray} {p : K2} (hp : ps[i]? = some p) (h : p.1 = k) (hin : p.2 ∉ cur ps x n i k) : cur ps x n (i + 1) k = cur ps x n i k ++ [p.2] := by
  unfold cur at hin ⊢; rw [List.take_add_one, hp]; show Bf.add _ (nxt (ps.take i ++ [p]) k) = _; rw [nxt_snoc_yes h]; exact Bf.add_snoc_new hin
theorem rcur_same {ps : List K2} {x : ByteArray} {n i : Nat} {k : ByteArray} (h : cur ps x n (i + 1) k = cur ps x n i k) : rcur ps x n (i + 1) k = rcur ps x n i k := by unfold rcur; rw [h]
theorem rcur_new {ps : List K2} {x : ByteArray} {n i : Nat} {k : ByteArray} {y : ByteArray} (h : cur ps x n (i + 1) k = cur ps x n i k ++ [y]) : rcur ps x n (i + 1) k = rcur ps x n i k ++ [(n : Int)] := by
  unfold rcur
  have hl := (cur_pre ps x n i k).length_le
  rw [h, List.length_append, show (cur ps x n i k).length + [y].length - (Bf.st (nxt ps) [x] n).length = ((cur ps x n i k).length - (Bf.st (nxt ps) [x] n).length) + 1 by simp; omega, List.replicate_succ', List.append_assoc]
theorem cur_le (ps : List K2) (x : ByteArray) (n i : Nat) (k : ByteArray) : (cur ps x n i k).length ≤ (Bf.st (nxt ps) [x] n).length + ps.length := by
  have := Bf.add_len_le (Bf.st (nxt ps) [x] n) (nxt (ps.take i) k)
  have h2 := nxt_len (ps.take i) k
  simp at h2
  unfold cur
  omega
theorem rsn_len (ps : List K2) (x : ByteArray) (n : Nat) : (rsn (nxt ps) [x] n).length = (Bf.st (nxt ps) [x] n).length := by
  induction n with
  | zero => simp [rsn, Bf.st, Bf.add]
  | succ n ih =>
    have := (Bf.st_prefix (F := nxt ps) (fr := [x]) (Nat.le_add_right n 1)).length_le
    simp [rsn, ih]; omega
theorem rcur_len (ps : List K2) (x : ByteArray) (n i : Nat) (k : ByteArray) : (rcur ps x n i k).length = (cur ps x n i k).length := by
  have := (cur_pre ps x n i k).length_le
  simp [rcur, rsn_len]; omega
end N
end Go.Proofs.Ytdhmommfmmiieaa
set_option linter.unusedVariables false
set_option linter.unusedSimpArgs false
namespace Go.Proofs.Ytdhmommfmmiieaa
open Go.RowKit Go.Maps
namespace N
theorem below_of2 {B : Nat} {w w' : World} {S : Nat → Prop} (t : Turn S w w') (h : ∀ j, j < B → ¬ S j) (hB : B ≤ w.heap.size) : Below B w w' := ⟨t.os, t.tape, t.output, t.size, fun k hk => t.block k (by omega) (h k hk)⟩
theorem st_zero (ps : List K2) (x : ByteArray) : Bf.st (nxt ps) [x] 0 = [x] := by simp [Bf.st, Bf.add]
/-- what Breadth leaves -/
def BrdIs (ps : List K2) (x : ByteArray) (w : World) (e : Ending) (w' : World) : Prop := ∃ n no ro ncap rcap, (Bf.st (nxt ps) [x] n).length = n ∧ e = .returned (.agg #[.slice no n ncap, .slice ro n rcap]) ∧ S.RowI w.heap.size no ncap (Bf.st (nxt ps) [x] n) w' ∧ I.RowI w.heap.size ro rcap (rsn (nxt ps) [x] n) w' ∧ Below w.heap.size w w'
end N
end Go.Proofs.Ytdhmommfmmiieaa
set_option linter.unusedVariables false
set_option linter.unusedSimpArgs false
namespace Go.Proofs.Ytdhmommfmmiieaa
open Go.RowKit Go.Maps
namespace N
end N
end Go.Proofs.Ytdhmommfmmiieaa
set_option linter.unusedVariables false
set_option linter.unusedSimpArgs false
namespace Go.Proofs.Ytdhmommfmmiieaa
open Go.RowKit Go.Maps
namespace S
theorem addOff (b off n : Nat) : (⟨b, off, none⟩ : Addr).add n = ⟨b, off + n, none⟩ := by unfold Addr.add; split <;> simp_all
/-- append of a list of texts onto one text in a row of its own -/
theorem wpList_appT (w0 : World) {ops : Array Oper} {rest : List Oper} {o : Oper} {a : Act} {Q : Exit → Act → World → Prop} (hw : Region.wanted o (yielded ops a.tmps) = true) (s x : Operand)
    (ho : o.op = .call { callee := .builtin .append, args := #[s, x], argTypes := #[25, 25] }) (z : ByteArray) (ro : Option Addr) (rc n : Nat) (row : List ByteArray) (hrl : Hid (row.length = n)) (hs : a.eval s = .slice (some ⟨w0.heap.size, 0, none⟩) 1 1) (hx : a.eval x = .slice ro n rc) (hI : Ints ro row w0) (hn : ro = none → n = 0 ∧ rc = 0) (hb : Hid (row.length < 4398046511104))
    (h : ∀ g c w', RowI w0.heap.size (some ⟨g, 0, none⟩) c (z :: row) w' → Below w0.heap.size w0 w' → wpList Try.prog ops Q rest (a.put o.dst (.slice (some ⟨g, 0, none⟩) (n + 1) c)) w') :
    wpList Try.prog ops Q (o :: rest) a (w0.alloc (.cells #[.string z] 9)) := by
  have hrl' := hrl.out
  subst hrl'
  obtain ⟨i0, hi, hz0, hz1, hz2⟩ := info_parts infoE
  have hrow : (w0.alloc (.cells #[.string z] 9)).ownsRow w0.heap.size 9 1 (.slice (some ⟨w0.heap.size, 0, none⟩) 1 1) 1 [.string z] := ⟨rfl, .inr ⟨w0.heap.size, 1, #[.string z], rfl, Nat.le_refl _, heap_alloc_new w0 _, Nat.le_refl _, by unfold maxLen; decide, rfl, rfl⟩⟩
  have hI' : Ints ro row (w0.alloc (.cells #[.string z] 9)) := hI.alloc _
  refine wpList_append_src hw s x 25 ho w0.heap.size 9 i0 (.string ByteArray.empty) 1 16 Try.underlying25 hi hz0 hz1 hz2 rfl (by decide) _ 1 [.string z] hs hrow ro row.length rc (row.flatMap cells) hx hn (by rw [flat_len, Nat.mul_one]) (fun ad q j u hj => ?_) (fun u hu => ?_) (by have := hb.out; unfold maxLen; omega) (by have := hb.out; omega) (by simp) ?_
  · rw [flat_at] at hj
    cases hk : row[j]? with
    | none => rw [hk] at hj; cases hj
    | some k =>
      rw [hk] at hj
      obtain ⟨b, off, e, _, hc⟩ := hI'.at hk
      rw [q] at e; cases e
      rw [addOff, hc]; exact hj
  · rw [flat_map] at hu
    obtain ⟨k, _, rfl⟩ := List.mem_map.1 hu
    rfl
  · intro v' w' hr hg hat
    have hbel : Below w0.heap.size w0 w' := ((Below.refl _ _).alloc (Nat.le_refl _) _).trans ⟨hg.os, hg.tape, hg.output, hg.size, fun k hk => hg.block k (by simp; omega) (by simp [Value.ownBlock]; omega)⟩
    obtain ⟨g, c, rfl, hg1, hg2⟩ := World.ownsRow.form hr (by omega)
    have e : row.length + 1 = 1 + row.length := Nat.add_comm _ _
    have hh := h g c w' (by unfold RowI; rw [List.length_cons, e]; exact hr) hbel
    rw [e] at hh
    exact hh
end S
namespace N
/-- the way to a place of a list by its reasons -/
def way (ns : List ByteArray) (rs : List Int) : Nat → Int → List ByteArray
  | 0, _ => []
  | f + 1, a => if 0 ≤ a then way ns rs f (rs[a.toNat]?.getD (-1)) ++ [ns[a.toNat]?.getD ByteArray.empty] else []
/-- where a text stands last -/
def lastIx (ns : List ByteArray) (z : ByteArray) : Nat → Int
  | 0 => -1
  | k + 1 => if ns[k]? = some z then (k : Int) else lastIx ns z k
theorem lastIx_lt (ns : List ByteArray) (z : ByteArray) (k : Nat) : -1 ≤ lastIx ns z k ∧ lastIx ns z k < k := by
  induction k with
  | zero => exact ⟨by simp [lastIx], by simp [lastIx]⟩
  | succ k ih => unfold lastIx; split <;> (constructor <;> omega)
theorem way_neg (ns : List ByteArray) (rs : List Int) (f : Nat) {a : Int} (h : ¬ 0 ≤ a) : way ns rs f a = [] := by
  cases f with
  | zero => rfl
  | succ f => unfold way; rw [if_neg h]
theorem way_step {ns : List ByteArray} {rs : List Int} {f k : Nat} {z : ByteArray} {r : Int} (h1 : ns[k]? = some z) (h2 : rs[k]? = some r) : way ns rs (f + 1) (k : Int) = way ns rs f r ++ [z] := by
  rw [show way ns rs (f + 1) (k : Int) = if 0 ≤ (k : Int) then way ns rs f (rs[(k : Int).toNat]?.getD (-1)) ++ [ns[(k : Int).toNat]?.getD ByteArray.empty] else [] from rfl, if_pos (by omega), Int.toNat_natCast, h1, h2]
  rfl
theorem way_len (ns : List ByteArray) (rs : List Int) (f : Nat) (a : Int) : (way ns rs f a).length ≤ f := by
  induction f generalizing a with
  | zero => simp [way]
  | succ f ih => unfold way; split <;> simp; exact ih _
theorem rsn_lt (F : ByteArray → List ByteArray) (fr : List ByteArray) (hl : ∀ n, (rsn F fr n).length = (Bf.st F fr n).length) (n : Nat) : ∀ (i : Nat) (r : Int), (rsn F fr n)[i]? = some r → -1 ≤ r ∧ r < i := by
  induction n with
  | zero =>
    intro i r h
    cases i with
    | zero => simp [rsn] at h; subst h; constructor <;> omega
    | succ i => simp [rsn] at h
  | succ n ih =>
    intro i r h
    unfold rsn at h
    by_cases hi : i < (rsn F fr n).length
    · rw [List.getElem?_append_left hi] at h; exact ih i r h
    · rw [List.getElem?_append_right (by omega), List.getElem?_replicate] at h
      split at h
      · rename_i hlt
        cases h
        cases hk : (Bf.st F fr n)[n]? with
        | none => rw [Bf.st_none hk] at hlt; omega
        | some k =>
          have := (List.getElem?_eq_some_iff.1 hk).1
          have := hl n
          constructor <;> omega
      · cases h
end N
end Go.Proofs.Ytdhmommfmmiieaa
set_option linter.unusedVariables false
set_option linter.unusedSimpArgs false
namespace Go.Proofs.Ytdhmommfmmiieaa
open Go.RowKit Go.Maps
namespace N
/-- the way that is told, in a row that is new -/
def PathIs (ps : List K2) (x z : ByteArray) (w : World) (e : Ending) (w' : World) : Prop := ∃ n no ncap, (Bf.st (nxt ps) [x] n).length = n ∧ e = .returned (.slice no (way (Bf.st (nxt ps) [x] n) (rsn (nxt ps) [x] n) n (lastIx (Bf.st (nxt ps) [x] n) z n)).length ncap) ∧ S.RowI w.heap.size no ncap (way (Bf.st (nxt ps) [x] n) (rsn (nxt ps) [x] n) n (lastIx (Bf.st (nxt ps) [x] n) z n)) w' ∧ Below w.heap.size w w'
end N
end Go.Proofs.Ytdhmommfmmiieaa
