import Derived.Test.YtmcdifmbblbhgaaCsw
import Derived.Laws.CopyOwn
set_option linter.unusedVariables false
set_option linter.unusedSimpArgs false
namespace Go.Proofs.Ytmcdifmbblbhgaa
open Go.RowKit Go.Maps
namespace V
open U D
/-- no two of the first profiles are equal -/
def unl (g : Nat → Nat) (n : Nat) : Bool := (dst (pfs g n)).length == n
theorem fld81 (a b : Value) (w : World) : (Instr.field 81 (.agg #[a, b]) 1).run Try.prog w = .ok b w := by kernel_rfl
set_option maxHeartbeats 8000000 in
set_option maxRecDepth 100000 in
theorem allUnlike_any (g : Nat → Nat) (b n cap : Nat) (w : World) (hb : w.heap[b]? = some (.cells (tab 4096 g) 77 (0, 0))) (hg : ∀ k, k < 4096 → g k < 65536) (hn : n ≤ 64) (hc : n ≤ cap) :
    Calls Try.prog 74 #[.slice (some ⟨b, 0, none⟩) n cap] w fun e w' => e = .returned (.bool (unl g n)) ∧ Below w.heap.size w w' := by
  have C := hide' (classesOf_any g b n cap w hb hg hn hc)
  clear hb hg
  have hfd := fld81
  go_enter Try.func74, Try.ntmps74
  go_wp2_with (go_at_call 49; refine C.out.mono ?_; rintro e V ⟨no, nl, nc, fo, fc, rfl, bb⟩; have B := hide' bb; clear bb)
  by_cases q : (dst (pfs g n)).length = n
  · have hq : unl g n = true := by unfold unl; rw [q]; exact beq_self_eq_true _
    rw [hq]
    go_ret
    exact ⟨by rw [q]; simp, B.out⟩
  · have hq : unl g n = false := by unfold unl; exact beq_eq_false_iff_ne.2 q
    rw [hq]
    have q2 : ¬ ((dst (pfs g n)).length : Int) = (n : Int) := by omega
    go_ret
    exact ⟨by simp [q, q2], B.out⟩
theorem tab_none (n : Nat) (g : Nat → Nat) (i : Nat) (h : ¬ i < n) : (tab n g)[i]? = none := Array.getElem?_eq_none (by rw [tab_size]; omega)
theorem tab_splice (n : Nat) (h : Nat → Nat) (off : Nat) (l : List Nat) (hf : off + l.length ≤ n) : (splice (tab n h).toList off (l.map fun z : Nat => Value.int .u16 (z : Int))).toArray = tab n (fun k => if off ≤ k ∧ k < off + l.length then l.getD (k - off) 0 else h k) := by
  apply Array.ext_getElem?
  intro i
  have hl : (tab n h).toList.length = n := by rw [Array.length_toList, tab_size]
  have ht : ((tab n h).toList.take off).length = off := by rw [List.length_take, hl]; omega
  have e : ∀ j, (tab n h).toList[j]? = (tab n h)[j]? := fun j => Array.getElem?_toList
  unfold splice
  rw [List.getElem?_toArray]
  by_cases h1 : i < off
  · rw [List.getElem?_append_left (by omega), List.getElem?_take_of_lt h1, e, tab_at n _ i (by omega), tab_at n _ i (by omega), if_neg (by omega)]
  · rw [List.getElem?_append_right (by omega), ht]
    by_cases h2 : i < off + l.length
    · rw [List.getElem?_append_left (by rw [List.length_map]; omega), List.getElem?_map, List.getElem?_eq_getElem (by omega), tab_at n _ i (by omega), if_pos ⟨by omega, h2⟩]
      simp [List.getD, List.getElem?_eq_getElem (show i - off < l.length by omega)]
    · rw [List.getElem?_append_right (by rw [List.length_map]; omega), List.getElem?_drop, List.length_map, e]
      have e2 : off + l.length + (i - off - l.length) = i := by omega
      rw [e2]
      by_cases h3 : i < n
      · rw [tab_at n _ i h3, tab_at n _ i h3, if_neg (by omega)]
      · rw [tab_none n _ i h3, tab_none n _ i h3]
theorem stay_copy {P : Program} {ops : Array Oper} {rest : List Oper} {o : Oper} {a : Act} {Q : Exit → Act → World → Prop} {w : World} (s x : Operand) (ts : Array TypeId) (ho : o.op = .call { callee := .builtin .copy, args := #[s, x], argTypes := ts }) (h : Stay (wpList P ops Q (o :: rest) a w)) : wpList P ops Q (o :: rest) a w := h
end V
end Go.Proofs.Ytmcdifmbblbhgaa
