import Derived.Test.YtmdkgiglibfihaaWbU
import Derived.Test.YtmdkgiglibfihaaShelf
set_option linter.unusedVariables false
set_option linter.unusedSimpArgs false
namespace Go.Proofs.Ytmdkgiglibfihaa
open Go.RowKit Go.Maps
namespace W
set_option maxRecDepth 100000 in
set_option maxHeartbeats 1000000 in
theorem clone_any (s : ByteArray) (w : World) (hlim : s.size ≤ 281474976710656) :
    Calls Try.prog 51 #[.string s] w fun e w' => e = .returned (.string s) ∧ Below w.heap.size w w' := by
  go_enter Try.func51, Try.ntmps51
  go_wp2_with (go_at_call 64; refine (sh.stringslite_Clone _ _ hlim).mono ?_; rintro e w1 ⟨rfl, b1⟩)
  go_ret
  exact ⟨rfl, b1⟩
/-- what told tells -/
def ToldIs (l : List ByteArray) (w : World) (e : Ending) (w' : World) : Prop := ∃ ao cap, e = .returned (.slice ao l.length cap) ∧ S.RowI w.heap.size ao cap l w' ∧ Below w.heap.size w w'
set_option maxRecDepth 100000 in
set_option maxHeartbeats 4000000 in
theorem told_any (B x bm : Nat) (no : Option Addr) (ncap : Nat) (xo : Option Addr) (xcap : Nat) (zs : List ByteArray) (rs : List R3) (lo : Option Addr) (lcap n : Nat) (l : List Int) (w : World) (h : Wb B x bm no ncap xo xcap zs rs w) (hI : I.Ints lo l w) (hn : l.length = n) (hc : n ≤ lcap) (hl : ∀ k ∈ l, k ∈ nums zs.length) (hs : ∀ z ∈ zs, z.size ≤ 281474976710656) (hlen : Hid (zs.length ≤ 2097154 ∧ n ≤ 1073741824)) :
    Calls Try.prog 46 #[.pointer (some ⟨x, 0, none⟩), .slice lo n lcap] w fun e w' => ToldIs (l.map (nam zs)) w e w' := by
  subst hn
  have H := hide' h
  have HI := hide' hI
  have Hl := hide' hl
  have Hs := hide' hs
  have hl64 : (l.length : Int) ≤ 1073741824 := by have := hlen.out.2; omega
  have hz64 : (zs.length : Int) ≤ 2097154 := by have := hlen.out.1; omega
  clear h hI hl hs
  go_enter Try.func46, Try.ntmps46
  go_wp2_with fail
  go_loopw [5, 10] (fun o i wx => ∃ j : Nat, i = .int .i64 (j : Int) ∧ j ≤ l.length ∧ ∃ ao cap, o = .slice ao j cap ∧ S.RowI w.heap.size ao cap ((l.take j).map (nam zs)) wx ∧ Below w.heap.size w wx) (fun _ i _ => l.length - (intOf i).toNat)
  case atStart => exact ⟨0, rfl, by omega, none, 0, rfl, S.RowI.nil _ _, Below.refl _ _⟩
  case round =>
    obtain ⟨j, rfl, hjl, ao, cap, rfl, hR, hB⟩ := hrel
    by_cases hlt : j < l.length
    · have hlt' : (j : Int) < (l.length : Int) := by omega
      obtain ⟨k, hk⟩ : ∃ k, l[j]? = some k := ⟨_, List.getElem?_eq_getElem hlt⟩
      obtain ⟨i, hi, rfl⟩ := mem_nums.1 (Hl.out k (List.mem_of_getElem? hk))
      have hi' : (i : Int) < (zs.length : Int) := by omega
      obtain ⟨lb, off, rfl, _, lc⟩ := (HI.out.below hB).at hk
      have hWb := H.out.below hB
      have c0 := hWb.c0
      obtain ⟨z, hz⟩ : ∃ z, zs[i]? = some z := ⟨_, List.getElem?_eq_getElem hi⟩
      obtain ⟨ng, rfl, nc, hnc, _, hng⟩ := S.row_at hWb.names hz
      have enam : Hid (nam zs (i : Int) = z) := by show _ = _; unfold nam; rw [Int.toNat_natCast, hz]; rfl
      have hsz : Hid (z.size ≤ 281474976710656) := Hs.out z (List.mem_of_getElem? hz)
      have htk : Hid ((l.take (j + 1)).map (nam zs) = (l.take j).map (nam zs) ++ [z]) := by
        show _ = _
        rw [List.take_add_one, hk, List.map_append]
        show _ ++ [nam zs (i : Int)] = _
        rw [enam.out]
      have hln : Hid (((l.take j).map (nam zs)).length = j) := by show _ = _; simp; omega
      have HR := hide' (And.intro hR hB)
      have hwz := hB.size
      clear hk hR hB hWb hz
      go_wp2_with (first | (go_at_call 51; refine (clone_any _ _ hsz.out).mono ?_; rintro e w1 ⟨rfl, b1⟩; have B1 := hide' b1; have s1 := b1.size; clear b1) | (at_builtin; refine S.wpList_app1 _ rfl _ _ rfl w.heap.size ao cap ((l.take j).map (nam zs)) z _ _ (by rw [hln.out]; rfl) (HR.out.1.below B1.out) rfl (by show _ < _; rw [hln.out]; omega) (by omega) ?_; intro g cap2 w2 r2 t2 hg2 hl2; rw [hln.out]; have A2 := hide' (And.intro r2 t2); clear r2 t2 hg2 hl2))
      exact ⟨⟨j + 1, by go_num, by omega, some ⟨g, 0, none⟩, cap2, rfl, by rw [htk.out]; exact A2.out.1, HR.out.2.trans ((B1.out.mono hwz).trans (below3 A2.out.2 (fun i q => by obtain ⟨a, e, rfl⟩ := q; exact (HR.out.1.lt _ ⟨a, e, rfl⟩).1) (by omega)))⟩, by simp [intOf]; omega⟩
    · have hjn : l.length = j := by omega
      subst hjn
      have hlt' : ¬ (l.length : Int) < (l.length : Int) := by omega
      rw [List.take_length] at hR
      have K : Hid (ToldIs (l.map (nam zs)) w (.returned (.slice ao l.length cap)) wr) := ⟨ao, cap, by simp, hR, hB⟩
      clear hR hB
      go_wp2_with fail
      go_ret
      exact K.out
end W
end Go.Proofs.Ytmdkgiglibfihaa
