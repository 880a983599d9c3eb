import Derived.Test.YtbgjggblaeadlaaCln
import Derived.Test.YtbgjggblaeadlaaShelf
import Derived.Laws.CopyOwn
import Derived.Deep.RegionLaw
set_option linter.unusedVariables false
set_option linter.unusedSimpArgs false
namespace Go.Proofs.Ytbgjggblaeadlaa
open Go.RowKit
namespace C
theorem addOff (b off j : Nat) : (⟨b, off, none⟩ : Addr).add j = ⟨b, off + j, none⟩ := by simp [Addr.add]
theorem row_cur {B g n : Nat} {xs : List Value} {w : World} (h : w.ownsRow B 3 1 (.slice (some ⟨g, 0, none⟩) n n) n xs) : w.heap[g]? = some (.cells xs.toArray 3 (0, 0)) ∧ xs.length = n := by
  have hl : xs.length = n := by have := h.1; omega
  rcases h.2 with ⟨hv, h0⟩ | ⟨g', cap', cur, hv, hb, hg, h1, h2, h3, h4⟩
  · cases hv
  simp only [Value.slice.injEq, Option.some.injEq] at hv
  obtain ⟨he, _, rfl⟩ := hv
  cases he
  refine ⟨?_, hl⟩
  rw [hg]
  have e : cur = xs.toArray := by
    rw [← h4, List.take_of_length_le (by simp; omega)]
  rw [e]
theorem cur_row {B g n : Nat} {xs : List Int} {w : World} (h : w.heap[g]? = some (.cells (xs.map (Value.int .i64)).toArray 3 (0, 0))) (hl : xs.length = n) (hB : B ≤ g) (hn : n ≤ maxLen) : w.ownsRow B 3 1 (.slice (some ⟨g, 0, none⟩) n n) n (ivs xs) := by
  subst hl
  refine ⟨by rw [ivs_len]; simp, .inr ⟨g, xs.length, _, rfl, hB, h, Nat.le_refl _, hn, by simp, ?_⟩⟩
  rw [Nat.mul_one, List.take_of_length_le (by simp)]
  rfl
def M1 (x : Int) : Value := .int .i64 x
theorem src1 {x : Int} {xb : Nat} {w : World} (h : w.cell? ⟨xb, 0, none⟩ = some (M1 x)) : ∀ (j : Nat) (v : Value), [(M1 x)][j]? = some v → w.cell? ((⟨xb, 0, none⟩ : Addr).add j) = some v := by
  intro j v q
  cases j with
  | zero => simp at q; rw [addOff, Nat.add_zero, h, q]
  | succ j => simp at q
theorem srcN {x : Int} {g : Nat} {c : List Value} {w : World} {m k : Nat} (hg : w.heap[g]? = some (.cells c.toArray 3 (0, 0))) (hm : m ≤ k) (h : ∀ j, j < k → c[j]? = some (M1 x)) : ∀ (j : Nat) (v : Value), (List.replicate m (M1 x))[j]? = some v → w.cell? ((⟨g, 0, none⟩ : Addr).add j) = some v := by
  intro j v q
  rw [List.getElem?_replicate] at q
  split at q
  · cases q
    rename_i hj
    rw [addOff, Nat.zero_add, Lib.cell_of_heap hg]
    simpa using h j (by omega)
  · cases q
theorem full_map {x : Int} {c : List Value} {n : Nat} (hl : c.length = n) (h : ∀ j, j < n → c[j]? = some (M1 x)) : c = (List.replicate n x).map (Value.int .i64) := by
  apply List.ext_getElem?
  intro j
  by_cases hj : j < n
  · rw [h j hj, List.getElem?_map, List.getElem?_replicate, if_pos hj]; rfl
  · rw [List.getElem?_eq_none (by omega), List.getElem?_eq_none (by simp; omega)]
theorem splice_fill {x : Int} {c : List Value} {n k m : Nat} (hl : c.length = n) (hk : k + m ≤ n) (h : ∀ j, j < k → c[j]? = some (M1 x)) : ∀ j, j < k + m → (splice c k (List.replicate m (M1 x)))[j]? = some (M1 x) := by
  intro j hj
  unfold splice
  by_cases h1 : j < k
  · rw [List.getElem?_append_left (by simp; omega), List.getElem?_take, if_pos h1]; exact h j h1
  · rw [List.getElem?_append_right (by simp; omega), List.getElem?_append_left (by simp; omega), List.getElem?_replicate, if_pos (by simp; omega)]
set_option maxRecDepth 100000 in
set_option maxHeartbeats 1000000 in
theorem mul_any (n : Nat) (hn : n ≤ 17592186044000) (w : World) : Calls Try.prog 58 #[.int .u64 1, .int .u64 (n : Int)] w fun e w' => e = .returned (.tuple #[.int .u64 0, .int .u64 (n : Int)]) ∧ w' = w := by
  have h := sh.bits_Mul64 1 n (by omega) (by omega) w
  have e1 : 1 * n / 18446744073709551616 = 0 := by omega
  have e2 : 1 * n % 18446744073709551616 = n := by omega
  rw [e1, e2] at h
  have H := hide' h
  clear h e1 e2
  go_enter Try.func58, Try.ntmps58
  go_wp2_with fail
  refine H.out.mono ?_
  rintro e w1 ⟨rfl, rfl⟩
  go_wp2_with fail
  go_ret2
  exact ⟨rfl, rfl⟩
set_option maxRecDepth 100000 in
set_option maxHeartbeats 600000 in
theorem repeat_some (x : Int) (xb n : Nat) (w : World) (hx : w.cell? ⟨xb, 0, none⟩ = some (.int .i64 x)) (hxl : xb < w.heap.size) (hn : 1 ≤ n) (hb : n ≤ 17592186044000) :
    Calls Try.prog 46 #[.slice (some ⟨xb, 0, none⟩) 1 1, .int .i64 (n : Int)] w fun e w' => ∃ g, e = .returned (.slice (some ⟨g, 0, none⟩) n n) ∧ w'.ownsRow w.heap.size 3 1 (.slice (some ⟨g, 0, none⟩) n n) n (ivs (List.replicate n x)) ∧ Below w.heap.size w w' := by
  have HM := hide' (mul_any n hb)
  have hn0 : ¬ (n : Int) < 0 := by omega
  have hn64 : (n : Int) ≤ 17592186044000 := by omega
  go_enter Try.func46, Try.ntmps46
  go_wp2_with fail
  refine (HM.out w).mono ?_
  rintro e w1 ⟨rfl, rfl⟩
  obtain ⟨i0, hi, hz0, hz1, hz2⟩ := info_parts info3
  have hsz1 : (Try.prog.info? 3).map (·.size) = some 1 := by rw [hi]; simp [hz1]
  have Hi := hide' (And.intro hi (And.intro hz0 (And.intro hz1 (And.intro hz2 hsz1))))
  clear hi hz0 hz1 hz2 hsz1
  rename World => w
  have hbl : Hid (∀ v : World, w.grownBy v none → Below w.heap.size w v) := fun v g => ⟨g.os, g.tape, g.output, g.size, fun k hk => g.block k hk (by simp)⟩
  go_wp2_with (first | (have G := hx2; (refine wpList_copy_splice rfl _ _ 23 23 rfl 3 Try.underlying23 Hi.out.2.2.2.2 _ _ _ _ _ _ rfl rfl w.heap.size 0 _ 3 E2.out.1.1 [(M1 x)] (Nat.min_eq_left hn).symm (fun _ => ⟨rfl, _, rfl, src1 hx2⟩) (by rw [E2.out.1.2]; exact hn) (by simp [M1, Value.oneCell']) w.heap.size w E2.out.2 (Nat.le_refl _) ?_; intro w3 hg3 hb3; have E3 := hide' (And.intro hg3.out hb3); clear hg3 hb3)) | (at_make; refine wpList_make_full _ rfl _ _ 23 rfl w.heap.size 3 i0 (.int .i64 0) 1 Try.underlying23 Hi.out.1 Hi.out.2.1 Hi.out.2.2.1 _ _ _ _ n rfl rfl rfl rfl (by rw [Hi.out.2.2.2.1]; omega) (by unfold maxLen; omega) (Nat.le_refl _) ?_; intro w2 r2 hg2; have E2 := hide' (And.intro (row_cur r2) (hbl.out _ hg2)); have hx2 := ((hbl.out _ hg2).cell (p := ⟨xb, 0, none⟩) hxl).trans hx; clear r2 hg2))
  have K3 : Hid (∃ c : List Value, w3.heap[w.heap.size]? = some (.cells c.toArray 3 (0, 0)) ∧ c.length = n ∧ (∀ j, j < 1 → c[j]? = some (M1 x)) ∧ Below w.heap.size w w3) := ⟨_, E3.out.1, by rw [length_splice _ _ _ (by rw [E2.out.1.2]; exact hn)]; exact E2.out.1.2, splice_fill (m := 1) E2.out.1.2 (by omega) (fun j hj => by omega), E3.out.2⟩
  clear E2 E3 hx2 hx hxl HM hbl
  go_loopw [8] (fun i wx => ∃ (k : Nat) (c : List Value), i = .int .i64 (k : Int) ∧ 1 ≤ k ∧ k ≤ n ∧ wx.heap[w.heap.size]? = some (.cells c.toArray 3 (0, 0)) ∧ c.length = n ∧ (∀ j, j < k → c[j]? = some (M1 x)) ∧ Below w.heap.size w wx) (fun i _ => n - (intOf i).toNat)
  case atStart => obtain ⟨c, h⟩ := K3.out; exact ⟨1, c, rfl, Nat.le_refl _, hn, h⟩
  case round =>
    obtain ⟨k, c, rfl, hk1, hkn, hG⟩ := hrel
    have HG := hide' hG
    clear hG K3
    by_cases hlt : k < n
    · have hlt' : (k : Int) < (n : Int) := by omega
      have hkk : (0 : Int) ≤ (k : Int) := by omega
      obtain ⟨m, hm⟩ : ∃ m, m = Nat.min k (n - k) := ⟨_, rfl⟩
      have hm1 : 1 ≤ m := by rw [hm]; exact Nat.le_min.2 ⟨hk1, by omega⟩
      have hm2 : m ≤ k := by rw [hm]; exact Nat.min_le_left _ _
      have hm4 : m ≤ n - k := by rw [hm]; exact Nat.min_le_right _ _
      have hm3 : k + m ≤ n := by omega
      have Hm := hide' hm
      clear hm
      have hne : ¬ n = k := by omega
      have HD : Hid (wr.drew.heap[w.heap.size]? = some (.cells c.toArray 3 (0, 0)) ∧ Below w.heap.size w wr.drew) := ⟨HG.out.1, ⟨HG.out.2.2.2.os, HG.out.2.2.2.tape, HG.out.2.2.2.output, HG.out.2.2.2.size, HG.out.2.2.2.block⟩⟩
      have hnx : Hid (∀ w', w'.heap[w.heap.size]? = some (.cells (splice c k (List.replicate m (M1 x))).toArray 3 (0, 0)) → Below w.heap.size w w' → ∃ c' : List Value, w'.heap[w.heap.size]? = some (.cells c'.toArray 3 (0, 0)) ∧ c'.length = n ∧ (∀ j, j < k + m → c'[j]? = some (M1 x)) ∧ Below w.heap.size w w') := fun w' h1 h2 => ⟨_, h1, by rw [length_splice _ _ _ (by rw [List.length_replicate, HG.out.2.1]; exact hm3)]; exact HG.out.2.1, splice_fill HG.out.2.1 hm3 HG.out.2.2.1, h2⟩
      have hfit : Hid (k + (List.replicate m (M1 x)).length ≤ c.length) := by show _ ≤ _; rw [List.length_replicate, HG.out.2.1]; exact hm3
      have hcl : Hid ((List.replicate m (M1 x)).length = m) := List.length_replicate
      have hsr : Hid (∀ (j : Nat) (v : Value), (List.replicate m (M1 x))[j]? = some v → wr.drew.cell? ((⟨w.heap.size, 0, none⟩ : Addr).add j) = some v) := srcN HD.out.1 hm2 HG.out.2.2.1
      have hon : Hid (∀ v ∈ List.replicate m (M1 x), v.oneCell' = true) := by intro v hv; rw [List.eq_of_mem_replicate hv]; rfl
      generalize List.replicate m (M1 x) = cs at *
      go_wp2_with fail
      go_region_law (refine step_copy_splice (by rfl) _ _ 23 23 (by rfl) 3 Try.underlying23 Hi.out.2.2.2.2 (some ⟨w.heap.size, k, none⟩) (some ⟨w.heap.size, 0, none⟩) (n - k) (n - k) k n (by go_simp) (by go_simp) w.heap.size k c 3 HD.out.1 cs (hcl.out.trans Hm.out) (fun _ => ⟨rfl, _, rfl, hsr.out⟩) hfit.out hon.out w.heap.size w HD.out.2 (Nat.le_refl _) ?_; intro w4 hg4 hb4)
      have hcs := hcl.out
      have K4 := hide' (hnx.out w4 hg4.out hb4)
      clear hg4 hb4 HD hnx hfit hcl hsr hon HG
      go_simp
      go_wp2_with fail
      obtain ⟨c', h'⟩ := K4.out
      have e8 : Value.int .i64 (IntKind.i64.wrap ((k : Int) + (m : Int))) = .int .i64 ((k + m : Nat) : Int) := by
        have hw : IntKind.i64.wrap ((k : Int) + (m : Int)) = (k : Int) + (m : Int) := by simp [IntKind.wrap, IntKind.bits, IntKind.signed]; omega
        rw [hw]; congr 1
      rw [e8]
      exact ⟨⟨k + m, c', rfl, by omega, hm3, h'⟩, by simp [intOf]; omega⟩
    · have hke : n = k := by omega
      subst hke
      have hlt' : ¬ (n : Int) < (n : Int) := by omega
      have hF : Hid (wr.ownsRow w.heap.size 3 1 (.slice (some ⟨w.heap.size, 0, none⟩) n n) n (ivs (List.replicate n x)) ∧ Below w.heap.size w wr) := by
        obtain ⟨g1, g2, g3, g4⟩ := HG.out
        refine ⟨cur_row ?_ (by simp) (Nat.le_refl _) (by unfold maxLen; omega), g4⟩
        rw [← full_map g2 g3]; exact g1
      clear HG
      go_wp2_with fail
      go_ret
      exact ⟨_, rfl, hF.out⟩
end C
end Go.Proofs.Ytbgjggblaeadlaa
