import Derived.Test.YtdhdcpppilacmaaRk
set_option linter.unusedVariables false
set_option linter.unusedSimpArgs false
namespace Go.Proofs.Ytdhdcpppilacmaa
open Go.RowKit
namespace K
open M
variable {B c cap : Nat} {room : Int} {ss : List By} {ao : Option Addr} {w w' : World}
set_option maxRecDepth 100000 in
set_option maxHeartbeats 1000000 in
theorem rappend_full (q : Rr B c room ss ao cap w) (t : List UInt8) (h : room - ss.length < t.length) : Calls Try.prog 23 #[.pointer (some ⟨c, 0, none⟩), .string (sb t)] w fun e w' => e = .returned (.int .i64 210) ∧ Below w.heap.size w w' := by
  have c0 := q.c0
  have c1 := q.c1
  have hz := sb_size t
  obtain ⟨n, hn⟩ : ∃ n, n = t.length := ⟨_, rfl⟩
  obtain ⟨m, hm⟩ : ∃ m, m = ss.length := ⟨_, rfl⟩
  have hsub : wrap64 (room - (m : Int)) = room - (m : Int) := by have := q.hr; have := q.hm; unfold wrap64; omega
  rw [← hn] at hz
  rw [← hm] at c1
  have hlt : room - (m : Int) < (n : Int) := by omega
  clear q h hn hm
  generalize hT : sb t = T at *
  clear hT
  go_enter Try.func23, Try.ntmps23
  go_wp2_with fail
  go_quiet (fail)
  go_wp2
  go_ret
  exact ⟨rfl, below_drewN _ _⟩
set_option maxRecDepth 100000 in
set_option maxHeartbeats 2000000 in
theorem rappend_ok (q : Rr B c room ss ao cap w) (t : List UInt8) (h : (t.length : Int) ≤ room - ss.length) (hB : B ≤ w.heap.size) : Calls Try.prog 23 #[.pointer (some ⟨c, 0, none⟩), .string (sb t)] w fun e w' => e = .returned (.int .i64 0) ∧ Hid (∃ ao' cap', RT B c room (ss ++ tg false t) ao w w' ao' cap') := by
  have c0 := q.c0
  have c1 := q.c1
  have hz := sb_size t
  have HQ := hide' q
  have HH := hide' (And.intro h hB)
  obtain ⟨n, hn⟩ : ∃ n, n = t.length := ⟨_, rfl⟩
  obtain ⟨m, hm⟩ : ∃ m, m = ss.length := ⟨_, rfl⟩
  have hsub : wrap64 (room - (m : Int)) = room - (m : Int) := by have := q.hr; have := q.hm; unfold wrap64; omega
  rw [← hn] at hz
  rw [← hm] at c1
  have hlt : ¬ (room - (m : Int) < (n : Int)) := by omega
  have Hn := hide' hn
  have hn6 := hide' (show n ≤ 1048576 by have := q.hm; omega)
  clear q h hm hB hn
  obtain ⟨T, hT⟩ : ∃ T, T = sb t := ⟨_, rfl⟩
  rw [← hT] at hz ⊢
  have HT := hide' hT
  clear hT
  go_enter Try.func23, Try.ntmps23
  go_wp2_with fail
  go_quiet (fail)
  have R0 : Hid (RT B c room (ss ++ tg false (t.take 0)) ao w (w.drewN nq) ao cap) := hide' ⟨by simp only [List.take_zero, tg, List.map_nil, List.append_nil]; exact HQ.out.below (below_drewN w nq), (Turn.refl _ w).drewN nq, fun j hj => .inl hj⟩
  clear c0 c1
  go_wp2_with fail
  go_loopw [5] (fun i wx => ∃ (k : Nat) (ao' : Option Addr) (cap' : Nat), i = .int .i64 (k : Int) ∧ k ≤ n ∧ RT B c room (ss ++ tg false (t.take k)) ao w wx ao' cap') (fun i _ => n - (intOf i).toNat)
  case atStart => exact ⟨0, ao, cap, rfl, Nat.zero_le _, R0.out⟩
  case round =>
    obtain ⟨k, ao', cap', rfl, hk, hR⟩ := hrel
    clear R0 hlt hsub
    by_cases hlt : k < n
    · have hlt' : (k : Int) < (n : Int) := by omega
      obtain ⟨z, hz'⟩ : ∃ z, t[k]? = some z := ⟨_, List.getElem?_eq_getElem (by rw [← Hn.out]; exact hlt)⟩
      have hix : ∀ w', (Instr.index 9 (.string T) (.int .i64 (k : Int))).run Try.prog w' = .ok (.int .u8 (z.toNat : Int)) w' := fun w' => by rw [HT.out]; exact index_sb hz' w'
      obtain ⟨S, hS⟩ : ∃ S, S = ss ++ tg false (t.take k) := ⟨_, rfl⟩
      have hS' : ss ++ tg false (t.take (k + 1)) = S ++ [(z, false)] := by rw [tg_take hz', hS, List.append_assoc]
      rw [← hS] at hR
      have hSl : (S.length : Int) + 1 ≤ room := by
        rw [hS, List.length_append]; unfold tg; rw [List.length_map, List.length_take]
        have := HH.out.1; have := Hn.out; omega
      have c1 := hR.1.c1
      have f1 := hR.1.f 1
      have lt := hR.1.lt
      have row := hR.1.row.row
      have hroom := hR.1.hm
      obtain ⟨i0, hi0, hz0, hz1, hz2⟩ := info_parts info59
      have n1 : Hid (S.length + 1 ≤ maxLen) := hide' (show S.length + 1 ≤ maxLen by unfold maxLen; omega)
      have n2 : Hid ((S.length + 1) * 2 ≤ 140737488355328) := hide' (show (S.length + 1) * 2 ≤ 140737488355328 by omega)
      have n3 : Hid (B ≤ wr.heap.size) := hide' (Nat.le_trans HH.out.2 hR.2.1.size)
      have ne : some c ≠ (Value.slice ao' S.length cap').ownBlock := fun q => hR.1.na (own_at q.symm)
      have new2 : ∀ o, (wr.alloc o).drew.heap[wr.heap.size]? = some o := fun o => heap_alloc_new wr o
      have new1 := World.new_ne wr ⟨c, 1, none⟩ c1
      have fal : ∀ o, (wr.alloc o).drew.frozen? ⟨c, 1, none⟩ = false := fun o => (World.frozen?_of_block (w := wr) (Below.heap_alloc _ _ _ lt)).trans f1
      have cal : ∀ o, (wr.alloc o).drew.cell? ⟨c, 1, none⟩ = some (.slice ao' S.length cap') := fun o => (World.cell?_of_block (w := wr) (Below.heap_alloc _ _ _ lt)).trans c1
      have HR := hide' hR
      have HS := hide' (And.intro hS' hSl)
      have ek := hide' (wsucN k (by have := hn6.out; omega))
      have Hms := hide' (msr' hlt _ rfl)
      have Hlt := hide' hlt
      clear hR hS hS' hSl hz' hk hroom hlt
      go_wp2_with fail
      go_region_law ((refine step_append_lies _ (by rfl) _ _ _ (by rfl) B 59 i0 _ 2 2 Try.underlying55 hi0 hz0 hz1 hz2 rfl (by omega) (.slice ao' S.length cap') S.length (flat bb S) (by rfl) ((row.alloc _).drew) ⟨wr.heap.size, 0, none⟩ 1 1 [.int .u8 (z.toNat : Int), .bool false] (by rfl) (by rfl) (World.news_of_block (cs := #[.int .u8 (z.toNat : Int), .bool false]) (t := 59) (fr := (0, 0)) (new2 _)) (by simp [Value.oneCell']) (by omega) n1.out n2.out (by simp; exact Nat.le_trans n3.out (Nat.le_succ _)) (wr.heap.size + 1) (by simp) ?_; intro gg cc w1 hown1 hgrow hat hlt; have a0 := (hgrow.cell_far ⟨c, 1, none⟩ (by simp; omega) ne).trans (cal _); have a0f := (hgrow.frozen_far ⟨c, 1, none⟩ (by simp; omega) ne).trans (fal _)))
      all_goals
        have hb0 : Below wr.heap.size wr (wr.alloc (.cells #[.int .u8 (z.toNat : Int), .bool false] 59)).drew := ((Below.refl _ _).alloc (Nat.le_refl _) _).drew
        have K2 := hide' (HR.out.then (HR.out.1.core (x := (z, false)) hb0 hown1 hgrow (by rcases hat with h | h; exact .inl h; exact .inr (by omega)) HS.out.2))
        rw [← HS.out.1] at K2
        clear hb0 hown1 hgrow hat hlt a0 a0f c1 f1 lt row ne new2 new1 fal cal HR HS
        go_wp2
        exact ⟨⟨k + 1, _, _, by first | rfl | (rw [ek.out]), Hlt.out, K2.out⟩, by first | exact Hms.out | (rw [ek.out]; exact Hms.out)⟩
    · obtain rfl : k = n := by omega
      have K2 := hide' hR
      rw [List.take_of_length_le (by rw [← Hn.out]; exact Nat.le_refl _)] at K2
      clear hR hk hlt
      go_wp2
      go_ret
      exact ⟨rfl, hide' ⟨_, _, K2.out⟩⟩
end K
end Go.Proofs.Ytdhdcpppilacmaa
