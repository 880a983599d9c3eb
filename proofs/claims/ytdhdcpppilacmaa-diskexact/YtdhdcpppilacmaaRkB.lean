import Derived.Test.YtdhdcpppilacmaaRkA
import Derived.Test.YtdhdcpppilacmaaRkP
set_option linter.unusedVariables false
set_option linter.unusedSimpArgs false
namespace Go.Proofs.Ytdhdcpppilacmaa
open Go.RowKit
namespace K
open M
variable {B c cap : Nat} {room : Int} {ss : List By} {l : List UInt8} {s : Nat} {ao : Option Addr} {w w' : World}
set_option maxRecDepth 100000 in
set_option maxHeartbeats 1000000 in
theorem ropen_range (T : Value) (w : World) (h : room < 0 ∨ 1048576 < room) : Calls Try.prog 22 #[T, .int .i64 room] w fun e w' => e = .returned (.tuple #[.pointer none, .int .i64 3]) ∧ w' = w := by
  rcases h with h | h
  · go_enter Try.func22, Try.ntmps22
    go_wp2
    go_ret2
    exact ⟨rfl, rfl⟩
  · have h' : ¬ (room < 0) := by omega
    go_enter Try.func22, Try.ntmps22
    go_wp2
    go_ret2
    exact ⟨rfl, rfl⟩
set_option maxRecDepth 100000 in
set_option maxHeartbeats 1000000 in
theorem ropen_full (t : List UInt8) (w : World) (h0 : 0 ≤ room) (h1 : room ≤ 1048576) (h2 : room < (t.length : Int)) : Calls Try.prog 22 #[.string (sb t), .int .i64 room] w fun e w' => e = .returned (.tuple #[.pointer none, .int .i64 210]) ∧ w' = w := by
  have g0 : ¬ (room < 0) := by omega
  have g1 : ¬ (1048576 < room) := by omega
  have hz := sb_size t
  clear h0 h1
  generalize t.length = n at *
  generalize sb t = T at *
  go_enter Try.func22, Try.ntmps22
  go_wp2
  go_ret2
  exact ⟨rfl, rfl⟩
set_option maxRecDepth 100000 in
set_option maxHeartbeats 2000000 in
theorem ropen_ok (t : List UInt8) (w : World) (h2 : (t.length : Int) ≤ room) (h1 : room ≤ 1048576) : Calls Try.prog 22 #[.string (sb t), .int .i64 room] w fun e w' => ∃ c, e = .returned (.tuple #[.pointer (some ⟨c, 0, none⟩), .int .i64 0]) ∧ Hid (∃ ao cap, Rr w.heap.size c room (mk t t.length) ao cap w' ∧ Below w.heap.size w w') := by
  have g0 : ¬ (room < 0) := by omega
  have g1 : ¬ (1048576 < room) := by omega
  have hz := sb_size t
  obtain ⟨n, hn⟩ : ∃ n, n = t.length := ⟨_, rfl⟩
  have g2 : ¬ (room < (n : Int)) := by omega
  have Hn := hide' hn
  have hn6 := hide' (show n ≤ 1048576 by omega)
  have HH := hide' (And.intro h2 trivial)
  have R0 : Hid (RT w.heap.size w.heap.size room ([] ++ tg true (t.take 0)) none (w.alloc (.cells #[.int .i64 room, .slice none 0 0] 57)) (w.alloc (.cells #[.int .i64 room, .slice none 0 0] 57)) none 0) := hide' (RT.refl (Rr.new w (by omega) h1))
  rw [← hn] at hz
  clear h1 h2 hn
  obtain ⟨T, hT⟩ : ∃ T, T = sb t := ⟨_, rfl⟩
  rw [← hT] at hz ⊢
  have HT := hide' hT
  clear hT
  obtain ⟨c, hc⟩ : ∃ c, c = w.heap.size := ⟨_, rfl⟩
  have Hc := hide' hc
  obtain ⟨B, hB⟩ : ∃ B, B = w.heap.size := ⟨_, rfl⟩
  have HB := hide' hB
  obtain ⟨w0, hw0⟩ : ∃ w0, w0 = w.alloc (.cells #[.int .i64 room, .slice none 0 0] 57) := ⟨_, rfl⟩
  have Hw0 := hide' hw0
  rw [← hw0] at R0
  have hR0 : Hid (RT B c room ([] ++ tg true (t.take 0)) none w0 w0 none 0) := by rw [hB, hc]; exact R0
  have HBw : Hid (B ≤ w0.heap.size) := hide' (by rw [hB, hw0]; simp)
  clear R0 hc hB hw0
  go_enter Try.func22, Try.ntmps22
  go_wp2_with fail
  rw [← Hc.out, ← Hw0.out]
  go_loopw [7] (fun i wx => ∃ (k : Nat) (ao' : Option Addr) (cap' : Nat), i = .int .i64 (k : Int) ∧ k ≤ n ∧ RT B c room ([] ++ tg true (t.take k)) none w0 wx ao' cap') (fun i _ => n - (intOf i).toNat)
  case atStart => exact ⟨0, none, 0, rfl, Nat.zero_le _, hR0.out⟩
  case round =>
    obtain ⟨k, ao', cap', rfl, hk, hR⟩ := hrel
    clear hR0 g0 g1 g2
    by_cases hlt : k < n
    · have hlt' : (k : Int) < (n : Int) := by omega
      obtain ⟨z, hz'⟩ : ∃ z, t[k]? = some z := ⟨_, List.getElem?_eq_getElem (by rw [← Hn.out]; exact hlt)⟩
      have hix : ∀ w', (Instr.index 9 (.string T) (.int .i64 (k : Int))).run Try.prog w' = .ok (.int .u8 (z.toNat : Int)) w' := fun w' => by rw [HT.out]; exact index_sb hz' w'
      obtain ⟨S, hS⟩ : ∃ S, S = [] ++ tg true (t.take k) := ⟨_, rfl⟩
      have hS' : [] ++ tg true (t.take (k + 1)) = S ++ [(z, true)] := by rw [tg_take hz', hS, List.append_assoc]
      rw [← hS] at hR
      have hSl : (S.length : Int) + 1 ≤ room := by
        rw [hS, List.length_append]; unfold tg; rw [List.length_map, List.length_take]
        have := HH.out.1; have := Hn.out; simp; omega
      have c1 := hR.1.c1
      have f1 := hR.1.f 1
      have lt := hR.1.lt
      have row := hR.1.row.row
      have hroom := hR.1.hm
      obtain ⟨i0, hi0, hz0, hz1, hz2⟩ := info_parts info59
      have n1 : Hid (S.length + 1 ≤ maxLen) := hide' (show S.length + 1 ≤ maxLen by unfold maxLen; omega)
      have n2 : Hid ((S.length + 1) * 2 ≤ 140737488355328) := hide' (show (S.length + 1) * 2 ≤ 140737488355328 by omega)
      have n3 : Hid (B ≤ wr.heap.size) := hide' (Nat.le_trans HBw.out hR.2.1.size)
      have ne : some c ≠ (Value.slice ao' S.length cap').ownBlock := fun q => hR.1.na (own_at q.symm)
      have new2 : ∀ o, (wr.alloc o).drew.heap[wr.heap.size]? = some o := fun o => heap_alloc_new wr o
      have new1 := World.new_ne wr ⟨c, 1, none⟩ c1
      have fal : ∀ o, (wr.alloc o).drew.frozen? ⟨c, 1, none⟩ = false := fun o => (World.frozen?_of_block (w := wr) (Below.heap_alloc _ _ _ lt)).trans f1
      have cal : ∀ o, (wr.alloc o).drew.cell? ⟨c, 1, none⟩ = some (.slice ao' S.length cap') := fun o => (World.cell?_of_block (w := wr) (Below.heap_alloc _ _ _ lt)).trans c1
      have HR := hide' hR
      have HS := hide' (And.intro hS' hSl)
      have ek := hide' (wsucN k (by have := hn6.out; omega))
      have Hms := hide' (msr' hlt _ rfl)
      have Hlt := hide' hlt
      clear hR hS hS' hSl hz' hk hroom hlt
      go_wp2_with fail
      go_region_law ((refine step_append_lies _ (by rfl) _ _ _ (by rfl) B 59 i0 _ 2 2 Try.underlying55 hi0 hz0 hz1 hz2 rfl (by omega) (.slice ao' S.length cap') S.length (flat bb S) (by rfl) ((row.alloc _).drew) ⟨wr.heap.size, 0, none⟩ 1 1 [.int .u8 (z.toNat : Int), .bool true] (by rfl) (by rfl) (World.news_of_block (cs := #[.int .u8 (z.toNat : Int), .bool true]) (t := 59) (fr := (0, 0)) (new2 _)) (by simp [Value.oneCell']) (by omega) n1.out n2.out (by simp; exact Nat.le_trans n3.out (Nat.le_succ _)) (wr.heap.size + 1) (by simp) ?_; intro gg cc w1 hown1 hgrow hat hlt; have a0 := (hgrow.cell_far ⟨c, 1, none⟩ (by simp; omega) ne).trans (cal _); have a0f := (hgrow.frozen_far ⟨c, 1, none⟩ (by simp; omega) ne).trans (fal _)))
      all_goals
        have hb0 : Below wr.heap.size wr (wr.alloc (.cells #[.int .u8 (z.toNat : Int), .bool true] 59)).drew := ((Below.refl _ _).alloc (Nat.le_refl _) _).drew
        have K2 := hide' (HR.out.then (HR.out.1.core (x := (z, true)) hb0 hown1 hgrow (by rcases hat with h | h; exact .inl h; exact .inr (by omega)) HS.out.2))
        rw [← HS.out.1] at K2
        clear hb0 hown1 hgrow hat hlt a0 a0f c1 f1 lt row ne new2 new1 fal cal HR HS
        go_wp2
        exact ⟨⟨k + 1, _, _, by first | rfl | (rw [ek.out]), Hlt.out, K2.out⟩, by first | exact Hms.out | (rw [ek.out]; exact Hms.out)⟩
    · obtain rfl : k = n := by omega
      rw [List.take_of_length_le (by rw [← Hn.out]; exact Nat.le_refl _), List.nil_append, mk_all] at hR
      have K2 : Hid (∃ ao cap, Rr w.heap.size c room (mk t t.length) ao cap wr ∧ Below w.heap.size w wr) := hide' ⟨_, _, by rw [← HB.out]; exact hR.1, by
        have b0 : Below w.heap.size w w0 := by rw [Hw0.out]; exact (Below.refl _ _).alloc (Nat.le_refl _) _
        exact b0.trans (hR.2.1.below (fun j hj => by
          rcases hj with hj | ⟨_, q, _⟩
          · rw [hj, Hc.out]; exact Nat.le_refl _
          · cases q) b0.size)⟩
      clear hR hk hlt
      go_wp2
      go_ret2
      exact ⟨_, rfl, K2⟩
set_option maxRecDepth 100000 in
set_option maxHeartbeats 1000000 in
theorem rsync_any (q : Rr B c room ss ao cap w) : Calls Try.prog 24 #[.pointer (some ⟨c, 0, none⟩)] w fun e w' => e = .returned (.tuple #[]) ∧ RT B c room (sy ss.length ss) ao w w' ao cap := by
  have HQ := hide' q
  have hm := q.hm
  have hr := q.hr
  obtain ⟨n, hn⟩ : ∃ n, n = ss.length := ⟨_, rfl⟩
  have Hn := hide' hn
  have hn6 := hide' (show n ≤ 1048576 by omega)
  rw [← hn]
  clear q hm hr hn
  go_enter Try.func24, Try.ntmps24
  go_wp2_with fail
  go_loopw [2] (fun i wx => ∃ k : Nat, i = .int .i64 (k : Int) ∧ k ≤ n ∧ RT B c room (sy k ss) ao w wx ao cap) (fun i _ => n - (intOf i).toNat)
  case atStart => exact ⟨0, rfl, Nat.zero_le _, RT.refl HQ.out⟩
  case round =>
    obtain ⟨k, rfl, hk, hR⟩ := hrel
    have c1 := hR.1.c1
    rw [sy_len, ← Hn.out] at c1
    by_cases hlt : k < n
    · have hlt' : (k : Int) < (n : Int) := by omega
      obtain ⟨x, hx⟩ : ∃ x, (sy k ss)[k]? = some x := ⟨_, List.getElem?_eq_getElem (by rw [sy_len, ← Hn.out]; exact hlt)⟩
      obtain ⟨g, rfl, y0, y1, yf⟩ := hR.1.cells hx
      have yf' : wr.frozen? ⟨g, k * 2 + 1, none⟩ = false := by rw [Nat.zero_add] at yf; exact yf
      have y1' : wr.cell? ⟨g, k * 2 + 1, none⟩ = some (.bool x.2) := by rw [Nat.zero_add] at y1; exact y1
      have K2 : Hid (RT B c room (sy (k + 1) ss) (some ⟨g, 0, none⟩) w (wr.setCell ⟨g, k * 2 + 1, none⟩ (.bool true)) (some ⟨g, 0, none⟩) cap) := hide' (by
        have rt := hR.1.put k
        rw [Nat.zero_add] at rt
        obtain ⟨r, t⟩ := rt
        exact hR.then ⟨r, t.mono (fun j _ hj => .inr hj), fun j hj => .inl hj⟩)
      have ek := hide' (wsucN k (by have := hn6.out; omega))
      have Hms := hide' (msr' hlt _ rfl)
      have Hlt := hide' hlt
      clear hR hx hk hlt yf y1
      go_wp2
      exact ⟨⟨k + 1, by first | rfl | (rw [ek.out]), Hlt.out, K2.out⟩, by first | exact Hms.out | (rw [ek.out]; exact Hms.out)⟩
    · obtain rfl : k = n := by omega
      have K2 := hide' hR
      clear hR hk hlt
      go_wp2
      go_end0
      exact ⟨rfl, K2.out⟩
set_option maxRecDepth 100000 in
set_option maxHeartbeats 1000000 in
theorem rsafe_any (q : Rr B c room (mk l s) ao cap w) (hs : s ≤ l.length) : Calls Try.prog 13 #[.pointer (some ⟨c, 0, none⟩)] w fun e w' => e = .returned (.int .i64 (s : Nat)) ∧ w' = w := by
  have HQ := hide' q
  have hm := q.hm
  have hr := q.hr
  rw [mk_len] at hr
  have c1 := q.c1
  rw [mk_len] at c1
  obtain ⟨n, hn⟩ : ∃ n, n = l.length := ⟨_, rfl⟩
  have Hn := hide' hn
  have hn6 := hide' (show n ≤ 1048576 by omega)
  have HS := hide' (show s ≤ n by omega)
  rw [← hn] at c1
  clear q hm hr hn hs
  go_enter Try.func13, Try.ntmps13
  go_wp2_with fail
  go_loopw [3, 4] (fun m i wx => ∃ k : Nat, m = .int .i64 ((min k s : Nat) : Int) ∧ i = .int .i64 (k : Int) ∧ k ≤ n ∧ wx = w) (fun _ i _ => n - (intOf i).toNat)
  case atStart => exact ⟨0, by simp, rfl, Nat.zero_le _, rfl⟩
  case round =>
    obtain ⟨k, rfl, rfl, hk, rfl⟩ := hrel
    by_cases hlt : k < n
    · have hlt' : (k : Int) < (n : Int) := by omega
      obtain ⟨z, hz⟩ : ∃ z, l[k]? = some z := ⟨_, List.getElem?_eq_getElem (by rw [← Hn.out]; exact hlt)⟩
      obtain ⟨g, rfl, y0, y1, yf⟩ := HQ.out.cells (mk_get hz)
      rw [Nat.zero_add] at y0 y1
      have ek := hide' (wsucN k (by have := hn6.out; omega))
      have Hms := hide' (msr' hlt _ rfl)
      have Hlt := hide' hlt
      by_cases hks : k < s
      · have y1' : wr.cell? ⟨g, k * 2 + 1, none⟩ = some (.bool true) := by rw [y1]; simp [hks]
        have e1 : min k s = k := by omega
        have e2 : min (k + 1) s = k + 1 := by omega
        have E2 := hide' e2
        rw [e1]
        clear y1 hz hk hlt e1 e2 hks
        go_wp2
        exact ⟨⟨k + 1, by rw [E2.out]; first | rfl | (rw [ek.out]), by first | rfl | (rw [ek.out]), Hlt.out, trivial⟩, by first | exact Hms.out | (rw [ek.out]; exact Hms.out)⟩
      · have y1' : wr.cell? ⟨g, k * 2 + 1, none⟩ = some (.bool false) := by rw [y1]; simp [hks]
        have e1 : min k s = s := by omega
        have e2 : min (k + 1) s = s := by omega
        have E2 := hide' e2
        rw [e1]
        clear y1 hz hk hlt e1 e2 hks
        go_wp2
        exact ⟨⟨k + 1, by rw [E2.out], by first | rfl | (rw [ek.out]), Hlt.out, trivial⟩, by first | exact Hms.out | (rw [ek.out]; exact Hms.out)⟩
    · obtain rfl : k = n := by omega
      have e1 : min k s = s := by have := HS.out; omega
      rw [e1]
      clear e1 hk hlt
      go_wp2
      go_ret
      exact ⟨rfl, rfl⟩
end K
end Go.Proofs.Ytdhdcpppilacmaa
