import Derived.Test.YtihdagehenmolaaJn
set_option linter.unusedVariables false
set_option linter.unusedSimpArgs false
namespace Go.Proofs.Ytihdagehenmolaa
open Go.RowKit
namespace J
open M K
variable {B d s cap : Nat} {room : Int} {l : List UInt8} {ao : Option Addr} {w w' : World}
set_option maxRecDepth 100000 in
set_option maxHeartbeats 1000000 in
theorem jopen_nil (w : World) : Calls Try.prog 18 #[.pointer none] w fun r w' => r = .returned (.tuple #[.pointer none, .slice none 0 0, .int .i64 2]) ∧ w' = w := by
  go_enter Try.func18, Try.ntmps18
  go_wp2
  refine bodyPost_ret (results_tmp3 rfl _ _ _) rfl ?_
  exact ⟨rfl, rfl⟩
theorem dk_len (k : Dk B d room l s ao cap w) : l.length ≤ 1048576 := by have := k.hr; have := k.hm; omega
set_option maxRecDepth 100000 in
set_option maxHeartbeats 1000000 in
theorem jopen_torn (k : Dk B d room l s ao cap w) {es : List En} (hr : Rds l es) (h : (recs es).length < l.length) : Calls Try.prog 18 #[.pointer (some ⟨d, 0, none⟩)] w fun r w' => r = .returned (.tuple #[.pointer none, .slice none 0 0, .int .i64 220]) ∧ Below w.heap.size w w' := by
  have C1 := hide' (bytes_any k)
  have C2 := hide' (read_any l (by have := dk_len k; omega) w)
  have z := sb_size l
  obtain ⟨T, hT⟩ : ∃ T, T = sb l := ⟨_, rfl⟩
  obtain ⟨m, hm⟩ : ∃ m, m = l.length := ⟨_, rfl⟩
  rw [← hT, ← hm] at z
  rw [← hT] at C1 C2
  have HR := hide' (And.intro hr (And.intro hm h))
  clear hT hm hr h k
  go_enter Try.func18, Try.ntmps18
  go_wp2_with fail
  refine C1.out.mono ?_
  rintro e w1 ⟨rfl, rfl⟩
  clear C1
  go_wp2_with fail
  refine C2.out.mono ?_
  rintro e w2 ⟨fs, af, cf, rfl, hr2, ho2, hb2⟩
  have hfs : fs = es := hr2.uniq HR.out.1
  subst hfs
  obtain ⟨n, hn⟩ : ∃ n, n = (recs fs).length := ⟨_, rfl⟩
  have g : (n : Int) < (m : Int) := by rw [hn]; have := HR.out.2.2; have := HR.out.2.1; omega
  rw [← hn]
  have B2 := hide' hb2
  clear hr2 ho2 hb2 C2 hn
  go_wp2
  refine bodyPost_ret (results_tmp3 rfl _ _ _) rfl ?_
  exact ⟨rfl, B2.out⟩
set_option maxRecDepth 100000 in
set_option maxHeartbeats 1000000 in
theorem jopen_ok (k : Dk B d room l s ao cap w) {es : List En} (he : ∀ e ∈ es, e.ok) (h : l = recs es) : Calls Try.prog 18 #[.pointer (some ⟨d, 0, none⟩)] w fun r w' => ∃ b af cf, r = .returned (.tuple #[.pointer (some ⟨b, 0, none⟩), .slice af es.length cf, .int .i64 0]) ∧ w.heap.size ≤ b ∧ Jn b d (lst es) w' ∧ Es w.heap.size af cf es w' ∧ Below w.heap.size w w' := by
  have C1 := hide' (bytes_any k)
  have C2 := hide' (read_any l (by have := dk_len k; omega) w)
  have z := sb_size l
  have hr : Rds l es := by rw [h]; exact recs_read he
  obtain ⟨T, hT⟩ : ∃ T, T = sb l := ⟨_, rfl⟩
  obtain ⟨m, hm⟩ : ∃ m, m = l.length := ⟨_, rfl⟩
  rw [← hT, ← hm] at z
  rw [← hT] at C1 C2
  have HR : Hid (Rds l es ∧ (recs es).length = m ∧ es.length ≤ 1048576) := hide' ⟨hr, by rw [← h, hm], by
    have h1 := recs_len_le es
    rw [← h] at h1
    have := dk_len k
    omega⟩
  clear hT hm hr h k
  go_enter Try.func18, Try.ntmps18
  go_wp2_with fail
  refine C1.out.mono ?_
  rintro e w1 ⟨rfl, rfl⟩
  clear C1
  go_wp2_with fail
  refine C2.out.mono ?_
  rintro e w2 ⟨fs, af, cf, rfl, hr2, ho2, hb2⟩
  have hfs : fs = es := hr2.uniq HR.out.1
  subst hfs
  rw [HR.out.2.1]
  have K2 := hide' (And.intro ho2 hb2)
  clear hr2 ho2 hb2 C2
  by_cases hz : fs = []
  · subst hz
    go_wp2
    refine bodyPost_ret (results_tmp3 rfl _ _ _) rfl ?_
    exact ⟨w2.heap.size, af, cf, rfl, K2.out.2.size, ⟨heap_alloc_new _ _⟩, K2.out.1.below (below_al _ _), K2.out.2.alloc K2.out.2.size _⟩
  · have hat := lst_at hz
    obtain ⟨g, rfl, c0, c1⟩ := es_cell K2.out.1 hat
    have hpos : 0 < fs.length := List.length_pos_iff.2 hz
    obtain ⟨n, hn⟩ : ∃ n, n = fs.length - 1 := ⟨_, rfl⟩
    rw [← hn] at c0 c1
    have hfl : fs.length = n + 1 := by omega
    have HL : Hid (fs.length = n + 1) := hide' hfl
    have hglt : g < w2.heap.size := World.block_lt_of_cell? w2 _ c0
    have c0' := ((below_al w2 (.cells #[.pointer (some ⟨d, 0, none⟩), .int .i64 0, .string ⟨#[]⟩] 79)).cell (p := ⟨g, n * 2, none⟩) hglt).trans c0
    have c1' := ((below_al w2 (.cells #[.pointer (some ⟨d, 0, none⟩), .int .i64 0, .string ⟨#[]⟩] 79)).cell (p := ⟨g, n * 2 + 1, none⟩) hglt).trans c1
    obtain ⟨lv, hlv⟩ : ∃ v, v = (lst fs).v := ⟨_, rfl⟩
    obtain ⟨lT, hlT⟩ : ∃ v, v = sb (lst fs).t := ⟨_, rfl⟩
    rw [← hlv] at c0'
    rw [← hlT] at c1'
    have HLV := hide' (And.intro hlv hlT)
    obtain ⟨M, hM⟩ : ∃ M : Nat, M = fs.length := ⟨_, rfl⟩
    have HMf := hide' hM
    rw [← hM]
    have gp : 0 < M := by omega
    have ws : wrap64 ((M : Int) - 1) = (n : Int) := by have := HR.out.2.2; rw [← hM] at this; unfold wrap64; omega
    have gn : (n : Int) < (M : Int) := by omega
    clear hat hpos hn hfl hglt c0 c1 hlv hlT hM hz
    go_wp2
    refine bodyPost_ret (results_tmp3 rfl _ _ _) rfl ?_
    exact ⟨w2.heap.size, some ⟨g, 0, none⟩, cf, by rw [← HMf.out]; rfl, K2.out.2.size, ⟨by rw [← HLV.out.1, ← HLV.out.2]; exact heap_alloc_new _ _⟩, K2.out.1.below (below_al _ _), K2.out.2.alloc K2.out.2.size _⟩
set_option maxRecDepth 100000 in
set_option maxHeartbeats 1000000 in
theorem dnew_ok (w : World) (h0 : 0 ≤ room) (h1 : room ≤ 1048576) : Calls Try.prog 26 #[.int .i64 room] w fun e w' => ∃ b, e = .returned (.tuple #[.pointer (some ⟨b, 0, none⟩), .int .i64 0]) ∧ Hid (∃ ao cap, Dk w.heap.size b room [] 0 ao cap w' ∧ Below w.heap.size w w') := by
  have C1 := hide' (open_ok (room := room) [] w (by simpa using h0) h1)
  rw [show sb [] = ⟨#[]⟩ from rfl] at C1
  clear h0 h1
  go_enter Try.func26, Try.ntmps26
  go_wp2_with fail
  refine C1.out.mono ?_
  rintro e w1 ⟨b, rfl, H1⟩
  clear C1
  go_wp2
  go_ret2
  exact ⟨b, rfl, H1⟩
theorem Wh.some (F : List En) (K k : Nat) : ∃ wh, Wh F K k wh := by
  induction k with
  | zero => exact ⟨0, Wh.zero F K⟩
  | succ k ih =>
    obtain ⟨wh, h⟩ := ih
    by_cases q : pre F (k + 1) ≤ K
    · exact ⟨_, h.yes q⟩
    · exact ⟨_, h.not q⟩
/-- what is read of a beginning -/
theorem read_some {F : List En} (hF : ∀ e ∈ F, e.ok) {K : Nat} {es : List En} (h : Rds ((recs F).take K) es) : ∃ wh, wh ≤ F.length ∧ es = F.take wh ∧ Wh F K F.length wh := by
  obtain ⟨wh, q⟩ := Wh.some F K F.length
  exact ⟨wh, q.le, h.uniq (q.read hF), q⟩
end J
end Go.Proofs.Ytihdagehenmolaa
