import Derived.Test.YtihdagehenmolaaFis
set_option linter.unusedVariables false
set_option linter.unusedSimpArgs false
namespace Go.Proofs.Ytihdagehenmolaa
open Go.RowKit
namespace J
open M K
theorem ha_e (q : En) : (En.arr q).size = 2 := rfl
theorem one_e (x : En) : ∀ u ∈ (En.arr x).toList, u.oneCell' = true := by simp [En.arr, Value.oneCell']
theorem info24 : (Try.prog.info? 24).map (fun i => (i.zero, i.size, i.bytes)) = some (some (.agg #[.int .i64 0, .string ⟨#[]⟩]), 2, 24) := by kernel_rfl
/-- a list of entries that is its holder's -/
abbrev Es (B : Nat) (ao : Option Addr) (cap : Nat) (es : List En) (w : World) : Prop := Own 2 24 En.arr B (.slice ao es.length cap) es w
theorem recs_len_le (es : List En) : 17 * es.length ≤ (recs es).length := by
  induction es with
  | nil => simp
  | cons a t ih => rw [recs_cons, List.length_append, rec_len, List.length_cons]; omega
/-- what Read does -/
structure RdI (w : World) (l : List UInt8) (es : List En) (ao : Option Addr) (cap : Nat) (wx : World) : Prop where
  ok : ∀ e ∈ es, e.ok
  eq : l = recs es ++ l.drop (recs es).length
  row : Es w.heap.size ao cap es wx
  bel : Below w.heap.size w wx
set_option maxRecDepth 100000 in
set_option maxHeartbeats 1000000 in
theorem read_few (l : List UInt8) (hml : l.length ≤ 4611686018427387904) (hes : ∀ es r, (∀ e ∈ es, e.ok) → l = recs es ++ r → es.length * 24 ≤ 140737488355328) (w : World) : Calls Try.prog 15 #[.string (sb l)] w fun e w' => ∃ es ao cap, e = .returned (.tuple #[.slice ao es.length cap, .int .i64 ((recs es).length : Nat)]) ∧ Rds l es ∧ Es w.heap.size ao cap es w' ∧ Below w.heap.size w w' := by
  obtain ⟨T, hT⟩ : ∃ T, T = sb l := ⟨_, rfl⟩
  have z := sb_size l
  rw [← hT] at z ⊢
  have HT := hide' hT
  have HM := hide' hml
  have HF := hide' hes
  obtain ⟨m, hm⟩ : ∃ m, m = l.length := ⟨_, rfl⟩
  have Hm := hide' hm
  rw [← hm] at z
  clear hT hml hm hes
  go_enter Try.func15, Try.ntmps15
  go_wp2
  go_loopw [4, 5] (fun v i wx => ∃ es ao cap, v = .slice ao es.length cap ∧ i = .int .i64 (((recs es).length : Nat) : Int) ∧ RdI w l es ao cap wx) (fun _ i _ => m - (intOf i).toNat)
  case atStart => exact ⟨[], none, 0, rfl, rfl, fun e he => by simp at he, rfl, own_nil 2 24 En.arr _ _, Below.refl _ _⟩
  case round =>
    obtain ⟨es, ao, cap, rfl, rfl, hI⟩ := hrel
    have HI := hide' hI
    obtain ⟨k, hk⟩ : ∃ k, k = (recs es).length := ⟨_, rfl⟩
    have hkm : k ≤ m := by
      have := congrArg List.length hI.eq
      rw [List.length_append] at this
      rw [hk, Hm.out]; omega
    have hC := hide' (first_any (l.drop k) (by rw [List.length_drop]; have := HM.out; omega) wr)
    obtain ⟨TD, hTD⟩ : ∃ T, T = sb (l.drop k) := ⟨_, rfl⟩
    have x1 : T.extract k m = TD := by rw [HT.out, sb_cut, hTD, Hm.out, List.take_of_length_le (by rw [List.length_drop]; omega)]
    rw [← hk]
    rw [← hTD] at hC
    have Hk := hide' hk
    have g1 : (k : Int) ≤ (m : Int) := by omega
    have g0 : (0 : Int) ≤ (k : Int) := by omega
    have hM : Hid (k ≤ m ∧ m ≤ 4611686018427387904) := hide' ⟨hkm, by rw [Hm.out]; exact HM.out⟩
    clear hI hk hTD hkm
    go_wp2_with fail
    refine hC.out.mono ?_
    rintro e w1 ⟨o, rfl, hIs, b1⟩
    have B1 := hide' b1
    cases o with
    | none =>
      have HR : Hid (Rds l es) := hide' ⟨HI.out.ok, l.drop k, by rw [Hk.out]; exact HI.out.eq, hIs⟩
      clear hIs b1 hC
      unfold ans
      go_wp2
      go_ret2
      have b2 : Below wr.heap.size wr (w1.alloc (.cells #[.int .i64 0, .string ⟨#[]⟩] 24)) := B1.out.alloc B1.out.size _
      exact ⟨es, ao, cap, by rw [← Hk.out]; rfl, HR.out, HI.out.row.below b2, HI.out.bel.trans (b2.mono HI.out.bel.size)⟩
    | some e =>
      obtain ⟨v, t⟩ := e
      obtain ⟨hok, x, hx⟩ := hIs
      have HX : Hid ((⟨v, t⟩ : En).ok ∧ l.drop k = rcd ⟨v, t⟩ ++ x) := hide' ⟨hok, hx⟩
      have zt := sb_size t
      have hlt : 17 + t.length + k ≤ m := by
        have := congrArg List.length hx
        rw [List.length_drop, List.length_append, rec_len, ← Hm.out] at this
        have := hM.out.1
        simp only at *
        omega
      obtain ⟨TT, hTT⟩ : ∃ T, T = sb t := ⟨_, rfl⟩
      obtain ⟨nt, hnt⟩ : ∃ n, n = t.length := ⟨_, rfl⟩
      rw [← hTT, ← hnt] at zt
      rw [← hnt] at hlt
      have HTT := hide' (And.intro hTT hnt)
      unfold ans
      simp only
      rw [← hTT]
      have e1 : Hid (wrap64 (17 + (nt : Int)) = ((17 + nt : Nat) : Int) ∧ wrap64 ((k : Int) + ((17 + nt : Nat) : Int)) = ((k + (17 + nt) : Nat) : Int) ∧ 17 + nt + k ≤ m) := hide' (by
        have := hM.out.2
        exact ⟨by unfold wrap64; omega, by unfold wrap64; omega, hlt⟩)
      have b2 : Below wr.heap.size wr (w1.alloc (.cells #[.int .i64 v, .string TT] 24)) := B1.out.alloc B1.out.size _
      have R2 : Hid (Es w.heap.size ao cap es (w1.alloc (.cells #[.int .i64 v, .string TT] 24)) ∧ Below w.heap.size w (w1.alloc (.cells #[.int .i64 v, .string TT] 24))) := hide' ⟨HI.out.row.below b2, HI.out.bel.trans (b2.mono HI.out.bel.size)⟩
      have K2 : Hid ((w1.alloc (.cells #[.int .i64 v, .string TT] 24)).heap[w1.heap.size]? = some (.cells #[.int .i64 v, .string TT] 24)) := hide' (heap_alloc_new _ _)
      have hnn : (es.length + 1) * 24 ≤ 140737488355328 := by
        have := HF.out (es ++ [⟨v, t⟩]) x (fun q hq => by
          rcases List.mem_append.1 hq with hq | hq
          · exact HI.out.ok q hq
          · rw [List.mem_singleton.1 hq]; exact hok) (by
          rw [recs_add, recs_one, List.append_assoc, ← hx, Hk.out]
          exact HI.out.eq)
        rw [List.length_append] at this
        exact this
      have HN := hide' hnn
      clear hok hx hTT hnt hC b1 b2 hlt hnn
      go_wp2_with (at_builtin; refine stay_app _ _ rfl ?_)
      unfold Stay
      rw [HTT.out.1] at R2 K2 ⊢
      refine wpList_more (arr := En.arr) ha_e Try.underlying29 info24 rfl (by omega) (w1.alloc (.cells #[.int .i64 v, .string (sb t)] 24)) rfl _ _ rfl (ro := ao) (rc := cap) (ss := es) R2.out.1 (by have := HN.out; unfold maxLen; omega) HN.out R2.out.2.size ⟨v, t⟩ (one_e _) 1 (by rfl) (by rw [World.size_alloc]; rfl) ?_
      intro g3 c3 w3 o3 t3 p3
      have hna : ¬ At ao w1.heap.size := fun q => by
        obtain ⟨_, cs, hcs⟩ := own_kind HI.out.row q
        have := lt_of_heap hcs
        have := B1.out.size
        omega
      have c1 := (t3.cell (p := ⟨w1.heap.size, 1, none⟩) (by simp) hna).trans (Lib.cell_of_heap K2.out 1)
      rw [← HTT.out.1] at c1 ⊢
      have c1' : w3.cell? ⟨w1.heap.size, 1, none⟩ = some (.string TT) := c1
      have he : recs (es ++ [⟨v, t⟩]) = recs es ++ rcd ⟨v, t⟩ := by rw [recs_add, recs_one]
      have hl2 : (recs (es ++ [⟨v, t⟩])).length = k + (17 + nt) := by rw [he, List.length_append, rec_len, ← Hk.out, HTT.out.2]
      have R3 : Hid (RdI w l (es ++ [⟨v, t⟩]) (some ⟨g3, 0, none⟩) c3 w3 ∧ (recs (es ++ [⟨v, t⟩])).length = k + (17 + nt)) := hide' ⟨⟨fun q hq => by
          rcases List.mem_append.1 hq with hq | hq
          · exact HI.out.ok q hq
          · rw [List.mem_singleton.1 hq]; exact HX.out.1, by
          rw [he, List.append_assoc]
          have e2 : l.drop (recs es ++ rcd ⟨v, t⟩).length = x := by
            rw [List.length_append, ← List.drop_drop, ← Hk.out, HX.out.2]
            exact drop_app _ _ rfl
          rw [e2, ← HX.out.2, Hk.out]
          exact HI.out.eq, o3, R2.out.2.trans (R2.out.1.keep t3 R2.out.2.size)⟩, hl2⟩
      have hw1 := e1.out.1
      have hw2 := e1.out.2.1
      clear o3 t3 p3 c1 hna he hl2 K2
      go_wp2
      have R := R3.out
      refine ⟨⟨es ++ [⟨v, t⟩], some ⟨g3, 0, none⟩, c3, by rw [List.length_append]; rfl, ?_, R.1⟩, ?_⟩
      · rw [R.2]
        congr 1
      · have e3 : wrap64 ((k : Int) + (17 + (nt : Int))) = ((k + (17 + nt) : Nat) : Int) := e1.out.2.1
        rw [e3]
        have := e1.out.2.2
        show m - (((k + (17 + nt) : Nat) : Int)).toNat < m - ((k : Nat) : Int).toNat
        omega
theorem read_any (l : List UInt8) (hml : l.length ≤ 1099511627776) (w : World) : Calls Try.prog 15 #[.string (sb l)] w fun e w' => ∃ es ao cap, e = .returned (.tuple #[.slice ao es.length cap, .int .i64 ((recs es).length : Nat)]) ∧ Rds l es ∧ Es w.heap.size ao cap es w' ∧ Below w.heap.size w w' :=
  read_few l (by omega) (fun es r _ h => by
    have h1 := recs_len_le es
    have h2 := congrArg List.length h
    rw [List.length_append] at h2
    omega) w
end J
end Go.Proofs.Ytihdagehenmolaa
