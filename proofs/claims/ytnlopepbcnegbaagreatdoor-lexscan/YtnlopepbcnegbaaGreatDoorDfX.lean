import Derived.Test.YtnlopepbcnegbaaGreatDoorDfW
import Derived.Test.YtnlopepbcnegbaaGreatDoorChOf
import Derived.Test.YtnlopepbcnegbaaGreatDoorRng
import Derived.Shelf.Abstract
import Derived.OwnWalkIn
import Derived.TacticsInMore
import Derived.LoopNIn
import Derived.LoopIn
set_option linter.unusedVariables false
set_option linter.unusedSimpArgs false
namespace Go.Proofs.YtnlopepbcnegbaaGreatDoor
open Go.RowKit
set_option maxHeartbeats 2000000 in
set_option maxRecDepth 100000 in
/-- THE ITERATOR THAT Each HANDS BACK -/
theorem each1_seqG (n : Nat) (hn : 1 ≤ n) (T : Tx) (ok : T.Ok) (hN : 0 < T.N ∨ T.ro = none) (cb : Nat) (w : World) (inn : T.In (fun k => w.heap.size ≤ k) w)
    (h0 : w.cell? ⟨cb, 0, none⟩ = some (.string T.s)) (h1 : w.cell? ⟨cb, 1, none⟩ = some T.rv) (h2 : w.cell? ⟨cb, 2, none⟩ = some T.sv) :
    SeqOwnG Fence.wide n Tryz.prog 30 #[.pointer (some ⟨cb, 0, none⟩)] El.encs (El.Has w.heap.size) T.M T.All T.Part (T.N + 1) w := by
  intro l J Jx W hW hJ0 hJt hXt hY
  have g0 := below_keeps hW h0
  have g1 := below_keeps hW h1
  have g2 := below_keeps hW h2
  have gin : T.In (fun k => W.heap.size ≤ k) W := by
    refine Tx.In.mono (inn.turn (w' := W) ?_) (fun k hk q => ?_)
    · exact ⟨hW.os, hW.tape, hW.output, hW.size, fun k hk _ => hW.block k hk⟩
    · exact absurd q (by omega)
  have H := hide' (And.intro ok (And.intro hN gin))
  have hwW := hW.size
  have HJ := hide' (And.intro hJ0 (And.intro hJt (And.intro hXt hY)))
  clear h0 h1 h2 inn hW ok hN gin hJ0 hJt hXt hY
  refine callsIn_of_wp Tryz.func30 rfl trivial ?_ rfl
  refine wpIn_wide.2 ?_
  simp only [Tryz.ntmps30, List.size_toArray, List.length_cons, List.length_nil, Nat.reduceAdd, Nat.reduceSub, Array.replicate_succ, Array.replicate_zero, List.push_toArray, List.append_toArray, List.nil_append, List.cons_append]
  go_wp2
  have n0 := World.new_ne W ⟨cb, 0, none⟩ g0
  unfold Tx.rv at g1
  unfold Tx.sv at g2
  go_region_held3 (fun w' => w'.cell? ⟨cb, 0, none⟩ = some (.string T.s) ∧ w'.cell? ⟨cb, 1, none⟩ = some (.slice T.ro T.N T.rc) ∧ w'.cell? ⟨cb, 2, none⟩ = some (.slice (some ⟨T.sb, 0, none⟩) (T.N + 1) T.sc)) (first | go_keep | (exact ⟨v0, v1, v2⟩) | (exact ⟨(World.cell?_of_block (Below.heap_alloc _ _ _ mlt)).trans v0, (World.cell?_of_block (Below.heap_alloc _ _ _ mlt)).trans v1, (World.cell?_of_block (Below.heap_alloc _ _ _ mlt)).trans v2⟩))
    (first | (go_at_call 31; refine (first_any _).mono ?_; rintro e W2 ⟨rfl, bw⟩; obtain ⟨k1, k2, k3⟩ := ‹_ ∧ _ ∧ _›; have v0 := below_keeps bw k1; have v1 := below_keeps bw k2; have v2 := below_keeps bw k3; have mlt : cb < W2.heap.size := lt_of_cell v0; have m0 : W2.heap.size ≠ cb := (by have q1 := bw.size; have q2 := lt_of_cell g0; simp at q1 q2; omega); (try (have hblk : W2.heap[W.heap.size]? = some (.cells #[.string ⟨#[]⟩, .slice none 0 0, .slice none 0 0, .int .i64 0, .int .i64 0, .int .i64 0] 77 (0, 0)) := (bw.block W.heap.size (by show W.heap.size < (W.alloc _).heap.size; simp)).trans (heap_alloc_new W _); obtain ⟨p0, p1, p2, p3, p4, p5, r0, r1, r2, r3, r4, r5⟩ := six_cells hblk))))
  · have bw' : Below W.heap.size W W2 := ⟨bw.os, bw.tape, bw.output, bw.size, bw.block⟩
    have A : Hid (Scn T W2.heap.size 0 (W2.alloc (.cells #[.string T.s, .slice T.ro T.N T.rc, .slice (some ⟨T.sb, 0, none⟩) (T.N + 1) T.sc, .int .i64 0, .int .i64 1, .int .i64 1] 77)) ∧ Below W.heap.size W (W2.alloc (.cells #[.string T.s, .slice T.ro T.N T.rc, .slice (some ⟨T.sb, 0, none⟩) (T.N + 1) T.sc, .int .i64 0, .int .i64 1, .int .i64 1] 77)) ∧ W.heap.size ≤ W2.heap.size) := by
      have hb := bw'.alloc bw'.size (.cells #[.string T.s, .slice T.ro T.N T.rc, .slice (some ⟨T.sb, 0, none⟩) (T.N + 1) T.sc, .int .i64 0, .int .i64 1, .int .i64 1] 77)
      exact ⟨scn_start H.out.1 H.out.2.2 hb bw'.size (heap_alloc_new _ _), hb, bw'.size⟩
    obtain ⟨Wn, hWn⟩ : ∃ Wn, W2.alloc (.cells #[.string T.s, .slice T.ro T.N T.rc, .slice (some ⟨T.sb, 0, none⟩) (T.N + 1) T.sc, .int .i64 0, .int .i64 1, .int .i64 1] 77) = Wn := ⟨_, rfl⟩
    obtain ⟨b, hb⟩ : ∃ b, W2.heap.size = b := ⟨_, rfl⟩
    rw [hWn, hb] at A
    rw [hWn, hb]
    clear hWn hb bw bw' k1 k2 k3 v0 v1 v2 mlt m0 n0
    try rename_i hh
    try clear hh
    go_wp2
    go_loopw [] (fun wx => ∃ j pre, Scn T b j wx ∧ J b pre wx ∧ Walk T 0 pre j) (fun wx => T.N + 1 - nextOf b wx)
    case atStart => exact ⟨0, [], A.out.1, HJ.out.1 b Wn A.out.2.2 A.out.1.lt A.out.2.1, Walk.nil⟩
    case round =>
      obtain ⟨j, pre, hs, hj, hw⟩ := hrel
      have hne := nextOf_of hs
      have hle := hs.le
      have hblt := hs.lt
      have hbW := A.out.2.2
      have HTk := hide' (token_any hs H.out.2.1)
      have HS := hide' (And.intro hj hw)
      clear hs hj hw
      cases htk : T.tokR j with
      | tok k t lx cx j' =>
        rw [htk] at HTk
        refine (wpIn_wide (n := n)).1 ?_
        gi_wp2
        refine ⟨trivial, (callsIn_wide.2 HTk.out).mono ?_⟩
        rintro e w2 ⟨v, rfl, ⟨rfl, s2⟩, t2⟩
        unfold tokV
        have S2 := hide' (And.intro s2 t2)
        have ba : Below w2.heap.size w2 (w2.alloc (.cells #[.int .i8 k, .string t, .int .i64 lx, .int .i64 cx] 52)) := (Below.refl _ _).alloc (Nat.le_refl _) _
        have hJ2 : J b pre w2 := HJ.out.2.1 b pre wr _ A.out.2.2 HS.out.1 t2
        obtain ⟨fn, tmps, assign, body, hy, hR⟩ := HJ.out.2.2.2 b pre (.tok k t lx cx) w2 (.cells #[.int .i8 k, .string t, .int .i64 lx, .int .i64 cx] 52) A.out.2.2 (by have := walk_len H.out.1 HS.out.2; omega) ⟨pre, j, _, rfl, HS.out.2, (⟨_, htk⟩ : El.At T j (.tok k t lx cx))⟩ hJ2 trivial
        unfold El.encs tokV at hy
        have S3 := hide' (s2.below ba)
        have hnew := heap_alloc_new w2 (.cells #[.int .i8 k, .string t, .int .i64 lx, .int .i64 cx] 52)
        have Hnew := hide' hnew
        clear s2 t2 hJ2 ba hnew
        gi_wp2
        refine hR.mono ?_
        rintro e W3 (⟨rfl, hJ3, hk3⟩ | ⟨rfl, hJx3⟩)
        · have hbx := (hk3.same w2.heap.size (Or.inr rfl) (by simp)).trans Hnew.out
          have x0 : W3.cell? ⟨w2.heap.size, 0, none⟩ = some (.int .i8 k) := by simp [World.cell?, hbx]
          have s3 := S3.out.keep (hk3.mono fun k hk => Or.inl hk)
          by_cases h5 : k = 5
          · have e5 : (k == 5) = true := by simpa using h5
            subst h5
            gi_wp2
            refine bodyPost_ret (results_none rfl _ _ _) rfl ?_
            exact ⟨⟨_, rfl⟩, .inl ⟨b, _, A.out.2.2, ⟨pre, j, .tok 5 t lx cx, rfl, HS.out.2, (⟨rfl, _, htk⟩ : El.Last T j (.tok 5 t lx cx))⟩, hJ3⟩⟩
          · have e5 : (k == 5) = false := by simpa using h5
            have hadv := tok_adv H.out.1 hle htk h5
            have hle' := s3.le
            gi_wp2
            refine ⟨⟨j', _, s3, hJ3, Walk.snoc HS.out.2 htk h5⟩, ?_⟩
            rw [nextOf_of s3, hne]; omega
        · gi_wp2
          refine bodyPost_ret (results_none rfl _ _ _) rfl ?_
          exact ⟨⟨_, rfl⟩, .inr ⟨_, ⟨pre, j, .tok k t lx cx, rfl, HS.out.2, (⟨_, htk⟩ : El.At T j (.tok k t lx cx))⟩, hJx3⟩⟩
      | flt code lx cx word =>
        rw [htk] at HTk
        refine (wpIn_wide (n := n)).1 ?_
        gi_wp2
        refine ⟨trivial, (callsIn_wide.2 HTk.out).mono ?_⟩
        rintro e w2 ⟨v, rfl, ⟨fb, rfl, hfb, hflt⟩, t2⟩
        unfold tokV
        have ba : Below w2.heap.size w2 (w2.alloc (.cells #[.int .i8 0, .string ByteArray.empty, .int .i64 0, .int .i64 0] 52)) := (Below.refl _ _).alloc (Nat.le_refl _) _
        have hJ2 : J b pre w2 := HJ.out.2.1 b pre wr _ A.out.2.2 HS.out.1 t2
        have hflt2 : Flt fb code lx cx word (w2.alloc (.cells #[.int .i8 0, .string ByteArray.empty, .int .i64 0, .int .i64 0] 52)) := (ba.block fb ((Array.getElem?_eq_some_iff.1 hflt).1)).trans hflt
        obtain ⟨fn, tmps, assign, body, hy, hR⟩ := HJ.out.2.2.2 b pre (.flt fb code lx cx word) w2 (.cells #[.int .i8 0, .string ByteArray.empty, .int .i64 0, .int .i64 0] 52) A.out.2.2 (by have := walk_len H.out.1 HS.out.2; omega) ⟨pre, j, _, rfl, HS.out.2, (htk : El.At T j (.flt fb code lx cx word))⟩ hJ2 ⟨hflt2, by omega⟩
        unfold El.encs at hy
        clear hflt hflt2 t2 hJ2 ba
        gi_wp2
        refine hR.mono ?_
        rintro e W3 (⟨rfl, hJ3, hk3⟩ | ⟨rfl, hJx3⟩)
        · gi_wp2
          refine bodyPost_ret (results_none rfl _ _ _) rfl ?_
          exact ⟨⟨_, rfl⟩, .inl ⟨b, _, A.out.2.2, ⟨pre, j, .flt fb code lx cx word, rfl, HS.out.2, (htk : El.Last T j (.flt fb code lx cx word))⟩, hJ3⟩⟩
        · gi_wp2
          refine bodyPost_ret (results_none rfl _ _ _) rfl ?_
          exact ⟨⟨_, rfl⟩, .inr ⟨_, ⟨pre, j, .flt fb code lx cx word, rfl, HS.out.2, (htk : El.At T j (.flt fb code lx cx word))⟩, hJx3⟩⟩
  · have hz0 : Below W.heap.size W (W.alloc (.cells #[.string ⟨#[]⟩, .slice none 0 0, .slice none 0 0, .int .i64 0, .int .i64 0, .int .i64 0] 77)).drew := ((Below.refl _ _).alloc (Nat.le_refl _) _).drew
    have bw' : Below W.heap.size W W2 := hz0.trans (bw.mono hz0.size)
    have A : Hid (Scn T W.heap.size 0 ((((((W2.setCell ⟨W.heap.size, 0, none⟩ (.string T.s)).setCell ⟨W.heap.size, 1, none⟩ (.slice T.ro T.N T.rc)).setCell ⟨W.heap.size, 2, none⟩ (.slice (some ⟨T.sb, 0, none⟩) (T.N + 1) T.sc)).setCell ⟨W.heap.size, 3, none⟩ (.int .i64 0)).setCell ⟨W.heap.size, 4, none⟩ (.int .i64 1)).setCell ⟨W.heap.size, 5, none⟩ (.int .i64 1)) ∧ Below W.heap.size W ((((((W2.setCell ⟨W.heap.size, 0, none⟩ (.string T.s)).setCell ⟨W.heap.size, 1, none⟩ (.slice T.ro T.N T.rc)).setCell ⟨W.heap.size, 2, none⟩ (.slice (some ⟨T.sb, 0, none⟩) (T.N + 1) T.sc)).setCell ⟨W.heap.size, 3, none⟩ (.int .i64 0)).setCell ⟨W.heap.size, 4, none⟩ (.int .i64 1)).setCell ⟨W.heap.size, 5, none⟩ (.int .i64 1)) ∧ W.heap.size ≤ W.heap.size) := by
      have hb : Below W.heap.size W ((((((W2.setCell ⟨W.heap.size, 0, none⟩ (.string T.s)).setCell ⟨W.heap.size, 1, none⟩ (.slice T.ro T.N T.rc)).setCell ⟨W.heap.size, 2, none⟩ (.slice (some ⟨T.sb, 0, none⟩) (T.N + 1) T.sc)).setCell ⟨W.heap.size, 3, none⟩ (.int .i64 0)).setCell ⟨W.heap.size, 4, none⟩ (.int .i64 1)).setCell ⟨W.heap.size, 5, none⟩ (.int .i64 1)) := (((((bw'.setCell (p := ⟨W.heap.size, 0, none⟩) (Nat.le_refl _) _).setCell (p := ⟨W.heap.size, 1, none⟩) (Nat.le_refl _) _).setCell (p := ⟨W.heap.size, 2, none⟩) (Nat.le_refl _) _).setCell (p := ⟨W.heap.size, 3, none⟩) (Nat.le_refl _) _).setCell (p := ⟨W.heap.size, 4, none⟩) (Nat.le_refl _) _).setCell (p := ⟨W.heap.size, 5, none⟩) (Nat.le_refl _) _
      exact ⟨scn_start H.out.1 H.out.2.2 hb (Nat.le_refl _) (set6_heap _ _ _ _ _ _ _ _ _ _ _ _ _ _ _ hblk), hb, Nat.le_refl _⟩
    obtain ⟨Wn, hWn⟩ : ∃ Wn, ((((((W2.setCell ⟨W.heap.size, 0, none⟩ (.string T.s)).setCell ⟨W.heap.size, 1, none⟩ (.slice T.ro T.N T.rc)).setCell ⟨W.heap.size, 2, none⟩ (.slice (some ⟨T.sb, 0, none⟩) (T.N + 1) T.sc)).setCell ⟨W.heap.size, 3, none⟩ (.int .i64 0)).setCell ⟨W.heap.size, 4, none⟩ (.int .i64 1)).setCell ⟨W.heap.size, 5, none⟩ (.int .i64 1)) = Wn := ⟨_, rfl⟩
    obtain ⟨b, hb⟩ : ∃ b, W.heap.size = b := ⟨_, rfl⟩
    rw [hWn] at A
    rw [hWn]
    have A' : Hid (Scn T b 0 Wn ∧ Below W.heap.size W Wn ∧ W.heap.size ≤ b) := (by rw [← hb]; exact A.out)
    rw [show (Value.pointer (some (⟨W.heap.size, 0, none⟩ : Addr))) = .pointer (some ⟨b, 0, none⟩) by rw [hb]]
    replace A := A'
    clear A' hWn hb bw bw' hz0 k1 k2 k3 v0 v1 v2 mlt m0 n0 hblk p0 p1 p2 p3 p4 p5 r0 r1 r2 r3 r4 r5
    try rename_i hh
    try clear hh
    go_wp2
    go_loopw [] (fun wx => ∃ j pre, Scn T b j wx ∧ J b pre wx ∧ Walk T 0 pre j) (fun wx => T.N + 1 - nextOf b wx)
    case atStart => exact ⟨0, [], A.out.1, HJ.out.1 b Wn A.out.2.2 A.out.1.lt A.out.2.1, Walk.nil⟩
    case round =>
      obtain ⟨j, pre, hs, hj, hw⟩ := hrel
      have hne := nextOf_of hs
      have hle := hs.le
      have hblt := hs.lt
      have hbW := A.out.2.2
      have HTk := hide' (token_any hs H.out.2.1)
      have HS := hide' (And.intro hj hw)
      clear hs hj hw
      cases htk : T.tokR j with
      | tok k t lx cx j' =>
        rw [htk] at HTk
        refine (wpIn_wide (n := n)).1 ?_
        gi_wp2
        refine ⟨trivial, (callsIn_wide.2 HTk.out).mono ?_⟩
        rintro e w2 ⟨v, rfl, ⟨rfl, s2⟩, t2⟩
        unfold tokV
        have S2 := hide' (And.intro s2 t2)
        have ba : Below w2.heap.size w2 (w2.alloc (.cells #[.int .i8 k, .string t, .int .i64 lx, .int .i64 cx] 52)) := (Below.refl _ _).alloc (Nat.le_refl _) _
        have hJ2 : J b pre w2 := HJ.out.2.1 b pre wr _ A.out.2.2 HS.out.1 t2
        obtain ⟨fn, tmps, assign, body, hy, hR⟩ := HJ.out.2.2.2 b pre (.tok k t lx cx) w2 (.cells #[.int .i8 k, .string t, .int .i64 lx, .int .i64 cx] 52) A.out.2.2 (by have := walk_len H.out.1 HS.out.2; omega) ⟨pre, j, _, rfl, HS.out.2, (⟨_, htk⟩ : El.At T j (.tok k t lx cx))⟩ hJ2 trivial
        unfold El.encs tokV at hy
        have S3 := hide' (s2.below ba)
        have hnew := heap_alloc_new w2 (.cells #[.int .i8 k, .string t, .int .i64 lx, .int .i64 cx] 52)
        have Hnew := hide' hnew
        clear s2 t2 hJ2 ba hnew
        gi_wp2
        refine hR.mono ?_
        rintro e W3 (⟨rfl, hJ3, hk3⟩ | ⟨rfl, hJx3⟩)
        · have hbx := (hk3.same w2.heap.size (Or.inr rfl) (by simp)).trans Hnew.out
          have x0 : W3.cell? ⟨w2.heap.size, 0, none⟩ = some (.int .i8 k) := by simp [World.cell?, hbx]
          have s3 := S3.out.keep (hk3.mono fun k hk => Or.inl hk)
          by_cases h5 : k = 5
          · have e5 : (k == 5) = true := by simpa using h5
            subst h5
            gi_wp2
            refine bodyPost_ret (results_none rfl _ _ _) rfl ?_
            exact ⟨⟨_, rfl⟩, .inl ⟨b, _, A.out.2.2, ⟨pre, j, .tok 5 t lx cx, rfl, HS.out.2, (⟨rfl, _, htk⟩ : El.Last T j (.tok 5 t lx cx))⟩, hJ3⟩⟩
          · have e5 : (k == 5) = false := by simpa using h5
            have hadv := tok_adv H.out.1 hle htk h5
            have hle' := s3.le
            gi_wp2
            refine ⟨⟨j', _, s3, hJ3, Walk.snoc HS.out.2 htk h5⟩, ?_⟩
            rw [nextOf_of s3, hne]; omega
        · gi_wp2
          refine bodyPost_ret (results_none rfl _ _ _) rfl ?_
          exact ⟨⟨_, rfl⟩, .inr ⟨_, ⟨pre, j, .tok k t lx cx, rfl, HS.out.2, (⟨_, htk⟩ : El.At T j (.tok k t lx cx))⟩, hJx3⟩⟩
      | flt code lx cx word =>
        rw [htk] at HTk
        refine (wpIn_wide (n := n)).1 ?_
        gi_wp2
        refine ⟨trivial, (callsIn_wide.2 HTk.out).mono ?_⟩
        rintro e w2 ⟨v, rfl, ⟨fb, rfl, hfb, hflt⟩, t2⟩
        unfold tokV
        have ba : Below w2.heap.size w2 (w2.alloc (.cells #[.int .i8 0, .string ByteArray.empty, .int .i64 0, .int .i64 0] 52)) := (Below.refl _ _).alloc (Nat.le_refl _) _
        have hJ2 : J b pre w2 := HJ.out.2.1 b pre wr _ A.out.2.2 HS.out.1 t2
        have hflt2 : Flt fb code lx cx word (w2.alloc (.cells #[.int .i8 0, .string ByteArray.empty, .int .i64 0, .int .i64 0] 52)) := (ba.block fb ((Array.getElem?_eq_some_iff.1 hflt).1)).trans hflt
        obtain ⟨fn, tmps, assign, body, hy, hR⟩ := HJ.out.2.2.2 b pre (.flt fb code lx cx word) w2 (.cells #[.int .i8 0, .string ByteArray.empty, .int .i64 0, .int .i64 0] 52) A.out.2.2 (by have := walk_len H.out.1 HS.out.2; omega) ⟨pre, j, _, rfl, HS.out.2, (htk : El.At T j (.flt fb code lx cx word))⟩ hJ2 ⟨hflt2, by omega⟩
        unfold El.encs at hy
        clear hflt hflt2 t2 hJ2 ba
        gi_wp2
        refine hR.mono ?_
        rintro e W3 (⟨rfl, hJ3, hk3⟩ | ⟨rfl, hJx3⟩)
        · gi_wp2
          refine bodyPost_ret (results_none rfl _ _ _) rfl ?_
          exact ⟨⟨_, rfl⟩, .inl ⟨b, _, A.out.2.2, ⟨pre, j, .flt fb code lx cx word, rfl, HS.out.2, (htk : El.Last T j (.flt fb code lx cx word))⟩, hJ3⟩⟩
        · gi_wp2
          refine bodyPost_ret (results_none rfl _ _ _) rfl ?_
          exact ⟨⟨_, rfl⟩, .inr ⟨_, ⟨pre, j, .flt fb code lx cx word, rfl, HS.out.2, (htk : El.At T j (.flt fb code lx cx word))⟩, hJx3⟩⟩
end Go.Proofs.YtnlopepbcnegbaaGreatDoor
