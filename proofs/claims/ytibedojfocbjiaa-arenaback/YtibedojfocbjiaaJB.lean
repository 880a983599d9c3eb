import Derived.Test.YtibedojfocbjiaaHl2
import Derived.Test.YtibedojfocbjiaaSumP
import Derived.Deep.QuietTactic
import Derived.Test.YtibedojfocbjiaaAtl
import Derived.Test.YtibedojfocbjiaaLvy
import Derived.Test.YtibedojfocbjiaaMade
import Derived.Test.YtibedojfocbjiaaTrc
import Derived.Laws.StructEq
import Derived.Test.YtibedojfocbjiaaFrame
import Derived.ChangeSlices
import Derived.Deep.Slices
import Derived.Deep.CondSized
set_option linter.unusedVariables false
set_option linter.unusedSimpArgs false
namespace Go.Proofs.Ytibedojfocbjiaa
open Go.RowKit Go.Sort
namespace Ar
open Fr
variable {B : Nat} {w w' : World}
theorem row_ints {ro : Option Addr} {rc : Nat} {ns : List Int} (h : w.ownsRow B 3 1 (.slice ro ns.length rc) ns.length (M.ivs ns)) : M.Ints w ro ns := by
  by_cases h0 : ns = []
  · exact .inl h0
  · have hp : 0 < ns.length := List.length_pos_iff.2 h0
    obtain ⟨g, cap', hv, h2, h3⟩ := h.form hp
    simp only [Value.slice.injEq] at hv
    obtain ⟨rfl, _, rfl⟩ := hv
    refine .inr ⟨g, 0, rfl, h3, fun j hj => ?_⟩
    rw [Nat.zero_add, h.cellAt j (by omega)]
    simp [M.ivs, List.getD, hj]
theorem bel_drewN {B : Nat} {w w' : World} (b : RowKit.Below B w w') (n : Nat) : RowKit.Below B w (w'.drewN n) := ⟨b.os, b.tape, b.output, b.size, b.block⟩
set_option maxRecDepth 100000 in
set_option maxHeartbeats 4000000 in
theorem changed_any (a n c : Int) {ro ro' : Option Addr} {rc rc' : Nat} {ws ns : List Int} (hI : M.Ints w ro ws) (hJ : M.Ints w ro' ns) (hl : ns.length = ws.length) (hl2 : ws.length < 1000000) (e0 : wrap64 (a + n) = a + n)
    (hc : ∀ i, i < ws.length → ns.getD i 0 = if a ≤ (i : Int) ∧ (i : Int) < a + n then c else ws.getD i 0) :
    Calls Try.prog 59 #[.slice ro ws.length rc, .slice ro' ns.length rc', .int .i64 a, .int .i64 n, .int .i64 c] w fun r w' => r = .returned (.bool true) ∧ Below w.heap.size w w' := by
  rw [hl]
  have HI := hide' hI
  have HJ := hide' hJ
  have Hc := hide' hc
  have Hl2 := hide' hl2
  have Hl := hide' hl
  clear hI hJ hc hl2 hl
  go_enter Try.func59, Try.ntmps59
  go_wp2_with fail
  go_loopw [11] (fun t11 wx => ∃ (k : Nat), t11 = .int .i64 (k : Int) ∧ k ≤ ws.length ∧ Below w.heap.size w wx) (fun t11 _ => ws.length - (intOf t11).toNat)
  case atStart => exact ⟨0, rfl, Nat.zero_le _, Below.refl _ _⟩
  case round =>
    obtain ⟨k, rfl, hk, hb⟩ := hrel
    by_cases hlt : k < ws.length
    · have e1 := vk k (by have := Hl2.out; omega)
      have hlt' : (k : Int) < (ws.length : Int) := by omega
      have Hend := hide' (hend hlt)
      have hcc := Hc.out k hlt
      rcases HI.out with q | ⟨g, off, hro, hg, hI⟩
      · rw [q] at hlt; simp at hlt
      rcases HJ.out with q | ⟨g', off', hro', hg', hJ⟩
      · have := Hl.out; rw [q] at this; simp at this; omega
      have i0 := (hb.cell (p := ⟨g, off + k, none⟩) hg).trans (hI k hlt)
      have j0 := (hb.cell (p := ⟨g', off' + k, none⟩) hg').trans (hJ k (by have := Hl.out; omega))
      obtain rfl := hro
      obtain rfl := hro'
      have Hb := hide' hb
      by_cases hin : a ≤ (k : Int) ∧ (k : Int) < a + n
      · rw [if_pos hin] at hcc
        rw [hcc] at j0
        obtain ⟨h1, h2⟩ := hin
        generalize ws.getD k 0 = u at *
        clear hcc hI hJ hg hg' hb hk
        go_wp2_with fail
        go_quiet (fail)
        go_wp2
        go_roundw
        case rel => exact ⟨k + 1, by go_num, hlt, by first | exact Hb.out | exact bel_drewN Hb.out _⟩
        case measure => first | exact Hend.out | (rw [e1]; exact Hend.out)
      · rw [if_neg hin] at hcc
        rw [hcc] at j0
        have hin' : ¬ (a ≤ (k : Int)) ∨ (a ≤ (k : Int) ∧ ¬ ((k : Int) < a + n)) := by omega
        generalize ws.getD k 0 = u at *
        clear hcc hI hJ hg hg' hb hk hin
        rcases hin' with h1 | ⟨h1, h2⟩
        all_goals
          go_wp2_with fail
          go_quiet (fail)
          go_wp2
          go_roundw
          case rel => exact ⟨k + 1, by go_num, hlt, by first | exact Hb.out | exact bel_drewN Hb.out _⟩
          case measure => first | exact Hend.out | (rw [e1]; exact Hend.out)
    · obtain rfl : k = ws.length := by omega
      have Hb := hide' hb
      clear hb hk
      go_wp2
      go_ret
      exact ⟨rfl, Hb.out⟩
end Ar
end Go.Proofs.Ytibedojfocbjiaa
set_option linter.unusedVariables false
set_option linter.unusedSimpArgs false
namespace Go.Proofs.Ytibedojfocbjiaa
open Go.RowKit Go.Sort
namespace Ar
open Fr
/-- an arena whose pieces are L and whose table is O -/
def AtO (D : Nat → Prop) (B ab x : Nat) (ws : List Int) (tr : List M.Ac) (bad : Nat) (s : Int) (L : List Bk) (O : List (Int × Int)) (cb : Nat) (w : World) : Prop :=
  ∃ F cnt, Arn D B ab x ws tr bad F O cnt w ∧ Til s (ws.length : Int) F O L ∧ 0 ≤ s ∧ s < (ws.length : Int) ∧ ws.length ≤ 65536 ∧ cnt ≤ cb
def OTo (D : Nat → Prop) (B ab x : Nat) (ws : List Int) (tr : List M.Ac) (bad : Nat) (s : Int) (L : List Bk) (O : List (Int × Int)) (cb : Nat) (w w' : World) : Prop := ∃ D', AtO D' B ab x ws tr bad s L O cb w' ∧ Turn D w w' ∧ ∀ j, D' j → D j ∨ w.heap.size ≤ j
variable {D : Nat → Prop} {B ab x : Nat} {ws : List Int} {tr : List M.Ac} {bad : Nat} {s : Int} {L : List Bk} {cb : Nat} {w w' : World} {F : List Bk} {O : List (Int × Int)} {e : Int}
theorem AtO.atl (h : AtO D B ab x ws tr bad s L O cb w) : Atl D B ab x ws tr bad s L cb w := by
  obtain ⟨F, cnt, h⟩ := h
  exact ⟨F, O, cnt, h⟩
theorem Atl.ato (h : Atl D B ab x ws tr bad s L cb w) (hL : outs L = []) : AtO D B ab x ws tr bad s L [] cb w := by
  obtain ⟨F, O, cnt, h1, T, h2⟩ := h
  have : O = [] := by
    have := T.ou
    rw [hL] at this
    exact List.Perm.eq_nil this.symm
  subst this
  exact ⟨F, cnt, h1, T, h2⟩
theorem AtO.kept {S : Nat → Prop} (H : AtO D B ab x ws tr bad s L O cb w) (t : Turn S w w') (hn : ∀ j, D j → ¬ S j) : AtO D B ab x ws tr bad s L O cb w' := by
  obtain ⟨F, cnt, h1, h2⟩ := H
  exact ⟨F, cnt, h1.kept t hn, h2⟩
theorem AtO.below (H : AtO D B ab x ws tr bad s L O cb w) (t : Below w.heap.size w w') : AtO D B ab x ws tr bad s L O cb w' := H.kept (turn_below (S := fun _ => False) t) (fun _ _ q => q)
theorem AtO.mono {cb' : Nat} (H : AtO D B ab x ws tr bad s L O cb w) (h : cb ≤ cb') : AtO D B ab x ws tr bad s L O cb' w := by
  obtain ⟨F, cnt, h1, h2, h3, h4, h5, h6⟩ := H
  exact ⟨F, cnt, h1, h2, h3, h4, h5, by omega⟩
theorem AtO.nd (H : AtO D B ab x ws tr bad s L O cb w) : O.Pairwise (fun p q => p.1 ≠ q.1) := by
  obtain ⟨F, cnt, h1, _⟩ := H
  obtain ⟨_, _, _, _, A, _⟩ := h1
  exact A.om.nd
theorem AtO.len (H : AtO D B ab x ws tr bad s L O cb w) : (outs L).length = O.length ∧ (O.length : Int) ≤ (ws.length : Int) := by
  have hp := H.atl.pure
  obtain ⟨F, cnt, h1, T, h2⟩ := H
  refine ⟨T.ou.length_eq, ?_⟩
  rw [← T.ou.length_eq]
  have := outs_le L
  have := cov_len T.cov
  omega
/-- the addresses that are out lie within -/
theorem AtO.key (H : AtO D B ab x ws tr bad s L O cb w) {a : Int} (h : Oo.hasK O a = true) : 0 ≤ a ∧ a ≤ 65536 := by
  have hn := H.nd
  obtain ⟨F, cnt, h1, T, h2, h3, h4, h5⟩ := H
  obtain ⟨z1, z2, z3, z4⟩ := T.siz_yes hn h
  omega
theorem take_o (n : Int) (H : AtO D B ab x ws tr bad s L O cb w) (hc : cb < 4611686018425000000) (hn2 : n ≤ 9223372036854775807) : Calls Try.prog 46 #[.pointer (some ⟨ab, 0, none⟩), .int .i64 n] w fun r w' => (∃ e : Int, (e == 0) = false ∧ r = .returned (.tuple #[.int .i64 0, .int .i64 e]) ∧ OTo D B ab x ws tr bad s L O (cb + 65537) w w') ∨ (∃ a ws' L', r = .returned (.tuple #[.int .i64 a, .int .i64 0]) ∧ OTo D B ab x ws' tr bad s L' ((a, n) :: O) (cb + 65537) w w' ∧ ws'.length = ws.length ∧ Oo.hasK O a = false) := by
  have hself := H
  have nd := H.nd
  obtain ⟨F, cnt, h1, T, h3, h4, h5, h6⟩ := H
  have hOl : O.length ≤ L.length := by rw [← T.ou.length_eq]; exact outs_le L
  have hLl := hself.atl.pure.2.2.1
  refine (take_any n h1 T.dis T.oks (by omega) T.keys (by omega) hn2).mono ?_
  rintro r w' (⟨q, hr, hw⟩ | ⟨q, hs, hr, hd, ho, c', hc', D', hA, t, hD⟩ | ⟨q, S, p, FR, hN, hd, ho, hsm, hnp, hr, c', hc', D', hA, t, hD⟩)
  · subst hw
    exact .inl ⟨1, by decide, hr, D, hself.mono (by omega), Turn.refl _ _, fun _ z => .inl z⟩
  · exact .inl ⟨150, by decide, hr, D', ⟨norm F, c', hA, ⟨T.cov, by rw [norm_norm]; exact T.fr, T.ou, hd, ho⟩, h3, h4, h5, by omega⟩, t, hD⟩
  · obtain ⟨L1, L2, hL, hf, hpf, T'⟩ := T.take q hN hd ho hnp
    have hm := cov_mem T.cov p (by rw [hL]; exact List.mem_append_right _ List.mem_cons_self)
    obtain ⟨g1, g2⟩ := pfill_at (ws := ws) (a := p.addr) (n := n) (c := 0) (by omega) (by omega) (by omega)
    have hnk : Oo.hasK O p.addr = false := T.keys p (by rw [hN]; exact List.mem_append_right _ List.mem_cons_self)
    exact .inr ⟨p.addr, M.pfill ws p.addr n 0, _, hr, ⟨D', ⟨_, c', hA, by rw [g1]; exact T', h3, by rw [g1]; exact h4, by rw [g1]; exact h5, by omega⟩, t, hD⟩, g1, hnk⟩
theorem give_o (a : Int) (H : AtO D B ab x ws tr bad s L O cb w) (hh : Oo.hasK O a = true) (hc : cb < 4611686018425000000) : Calls Try.prog 44 #[.pointer (some ⟨ab, 0, none⟩), .int .i64 a] w fun r w' => r = .returned (.int .i64 0) ∧ ∃ ws' L', OTo D B ab x ws' tr bad s L' (Oo.del O a) (cb + 65537) w w' ∧ ws'.length = ws.length := by
  have hk := H.key hh
  have nd := H.nd
  obtain ⟨F, cnt, h1, T, h3, h4, h5, h6⟩ := H
  obtain ⟨z1, z2, z3, z4⟩ := T.siz_yes nd hh
  obtain ⟨L1, L2, F', hL, hp, T'⟩ := T.give nd h3 (by omega) hh
  have hfl := few T.dis T.oks
  refine (give_yes a (Oo.okk_of (by omega) (by omega)) h1 hh hp (by omega) (by omega) (by omega)).mono ?_
  rintro r w' ⟨hr, D', hA, t, hD⟩
  obtain ⟨g1, g2⟩ := pfill_at (ws := ws) (a := a) (n := Oo.val O a) (c := M.P) (by omega) (by omega) (by omega)
  exact ⟨hr, M.pfill ws a (Oo.val O a) M.P, _, ⟨D', ⟨F', cnt + 1, hA, by rw [g1]; exact T', h3, by rw [g1]; exact h4, by rw [g1]; exact h5, by omega⟩, t, hD⟩, g1⟩
theorem give_again (a : Int) (hk : Oo.okk a) (H : AtO D B ab x ws tr bad s L O cb w) (hh : Oo.hasK O a = false) : Calls Try.prog 44 #[.pointer (some ⟨ab, 0, none⟩), .int .i64 a] w fun r w' => r = .returned (.int .i64 151) ∧ w' = w := by
  obtain ⟨F, cnt, h1, _⟩ := H
  exact give_no a hk h1 hh
/-- nothing is out: one piece -/
theorem one_left (H : AtO D B ab x ws tr bad s L [] cb w) : L = [⟨s, (ws.length : Int) - s, true⟩] := by
  obtain ⟨hcov, halt, _, hpos, _⟩ := H.atl.pure
  obtain ⟨F, cnt, h1, T, h2⟩ := H
  have hou : outs L = [] := List.Perm.eq_nil T.ou
  have hfree : ∀ b ∈ L, b.free = true := by
    intro b hb
    have hf : L.filter (fun b => !b.free) = [] := by
      unfold outs at hou
      exact List.map_eq_nil_iff.1 hou
    have := List.filter_eq_nil_iff.1 hf b hb
    simpa using this
  match L, hpos with
  | [b], _ =>
    obtain ⟨ba, bs, bf⟩ := b
    have hb := hfree ⟨ba, bs, bf⟩ List.mem_cons_self
    simp only at hb
    subst hb
    obtain ⟨e1, e2, e3⟩ := hcov
    have e1' : ba = s := e1
    have e3' : s + bs = (ws.length : Int) := e3
    subst e1'
    rw [show bs = (ws.length : Int) - ba by omega]
  | b :: c :: r, _ => exact absurd ⟨hfree b List.mem_cons_self, hfree c (List.mem_cons_of_mem _ List.mem_cons_self)⟩ (halt [] r b c rfl)
end Ar
namespace Bk
/-- what was got, and the table -/
def Got (got : List Int) (O : List (Int × Int)) : Prop := got.Perm (O.map (·.1))
theorem Got.has {got : List Int} {O : List (Int × Int)} (h : Got got O) {a : Int} (ha : a ∈ got) : Oo.hasK O a = true := by
  obtain ⟨p, hp, e⟩ := List.mem_map.1 (h.mem_iff.1 ha)
  exact List.any_eq_true.2 ⟨p, hp, by simpa using e⟩
theorem Got.more {got : List Int} {O : List (Int × Int)} (h : Got got O) (a n : Int) : Got (got ++ [a]) ((a, n) :: O) := by
  refine List.Perm.trans List.perm_append_comm ?_
  exact List.Perm.cons a h
theorem Got.len {got : List Int} {O : List (Int × Int)} (h : Got got O) : got.length = O.length := by simpa using h.length_eq
theorem map_del (O : List (Int × Int)) (a : Int) : (Oo.del O a).map (·.1) = (O.map (·.1)).filter (fun k => !(k == a)) := by
  unfold Oo.del
  rw [List.filter_map]
  rfl
theorem erase_filter : ∀ (gt : List Int) (k : Nat) (a : Int), gt.Nodup → gt[k]? = some a → gt.eraseIdx k = gt.filter (fun x => !(x == a)) := by
  intro gt
  induction gt with
  | nil => intro k a _ h; simp at h
  | cons b r ih =>
    intro k a nd h
    obtain ⟨n1, n2⟩ := List.nodup_cons.1 nd
    cases k with
    | zero =>
      have hb : b = a := by simpa using h
      subst hb
      rw [List.eraseIdx_cons_zero, List.filter_cons_of_neg (by simp)]
      exact (List.filter_eq_self.2 (fun x hx => by simp; exact fun e => n1 (e ▸ hx))).symm
    | succ k =>
      have hr : r[k]? = some a := by simpa using h
      have hne : b ≠ a := fun e => n1 (e ▸ List.mem_of_getElem? hr)
      rw [List.eraseIdx_cons_succ, List.filter_cons_of_pos (by simpa using hne), ih k a n2 hr]
theorem Got.less {got : List Int} {O : List (Int × Int)} (h : Got got O) (nd : O.Pairwise (fun p q => p.1 ≠ q.1)) {k : Nat} {a : Int} (hk : got[k]? = some a) : Got (got.eraseIdx k) (Oo.del O a) := by
  have hkl := (List.getElem?_eq_some_iff.1 hk).1
  have hka := (List.getElem?_eq_some_iff.1 hk).2
  have ndO : (O.map (·.1)).Nodup := by
    rw [List.nodup_iff_pairwise_ne] 
    exact List.pairwise_map.2 nd
  have ndg : got.Nodup := h.nodup_iff.2 ndO
  have e1 : got.eraseIdx k = got.filter (fun x => !(x == a)) := erase_filter got k a ndg hk
  unfold Got
  rw [e1, map_del]
  exact h.filter _
end Bk
end Go.Proofs.Ytibedojfocbjiaa
set_option linter.unusedVariables false
set_option linter.unusedSimpArgs false
namespace Go.Proofs.Ytibedojfocbjiaa
open Go.RowKit Go.Sort
namespace Bk
open Fr
theorem fof : Try.prog.underlying 110 = some (.struct (Try.prog.fieldsOf 110)) := by kernel_rfl
theorem hld : Try.prog.stoodInHeld 110 = false := by kernel_rfl
set_option maxRecDepth 100000 in
theorem flds (d : Nat) (a b : Int) (g : Bool) (w : World) : (Op.eqFields (d + 1) #[.int .i64 a, .int .i64 b, .bool g] #[.int .i64 a, .int .i64 b, .bool g] (Try.prog.fieldsOf 110).toList).run Try.prog w = .ok true w := by
  have h1 : (Try.prog.fieldsOf 110) = (match Try.prog.underlying 110 with | some (.struct fs) => fs | _ => #[]) := rfl
  rw [h1, Try.underlying110]
  simp [Op.eqFields, go_sem, Try.underlying3, Try.underlying4]
theorem struct_eq (a b : Int) (e : Bool) (w : World) : (binOp .eql 110 (.agg #[.int .i64 a, .int .i64 b, .bool e]) (.agg #[.int .i64 a, .int .i64 b, .bool e])).run Try.prog w = .ok (.bool true) w := by
  rw [run_eql_struct]
  have := run_equalIn_agg (P := Try.prog) w 9999 110 #[.int .i64 a, .int .i64 b, .bool e] #[.int .i64 a, .int .i64 b, .bool e] fof hld
  rw [show (10000 : Nat) = 9999 + 1 from rfl, this, show (9999 : Nat) = 9998 + 1 from rfl, flds]
  rfl
set_option maxRecDepth 100000 in
set_option maxHeartbeats 1000000 in
theorem at_any (k n : Int) (w : World) (hn : 0 < n) (hn2 : n ≤ 1048576) : Calls Try.prog 15 #[.int .i64 k, .int .i64 n] w fun e w' => e = .returned (.int .i64 (k % n)) ∧ w' = w := by
  by_cases h : k < 0
  · obtain ⟨t1, t2, t3, t4⟩ := M.tmod_neg h hn
    by_cases hz : k.tmod n < 0
    · rw [t3 hz]
      clear t3 t4 h
      go_enter Try.func15, Try.ntmps15
      go_wp2
      go_ret
      exact ⟨rfl, rfl⟩
    · have e := t4 (by omega)
      have e2 : k.tmod n = 0 := by omega
      rw [e]
      clear t3 t4 h e
      go_enter Try.func15, Try.ntmps15
      go_wp2
      go_ret
      exact ⟨rfl, rfl⟩
  · have h3 := Int.emod_nonneg k (b := n) (by omega)
    go_enter Try.func15, Try.ntmps15
    go_wp2
    go_ret
    exact ⟨rfl, rfl⟩
/-- the arena, what is out ('all'), and the row of what was got -/
def Bs (w0 : World) (e ab x cb : Nat) (got all : List Int) (ro : Option Addr) (rc : Nat) (w : World) : Prop :=
  ∃ D ws L O, Ar.AtO D w0.heap.size ab x ws [] 0 0 L O cb w ∧ ws.length = e ∧ Got all O ∧ w.ownsRow w0.heap.size 3 1 (.slice ro got.length rc) got.length (M.ivs got) ∧ (∀ j, M.At ro j → ¬ D j) ∧ Below w0.heap.size w0 w
variable {w0 w w' : World} {e ab x cb : Nat} {got all : List Int} {ro : Option Addr} {rc : Nat}
theorem own_lt {B ee size n cap : Nat} {ao : Option Addr} {xs : List Value} (h : w.ownsRow B ee size (.slice ao n cap) n xs) {j : Nat} (hj : M.At ao j) : B ≤ j ∧ j < w.heap.size := by
  obtain ⟨a, rfl, rfl⟩ := hj
  rcases h.2 with ⟨hv, _⟩ | ⟨g', cap', cur, hv, hb, hg', _⟩
  · cases hv
  · simp only [Value.slice.injEq, Option.some.injEq] at hv
    obtain ⟨rfl, _, _⟩ := hv
    exact ⟨hb, lt_of_heap hg'⟩
theorem ato_lo {D : Nat → Prop} {B : Nat} {ws : List Int} {tr : List M.Ac} {bad : Nat} {s : Int} {L : List Bk} {O : List (Int × Int)} (H : Ar.AtO D B ab x ws tr bad s L O cb w) {j : Nat} (hj : D j) : B ≤ j ∧ j < w.heap.size := H.atl.lo hj
/-- the arena has turned: what it leaves -/
theorem Bs.oto {D : Nat → Prop} {ws' : List Int} {L' : List Bk} {O O' : List (Int × Int)} {all' : List Int} {cb' : Nat} {ws : List Int} {L : List Bk} (h1 : Ar.AtO D w0.heap.size ab x ws [] 0 0 L O cb w) (h4 : w.ownsRow w0.heap.size 3 1 (.slice ro got.length rc) got.length (M.ivs got)) (h5 : ∀ j, M.At ro j → ¬ D j) (h6 : Below w0.heap.size w0 w) (t : Ar.OTo D w0.heap.size ab x ws' [] 0 0 L' O' cb' w w') (hl : ws'.length = e) (hg : Got all' O') : Bs w0 e ab x cb' got all' ro rc w' := by
  obtain ⟨D', hA, tt, ss⟩ := t
  refine ⟨D', ws', L', O', hA, hl, hg, tt.row h4 (fun j hj => h5 j (M.own_at hj)), fun j hj q => ?_, h6.trans (tt.below (fun j hj => (ato_lo h1 hj).1) h6.size)⟩
  rcases ss j q with z | z
  · exact h5 j hj z
  · have := (own_lt h4 hj).2; omega
theorem Bs.take (n : Int) (h : Bs w0 e ab x cb got all ro rc w) (hc : cb < 4611686018425000000) (hn2 : n ≤ 9223372036854775807) : Calls Try.prog 46 #[.pointer (some ⟨ab, 0, none⟩), .int .i64 n] w fun r w' => (∃ er : Int, (er == 0) = false ∧ r = .returned (.tuple #[.int .i64 0, .int .i64 er]) ∧ Bs w0 e ab x (cb + 65537) got all ro rc w') ∨ (∃ a, r = .returned (.tuple #[.int .i64 a, .int .i64 0]) ∧ Bs w0 e ab x (cb + 65537) got (all ++ [a]) ro rc w') := by
  obtain ⟨D, ws, L, O, h1, h2, h3, h4, h5, h6⟩ := h
  refine (Ar.take_o n h1 hc hn2).mono ?_
  rintro r w' (⟨er, q1, q2, q3⟩ | ⟨a, ws', L', q1, q2, q3, q4⟩)
  · exact .inl ⟨er, q1, q2, Bs.oto h1 h4 h5 h6 q3 h2 h3⟩
  · exact .inr ⟨a, q1, Bs.oto h1 h4 h5 h6 q2 (q3.trans h2) (h3.more a n)⟩
theorem Bs.give {k : Nat} {a : Int} (h : Bs w0 e ab x cb got all ro rc w) (hk : all[k]? = some a) (hc : cb < 4611686018425000000) : Calls Try.prog 44 #[.pointer (some ⟨ab, 0, none⟩), .int .i64 a] w fun r w' => r = .returned (.int .i64 0) ∧ Bs w0 e ab x (cb + 65537) got (all.eraseIdx k) ro rc w' := by
  obtain ⟨D, ws, L, O, h1, h2, h3, h4, h5, h6⟩ := h
  refine (Ar.give_o a h1 (h3.has (List.mem_of_getElem? hk)) hc).mono ?_
  rintro r w' ⟨q1, ws', L', q2, q3⟩
  exact ⟨q1, Bs.oto h1 h4 h5 h6 q2 (q3.trans h2) (h3.less h1.nd hk)⟩
theorem Bs.again {a : Int} (h : Bs w0 e ab x cb got all ro rc w) (hn : a ∉ all) (ha : 0 ≤ a ∧ a ≤ 65536) : Calls Try.prog 44 #[.pointer (some ⟨ab, 0, none⟩), .int .i64 a] w fun r w' => r = .returned (.int .i64 151) ∧ w' = w := by
  obtain ⟨D, ws, L, O, h1, h2, h3, h4, h5, h6⟩ := h
  refine Ar.give_again a (Oo.okk_of (by omega) (by omega)) h1 ?_
  cases hh : Oo.hasK O a with
  | false => rfl
  | true =>
    exfalso
    obtain ⟨p, hp, e1⟩ := List.any_eq_true.1 hh
    exact hn (h3.mem_iff.2 (List.mem_map.2 ⟨p, hp, by simpa using e1⟩))
theorem Bs.key (h : Bs w0 e ab x cb got all ro rc w) {a : Int} (ha : a ∈ all) : 0 ≤ a ∧ a ≤ 65536 := by
  obtain ⟨D, ws, L, O, h1, h2, h3, h4, h5, h6⟩ := h
  exact h1.key (h3.has ha)
theorem Bs.nodup (h : Bs w0 e ab x cb got all ro rc w) : all.Nodup := by
  obtain ⟨D, ws, L, O, h1, h2, h3, h4, h5, h6⟩ := h
  refine h3.nodup_iff.2 ?_
  rw [List.nodup_iff_pairwise_ne]
  exact List.pairwise_map.2 h1.nd
theorem Bs.live (h : Bs w0 e ab x cb got all ro rc w) : Calls Try.prog 39 #[.pointer (some ⟨ab, 0, none⟩)] w fun r w' => r = .returned (.int .i64 (all.length : Nat)) ∧ w' = w := by
  obtain ⟨D, ws, L, O, h1, h2, h3, h4, h5, h6⟩ := h
  have := Ar.atl_live h1.atl
  rw [h1.len.1, ← h3.len] at this
  exact this
theorem Bs.len (h : Bs w0 e ab x cb got all ro rc w) : all.length ≤ e := by
  obtain ⟨D, ws, L, O, h1, h2, h3, h4, h5, h6⟩ := h
  have := h1.len.2
  rw [h3.len]
  omega
theorem Bs.bel (h : Bs w0 e ab x cb got all ro rc w) : Below w0.heap.size w0 w := by
  obtain ⟨D, ws, L, O, h1, h2, h3, h4, h5, h6⟩ := h
  exact h6
theorem Bs.row (h : Bs w0 e ab x cb got all ro rc w) : w.ownsRow w0.heap.size 3 1 (.slice ro got.length rc) got.length (M.ivs got) := by
  obtain ⟨D, ws, L, O, h1, h2, h3, h4, h5, h6⟩ := h
  exact h4
theorem Bs.cell (h : Bs w0 e ab x cb got all ro rc w) {k : Nat} {a : Int} (hk : got[k]? = some a) : ∃ g, ro = some ⟨g, 0, none⟩ ∧ w.cell? ⟨g, k, none⟩ = some (.int .i64 a) := by
  have hr := h.row
  have hl := (List.getElem?_eq_some_iff.1 hk).1
  obtain ⟨g, cap', hv, _, _⟩ := hr.form (by omega)
  simp only [Value.slice.injEq] at hv
  obtain ⟨rfl, _, rfl⟩ := hv
  refine ⟨g, rfl, ?_⟩
  have := M.row_cell hr k (.int .i64 a) (by simp [M.ivs, hk])
  rw [show (⟨g, 0, none⟩ : Addr).add k = ⟨g, k, none⟩ by unfold Addr.add; split <;> simp_all] at this
  exact this
/-- another row is turned, or grows -/
theorem Bs.turned {S : Nat → Prop} (h : Bs w0 e ab x cb got all ro rc w) (t : Turn S w w') (hS : ∀ j, S j → w0.heap.size ≤ j) (hn : ∀ D : Nat → Prop, (∃ ws L O, Ar.AtO D w0.heap.size ab x ws [] 0 0 L O cb w) → ∀ j, S j → ¬ D j) (hr : ∀ j, M.At ro j → ¬ S j) : Bs w0 e ab x cb got all ro rc w' := by
  obtain ⟨D, ws, L, O, h1, h2, h3, h4, h5, h6⟩ := h
  exact ⟨D, ws, L, O, h1.kept t (fun j hj q => hn D ⟨ws, L, O, h1⟩ j q hj), h2, h3, t.row h4 (fun j hj => hr j (M.own_at hj)), h5, h6.trans (t.below hS h6.size)⟩
/-- the row of what was got has grown -/
theorem Bs.grown (h : Bs w0 e ab x cb got all ro rc w) {a : Int} {gg cap' : Nat} (hr1 : w'.ownsRow w0.heap.size 3 1 (.slice (some ⟨gg, 0, none⟩) (got.length + 1) cap') (got.length + 1) (M.ivs got ++ [.int .i64 a])) (t : Turn (M.At ro) w w') (hg : M.At ro gg ∨ w.heap.size ≤ gg) : Bs w0 e ab x cb (got ++ [a]) all (some ⟨gg, 0, none⟩) cap' w' := by
  obtain ⟨D, ws, L, O, h1, h2, h3, h4, h5, h6⟩ := h
  refine ⟨D, ws, L, O, h1.kept t (fun j hj q => h5 j q hj), h2, h3, ?_, fun j hj q => ?_, h6.trans (t.below (fun j hj => (own_lt h4 hj).1) h6.size)⟩
  · rw [List.length_append, M.ivs, List.map_append]
    exact hr1
  · obtain ⟨a', ha, rfl⟩ := hj
    cases ha
    rcases hg with z | z
    · exact h5 _ z q
    · have := (ato_lo h1 q).2; simp only at this; omega
/-- the rest, as it is copied -/
def rj (got : List Int) (k j : Nat) : List Int := (got.take j).eraseIdx k
theorem rj_zero (got : List Int) (k : Nat) : rj got k 0 = [] := by simp [rj]
theorem rj_end (got : List Int) (k : Nat) : rj got k got.length = got.eraseIdx k := by simp [rj]
theorem rj_same (got : List Int) (k : Nat) (h : k < got.length) : rj got k (k + 1) = rj got k k := by
  unfold rj
  have hm : (got.take k).length = k := by rw [List.length_take]; omega
  rw [List.take_succ_eq_append_getElem h, List.eraseIdx_append_of_length_le (by omega), List.eraseIdx_of_length_le (l := got.take k) (by omega), hm, Nat.sub_self, List.eraseIdx_cons_zero, List.append_nil]
theorem rj_more (got : List Int) {k j : Nat} {a : Int} (h : got[j]? = some a) (hne : j ≠ k) : rj got k (j + 1) = rj got k j ++ [a] := by
  have hl := (List.getElem?_eq_some_iff.1 h).1
  have he := (List.getElem?_eq_some_iff.1 h).2
  unfold rj
  rw [List.take_succ_eq_append_getElem hl, he]
  by_cases hk : k < j
  · rw [List.eraseIdx_append_of_lt_length (by simp; omega)]
  · rw [List.eraseIdx_append_of_length_le (by simp; omega), List.eraseIdx_of_length_le (l := got.take j) (by simp; omega)]
    congr 1
    rw [List.eraseIdx_of_length_le (by simp; omega)]
theorem rj_len (got : List Int) (k j : Nat) : (rj got k j).length ≤ got.length := by
  unfold rj
  exact Nat.le_trans (List.length_eraseIdx_le ..) (by rw [List.length_take]; omega)
/-- amid the copying: the row of what was got, and the rest's -/
def B2 (w0 : World) (e ab x cb : Nat) (got all : List Int) (ro : Option Addr) (rc : Nat) (rest : List Int) (so : Option Addr) (sc : Nat) (w : World) : Prop :=
  ∃ D ws L O, Ar.AtO D w0.heap.size ab x ws [] 0 0 L O cb w ∧ ws.length = e ∧ Got all O ∧ w.ownsRow w0.heap.size 3 1 (.slice ro got.length rc) got.length (M.ivs got) ∧ (∀ j, M.At ro j → ¬ D j) ∧ Below w0.heap.size w0 w ∧ w.ownsRow w0.heap.size 3 1 (.slice so rest.length sc) rest.length (M.ivs rest) ∧ (∀ j, M.At so j → ¬ D j) ∧ ∀ j, M.At so j → ¬ M.At ro j
variable {rest : List Int} {so : Option Addr} {sc : Nat}
theorem B2.start (h : Bs w0 e ab x cb got all ro rc w) : B2 w0 e ab x cb got all ro rc [] none 0 w := by
  obtain ⟨D, ws, L, O, h1, h2, h3, h4, h5, h6⟩ := h
  exact ⟨D, ws, L, O, h1, h2, h3, h4, h5, h6, World.ownsRow_nil _ _ _ _, fun j hj => (by obtain ⟨a, ha, _⟩ := hj; cases ha), fun j hj => (by obtain ⟨a, ha, _⟩ := hj; cases ha)⟩
theorem B2.bs (h : B2 w0 e ab x cb got all ro rc rest so sc w) : Bs w0 e ab x cb got all ro rc w := by
  obtain ⟨D, ws, L, O, h1, h2, h3, h4, h5, h6, _⟩ := h
  exact ⟨D, ws, L, O, h1, h2, h3, h4, h5, h6⟩
theorem B2.fin (h : B2 w0 e ab x cb got all ro rc rest so sc w) : Bs w0 e ab x cb rest all so sc w := by
  obtain ⟨D, ws, L, O, h1, h2, h3, h4, h5, h6, h7, h8, h9⟩ := h
  exact ⟨D, ws, L, O, h1, h2, h3, h7, h8, h6⟩
theorem B2.grown (h : B2 w0 e ab x cb got all ro rc rest so sc w) {a : Int} {gg cap' : Nat} (hr1 : w'.ownsRow w0.heap.size 3 1 (.slice (some ⟨gg, 0, none⟩) (rest.length + 1) cap') (rest.length + 1) (M.ivs rest ++ [.int .i64 a])) (t : Turn (M.At so) w w') (hg : M.At so gg ∨ w.heap.size ≤ gg) : B2 w0 e ab x cb got all ro rc (rest ++ [a]) (some ⟨gg, 0, none⟩) cap' w' := by
  obtain ⟨D, ws, L, O, h1, h2, h3, h4, h5, h6, h7, h8, h9⟩ := h
  refine ⟨D, ws, L, O, h1.kept t (fun j hj q => h8 j q hj), h2, h3, t.row h4 (fun j hj q => h9 j q (M.own_at hj)), h5, h6.trans (t.below (fun j hj => (own_lt h7 hj).1) h6.size), ?_, fun j hj q => ?_, fun j hj z => ?_⟩
  · rw [List.length_append, M.ivs, List.map_append]
    exact hr1
  · obtain ⟨a', ha, rfl⟩ := hj
    cases ha
    rcases hg with z | z
    · exact h8 _ z q
    · have := (ato_lo h1 q).2; simp only at this; omega
  · obtain ⟨a', ha, rfl⟩ := hj
    cases ha
    rcases hg with y | y
    · exact h9 _ y z
    · have := (own_lt h4 z).2; simp only at this; omega
/-- all is given back -/
theorem Bs.one (h : Bs w0 e ab x cb [] [] ro rc w) : ∃ D ws, Ar.Atl D w0.heap.size ab x ws [] 0 0 [⟨0, (e : Int), true⟩] cb w ∧ ws.length = e ∧ Below w0.heap.size w0 w := by
  obtain ⟨D, ws, L, O, h1, h2, h3, h4, h5, h6⟩ := h
  have hO : O = [] := by
    have := h3.len
    exact List.eq_nil_of_length_eq_zero (by simpa using this.symm)
  subst hO
  have := Ar.one_left h1
  subst this
  refine ⟨D, ws, ?_, h2, h6⟩
  have e1 := h1.atl
  rw [show ((ws.length : Int) - 0) = (e : Int) by omega] at e1
  exact e1
theorem fit_whole (e : Nat) : Ar.fit [⟨0, (e : Int), true⟩] (e : Int) = 0 := by simp [Ar.fit, Ar.pf, List.find?]
theorem fit_more (e : Nat) : Ar.fit [⟨0, (e : Int), true⟩] ((e : Int) + 1) = -1 := by
  unfold Ar.fit
  rw [show List.find? (Ar.pf ((e : Int) + 1)) [(⟨0, (e : Int), true⟩ : Bk)] = none by
    rw [List.find?_eq_none]
    intro b hb
    rw [List.mem_singleton] at hb
    subst hb
    simp [Ar.pf]
    omega]
def lenOf : Value → Nat
  | .slice _ n _ => n
  | _ => 0
theorem wsuc (k : Nat) (h : k < 1999999999999999) : wrap64 ((k : Int) + 1) = (k : Int) + 1 := by unfold wrap64; omega
theorem ends_of (words : Int) : ∃ e : Nat, 1 ≤ e ∧ e ≤ 200 ∧ (e : Int) = 1 + words % 200 := by
  have h3 := Int.emod_nonneg words (b := 200) (by omega)
  have h4 := Int.emod_lt_of_pos words (b := 200) (by omega)
  exact ⟨1 + (words % 200).toNat, by omega, by omega, by omega⟩
theorem mod_of (z : Int) (n : Nat) (h : 0 < n) : ∃ k : Nat, k < n ∧ z % (n : Int) = (k : Int) := by
  have h3 := Int.emod_nonneg z (b := (n : Int)) (by omega)
  have h4 := Int.emod_lt_of_pos z (b := (n : Int)) (by omega)
  exact ⟨(z % (n : Int)).toNat, by omega, by omega⟩
end Bk
end Go.Proofs.Ytibedojfocbjiaa
set_option linter.unusedVariables false
set_option linter.unusedSimpArgs false
namespace Go.Proofs.Ytibedojfocbjiaa
open Go.RowKit Go.Sort
namespace Bk
open Fr
theorem getD_some {ns : List Int} {k : Nat} (h : k < ns.length) : ns[k]? = some (ns.getD k 0) := by simp [List.getD, h]
theorem not_mem_erase {gt : List Int} (nd : gt.Nodup) {k : Nat} {a : Int} (hk : gt[k]? = some a) : a ∉ gt.eraseIdx k := by
  rw [erase_filter gt k a nd hk]
  intro z
  have := (List.mem_filter.1 z).2
  simp at this
theorem erase_len {gt : List Int} {k : Nat} (h : k < gt.length) : (gt.eraseIdx k).length + 1 = gt.length := by
  rw [List.length_eraseIdx]
  split <;> omega
theorem take_more {D : Nat → Prop} {B ab x e cb : Nat} {ws : List Int} {w : World} (h : Ar.Atl D B ab x ws [] 0 0 [⟨0, (e : Int), true⟩] cb w) (hc : cb < 4611686018425000000) (he : e ≤ 200) : Calls Try.prog 46 #[.pointer (some ⟨ab, 0, none⟩), .int .i64 ((e : Int) + 1)] w fun r w' => r = .returned (.tuple #[.int .i64 0, .int .i64 150]) ∧ Ar.LTo D B ab x ws [] 0 0 [⟨0, (e : Int), true⟩] (cb + 65537) w w' := by
  refine (Ar.atl_take ((e : Int) + 1) h hc (by omega)).mono ?_
  rintro r w' (⟨q, _⟩ | ⟨_, _, q2, q3⟩ | ⟨_, q, _⟩)
  · omega
  · exact ⟨q2, q3⟩
  · rw [fit_more] at q; omega
theorem take_whole {D : Nat → Prop} {B ab x e cb : Nat} {ws : List Int} {w : World} (h : Ar.Atl D B ab x ws [] 0 0 [⟨0, (e : Int), true⟩] cb w) (hl : ws.length = e) (hc : cb < 4611686018425000000) (he : 1 ≤ e ∧ e ≤ 200) : Calls Try.prog 46 #[.pointer (some ⟨ab, 0, none⟩), .int .i64 (e : Int)] w fun r w' => r = .returned (.tuple #[.int .i64 0, .int .i64 0]) ∧ ∃ ws' L', Ar.LTo D B ab x ws' [] 0 0 L' (cb + 65537) w w' ∧ ws'.length = e ∧ ∀ i, i < e → ws'.getD i 0 = 0 := by
  refine (Ar.atl_take (e : Int) h hc (by omega)).mono ?_
  rintro r w' (⟨q, _⟩ | ⟨_, q, _⟩ | ⟨_, _, _, q1, ws', L', q2, q3, q4, q5, _⟩)
  · omega
  · rw [fit_whole] at q; omega
  · rw [fit_whole] at q1 q5
    refine ⟨q1, ws', L', q2, q3.trans hl, fun i hi => ?_⟩
    rw [q5 i (by omega), if_pos (by omega)]
/-- what the end reads of the pieces' row -/
theorem blk_cells {B g rc : Nat} {e : Nat} {w : World} (h : RowB B (some ⟨g, 0, none⟩) rc [⟨0, (e : Int), true⟩] w) : g < w.heap.size ∧ B ≤ g ∧ w.cell? ⟨g, 0, none⟩ = some (.int .i64 0) ∧ w.cell? ⟨g, 1, none⟩ = some (.int .i64 (e : Int)) ∧ w.cell? ⟨g, 2, none⟩ = some (.bool true) := by
  have h' : w.ownsRow B 110 3 (.slice (some ⟨g, 0, none⟩) 1 rc) 1 [.int .i64 0, .int .i64 (e : Int), .bool true] := h
  have key : ∀ j u, ([.int .i64 0, .int .i64 (e : Int), .bool true] : List Value)[j]? = some u → w.cell? ⟨g, j, none⟩ = some u := fun j u hu => by
    have := M.row_cell h' j u hu
    rw [show (⟨g, 0, none⟩ : Addr).add j = ⟨g, j, none⟩ by unfold Addr.add; split <;> simp_all] at this
    exact this
  have hlo := own_lt h' (j := g) ⟨_, rfl, rfl⟩
  exact ⟨hlo.2, hlo.1, key 0 _ rfl, key 1 _ rfl, key 2 _ rfl⟩
theorem zero_cell {B rc : Nat} {ro : Option Addr} {ws : List Int} {e : Nat} {w : World} (h : w.ownsRow B 3 1 (.slice ro ws.length rc) ws.length (M.ivs ws)) (hl : ws.length = e) (h0 : ∀ i, i < e → ws.getD i 0 = 0) {k : Nat} (hk : k < e) : ∃ g, ro = some ⟨g, 0, none⟩ ∧ w.cell? ⟨g, k, none⟩ = some (.int .i64 0) := by
  obtain ⟨g, cap', hv, _, _⟩ := h.form (by omega)
  simp only [Value.slice.injEq] at hv
  obtain ⟨rfl, _, rfl⟩ := hv
  refine ⟨g, rfl, ?_⟩
  have e1 := h0 k hk
  have := M.row_cell h k (.int .i64 0) (by rw [← e1]; simp [M.ivs, List.getD, show k < ws.length by omega])
  rw [show (⟨g, 0, none⟩ : Addr).add k = ⟨g, k, none⟩ by unfold Addr.add; split <;> simp_all] at this
  exact this
set_option maxRecDepth 100000 in
set_option maxHeartbeats 4000000 in
theorem back_walk (wd : Int) (a1 a2 : Option Addr) (c1 c2 : Nat) (ns1 ns2 : List Int) (w : World) (hI1 : M.Ints w a1 ns1) (hI2 : M.Ints w a2 ns2) (hok : ∀ k, k < ns1.length → ns1.getD k 0 ≤ 9223372036854775807) (hl1 : ns1.length ≤ 17592186043904) :
    Calls Try.prog 10 #[.int .i64 wd, .slice a1 ns1.length c1, .slice a2 ns2.length c2] w fun r w' => r = .returned (.bool true) ∧ Below w.heap.size w w' := by
  obtain ⟨e, e1, e2, e3⟩ := ends_of wd
  have HE := hide' (And.intro e1 e2)
  have HLv := hide' (Lv.lively_any w)
  have HAt := hide' (fun w => at_any wd 200 w (by omega) (by omega))
  have hb1 := Int.emod_nonneg wd (b := 200) (by omega)
  have hb2 := Int.emod_lt_of_pos wd (b := 200) (by omega)
  have HNew := hide' (fun w => M.new_any e w (by omega) (by omega) _ rfl)
  have N3 := hide' e3
  clear e3
  generalize hm : wd % 200 = m at *
  have hb1' : 0 ≤ m := hb1
  clear hm
  have HI1 := hide' hI1
  have HI2 := hide' hI2
  have HOK := hide' hok
  have HL1 := hide' hl1
  clear hI1 hI2 hok hl1 e1 e2
  go_enter Try.func10, Try.ntmps10
  go_wp2_with fail
  refine HLv.out.mono ?_
  rintro r wa ⟨rfl, ba⟩
  have HBa := hide' ba
  clear HLv ba
  go_wp2_with fail
  refine (HAt.out wa).mono ?_
  rintro r wb ⟨rfl, hwb⟩
  replace hwb := hwb.symm
  subst hwb
  clear HAt
  go_wp2_with fail
  rw [← N3.out]
  clear N3 hb1 hb2 hb1'
  refine (HNew.out wa).mono ?_
  rintro r wb ⟨x, rfl, DM, m1, b1⟩
  have HAN : Hid (Calls Try.prog 30 #[.pointer (some ⟨x, 0, none⟩), .int .i64 0] wb fun r w' => ∃ ab, r = .returned (.tuple #[.pointer (some ⟨ab, 0, none⟩), .int .i64 0]) ∧ Bs wa e ab x 1 [] [] none 0 w') := hide' ((Ar.atl_new 0 m1 (by rw [List.length_replicate]; exact HE.out.1)).mono (fun r w' ⟨ab, q1, D, q2, q3, _⟩ => ⟨ab, q1, D, _, _, [], Ar.Atl.ato q2 rfl, by simp, List.Perm.nil, World.ownsRow_nil _ _ _ _, fun j hj => (by obtain ⟨a, ha, _⟩ := hj; cases ha), b1.trans (q3.mono b1.size)⟩))
  clear HNew m1 b1
  go_wp2_with fail
  refine HAN.out.mono ?_
  rintro r wc ⟨ab, rfl, q1⟩
  have S0 := hide' q1
  clear HAN q1
  go_wp2_with fail
  go_loopw [13, 14] (fun g i wx => ∃ (k rc : Nat) (got : List Int) (ro : Option Addr), k ≤ ns1.length ∧ i = .int .i64 (k : Int) ∧ g = .slice ro got.length rc ∧ Bs wa e ab x (1 + k * 65537) got got ro rc wx) (fun _ i _ => ns1.length - (intOf i).toNat)
  case atStart => exact ⟨0, 0, [], none, by omega, rfl, rfl, S0.out⟩
  case round => as_aux_lemma =>
    obtain ⟨k, rc, got, ro, hk, rfl, rfl, hB⟩ := hrel
    have HB := hide' hB
    by_cases hlt : k < ns1.length
    · rcases HI1.out with hI | ⟨pb, off, rfl, hpb, hc⟩
      · rw [hI] at hlt; simp at hlt
      have cw := ((HBa.out.trans (hB.bel.mono HBa.out.size)).cell (p := ⟨pb, off + k, none⟩) hpb).trans (hc k hlt)
      have hlt' : (k : Int) < (ns1.length : Int) := by omega
      have HC := hide' (hB.take (ns1.getD k 0) (by have := HL1.out; omega) (HOK.out k hlt))
      have Hwk := hide' (wsuc k (by have := HL1.out; omega))
      have Hcb : Hid (1 + k * 65537 + 65537 = 1 + (k + 1) * 65537) := hide' (by omega)
      rw [Hcb.out] at HC
      generalize ns1.getD k 0 = z at *
      clear hB hc HB
      go_wp2_with fail
      refine HC.out.mono ?_
      rintro r wd2 (⟨er, hne, rfl, q⟩ | ⟨a, rfl, q⟩)
      · have S1 := hide' q
        clear q HC cw
        go_wp2
        exact ⟨⟨k + 1, rc, got, ro, hlt, by rw [Hwk.out]; go_num, rfl, S1.out⟩, M.msr' hlt _ Hwk.out⟩
      · have S1 := hide' q
        have Hgl : Hid (got.length < 3000000000000) := hide' (by have h1 := q.len; have h2 := HE.out; rw [List.length_append] at h1; omega)
        clear q HC cw
        go_wp2_with (at_builtin; refine M.wpList_more (e := 3) (m := 1) Try.underlying22 M.info3 rfl (by omega) (by omega) wd2 rfl _ _ rfl S1.out.row Hgl.out S1.out.bel.size [.int .i64 a] rfl (by simp [Value.oneCell']) _ rfl rfl ?_; intro gg cap' w3 hr3 t3 hg3)
        exact ⟨⟨k + 1, cap', got ++ [a], some ⟨gg, 0, none⟩, hlt, by rw [Hwk.out]; go_num, by rw [List.length_append]; rfl, S1.out.grown hr3 t3 hg3⟩, M.msr' hlt _ Hwk.out⟩
    · obtain rfl : k = ns1.length := by omega
      have HLi := hide' hB.live
      have HT : Hid (got.length ≤ 200) := hide' (by have := hB.len; have := HE.out; omega)
      obtain ⟨cb0, hcb0⟩ : ∃ cb0, 1 + ns1.length * 65537 = cb0 := ⟨_, rfl⟩
      have Hcb : Hid (cb0 ≤ 1200000000000000000) := hide' (by have := HL1.out; omega)
      rw [hcb0] at HB
      clear hB hcb0
      go_wp2_with fail
      refine HLi.out.mono ?_
      rintro r wl ⟨rfl, hwl⟩
      replace hwl := hwl.symm
      subst hwl
      clear HLi
      go_wp2_with fail
      go_loopw [7, 13, 17] (fun okv g i wx => ∃ (k rc : Nat) (gt : List Int) (ro : Option Addr) (cb : Nat), okv = .bool true ∧ i = .int .i64 (k : Int) ∧ g = .slice ro gt.length rc ∧ Bs wa e ab x cb gt gt ro rc wx ∧ k + gt.length ≤ 200 ∧ cb ≤ 1200000000000000000 + k * 131074) (fun _ g _ _ => lenOf g)
      case atStart => exact ⟨0, rc, got, ro, cb0, rfl, rfl, rfl, HB.out, by have := HT.out; omega, by have := Hcb.out; omega⟩
      case round =>
        obtain ⟨k, rc, gt, ro, cb, rfl, rfl, rfl, hB2, hkl, hcbl⟩ := hrel
        have HB2 := hide' hB2
        have HKL := hide' (And.intro hkl hcbl)
        clear hkl hcbl
        by_cases hz : gt.length = 0
        · obtain rfl : gt = [] := List.eq_nil_of_length_eq_zero hz
          obtain ⟨D, ws, hA, hlw, hbw⟩ := hB2.one
          have HBl := hide' (Ar.atl_blocks hA)
          have HA := hide' (And.intro hA (And.intro hlw hbw))
          clear hB2 hz hA hlw hbw HB2 HB
          go_wp2_with fail
          refine HBl.out.mono ?_
          rintro r wf ⟨gl, rl, rfl, hrow, bf⟩
          obtain ⟨z1, z2, z3, z4, z5⟩ := blk_cells hrow
          have A1 := HA.out.1.below bf
          have HT1 := hide' (take_more A1 (by have := HKL.out; omega) HE.out.2)
          have hwe : wrap64 ((e : Int) + 1) = (e : Int) + 1 := wsuc e (by have := HE.out; omega)
          have HC := hide' (And.intro A1 (And.intro (HA.out.2.2.trans (bf.mono HA.out.2.2.size)) (And.intro (fun j (q : D j) => (show j ≠ gl from fun z => by have := (HA.out.1.lo q).2; omega)) (And.intro z1 (And.intro z3 (And.intro z4 z5))))))
          clear HBl hrow bf z1 z2 z3 z4 z5 A1
          go_wp2_with fail
          refine HT1.out.mono ?_
          rintro r wg ⟨rfl, D2, hA2, t2, s2⟩
          have HT2 := hide' (take_whole hA2 HA.out.2.1 (by have := HKL.out; omega) HE.out)
          have ng : ¬ D gl := fun z => HC.out.2.2.1 gl z rfl
          have ng2 : ¬ D2 gl := fun z => by rcases s2 gl z with y | y; exact ng y; have := HC.out.2.2.2.1; omega
          have HC2 := hide' (And.intro hA2 (And.intro (HC.out.2.1.trans (t2.below (fun j hj => (HC.out.1.lo hj).1) HC.out.2.1.size)) (And.intro ng2 (And.intro (Nat.lt_of_lt_of_le HC.out.2.2.2.1 t2.size) (And.intro ((t2.cell (p := ⟨gl, 0, none⟩) HC.out.2.2.2.1 ng).trans HC.out.2.2.2.2.1) (And.intro ((t2.cell (p := ⟨gl, 1, none⟩) HC.out.2.2.2.1 ng).trans HC.out.2.2.2.2.2.1) ((t2.cell (p := ⟨gl, 2, none⟩) HC.out.2.2.2.1 ng).trans HC.out.2.2.2.2.2.2)))))))
          clear HT1 t2 s2 hA2 ng ng2 hwe HC
          go_wp2_with fail
          refine HT2.out.mono ?_
          rintro r wh ⟨rfl, ws3, L3, ⟨D3, hA3, t3, s3⟩, hl3, hz3⟩
          have HW := hide' (Ar.atl_words hA3)
          rw [hl3] at HW
          have k0 := (t3.cell (p := ⟨gl, 0, none⟩) HC2.out.2.2.2.1 HC2.out.2.2.1).trans HC2.out.2.2.2.2.1
          have k1 := (t3.cell (p := ⟨gl, 1, none⟩) HC2.out.2.2.2.1 HC2.out.2.2.1).trans HC2.out.2.2.2.2.2.1
          have k2 := (t3.cell (p := ⟨gl, 2, none⟩) HC2.out.2.2.2.1 HC2.out.2.2.1).trans HC2.out.2.2.2.2.2.2
          have HC3 := hide' (And.intro (Nat.lt_of_lt_of_le HC2.out.2.2.2.1 t3.size) (And.intro k0 (And.intro k1 (And.intro k2 (HC2.out.2.1.trans (t3.below (fun j hj => (HC2.out.1.lo hj).1) HC2.out.2.1.size))))))
          have HZ := hide' (And.intro hl3 hz3)
          clear HT2 t3 s3 hA3 hl3 hz3 k0 k1 k2 HC2 HA
          go_wp2_with fail
          refine HW.out.mono ?_
          rintro r wi ⟨rz, cz, rfl, hrz, bi⟩
          have HRz : Hid (∀ k, k < e → ∃ g, rz = some ⟨g, 0, none⟩ ∧ wi.cell? ⟨g, k, none⟩ = some (.int .i64 0)) := hide' (fun k hk => zero_cell (ws := ws3) (by rw [HZ.out.1]; exact hrz) HZ.out.1 HZ.out.2 hk)
          have k0 := (bi.cell (p := ⟨gl, 0, none⟩) HC3.out.1).trans HC3.out.2.1
          have k1 := (bi.cell (p := ⟨gl, 1, none⟩) HC3.out.1).trans HC3.out.2.2.1
          have k2 := (bi.cell (p := ⟨gl, 2, none⟩) HC3.out.1).trans HC3.out.2.2.2.1
          have HF := hide' (show Below w.heap.size w wi from HBa.out.trans ((HC3.out.2.2.2.2.trans (bi.mono HC3.out.2.2.2.2.size)).mono HBa.out.size))
          have HKc := hide' (And.intro k0 (And.intro k1 k2))
          clear HW hrz bi HC3 HZ k0 k1 k2
          go_wp2_with fail
          go_loopw [28, 29] (fun zv i wx => ∃ k : Nat, k ≤ e ∧ zv = .bool true ∧ i = .int .i64 (k : Int) ∧ wx = wi) (fun _ i _ => e - (intOf i).toNat)
          case atStart => exact ⟨0, by omega, rfl, rfl, rfl⟩
          case round =>
            obtain ⟨k6, hk6, rfl, rfl, hwx⟩ := hrel
            replace hwx := hwx.symm
            subst hwx
            by_cases hlt6 : k6 < e
            · obtain ⟨gz, rfl, cz0⟩ := HRz.out k6 hlt6
              have hlt7 : (k6 : Int) < (e : Int) := by omega
              have Hwk := hide' (wsuc k6 (by have := HE.out; omega))
              go_wp2
              exact ⟨⟨k6 + 1, hlt6, by first | rfl | simp, by rw [Hwk.out]; go_num, trivial⟩, M.msr' hlt6 _ Hwk.out⟩
            · obtain rfl : k6 = e := by omega
              have k0 := HKc.out.1
              have k1 := HKc.out.2.1
              have k2 := HKc.out.2.2
              have hse := struct_eq 0 (k6 : Int) true
              go_wp2
              go_ret
              exact ⟨by first | rfl | simp, HF.out⟩
        · obtain ⟨L, hLg⟩ : ∃ L, gt.length = L := ⟨_, rfl⟩
          have HLg := hide' hLg
          have hL0 : (0 : Int) < (L : Int) := by omega
          rw [hLg]
          clear hz hB2
          by_cases hs : k < ns2.length
          · rcases HI2.out with hI2 | ⟨pb2, off2, rfl, hpb2, hc2⟩
            · rw [hI2] at hs; simp at hs
            have cw2 := ((HBa.out.trans (HB2.out.bel.mono HBa.out.size)).cell (p := ⟨pb2, off2 + k, none⟩) hpb2).trans (hc2 k hs)
            have hs' : (k : Int) < (ns2.length : Int) := by omega
            generalize ns2.getD k 0 = y at *
            obtain ⟨kk, hkk, ekk⟩ := mod_of y L (by omega)
            have HP := hide' (fun V => at_any y (L : Int) V (by omega) (by have := HKL.out; omega))
            rw [ekk] at HP
            have Hkk : Hid (kk < gt.length) := hide' (by omega)
            clear ekk hkk hc2 hLg
            obtain ⟨av, hav⟩ : ∃ av, gt[kk]? = some av := ⟨_, List.getElem?_eq_getElem (by have := Hkk.out; omega)⟩
            obtain ⟨g, hg, cg⟩ := HB2.out.cell hav
            subst hg
            have HG1 := hide' (HB2.out.give hav (by have := HKL.out; omega))
            have HKy := hide' (And.intro (HB2.out.key (List.mem_of_getElem? hav)) (not_mem_erase HB2.out.nodup hav))
            have Hav := hide' hav
            have hkl' : ((kk : Int) : Int) < (L : Int) := by have := Hkk.out; have := HLg.out; omega
            clear hav
            go_wp2_with fail
            refine (HP.out _).mono ?_
            rintro r w4 ⟨rfl, hw4⟩
            replace hw4 := hw4.symm
            subst hw4
            clear HP cw2
            go_wp2_with fail
            refine HG1.out.mono ?_
            rintro r w5 ⟨rfl, q5⟩
            obtain ⟨g', hg', c5⟩ := q5.cell Hav.out
            cases hg'
            have HG2 := hide' (q5.again HKy.out.2 HKy.out.1)
            have S5 := hide' q5
            clear HG1 q5 cg
            go_wp2_with fail
            refine HG2.out.mono ?_
            rintro r w6 ⟨rfl, hw6⟩
            replace hw6 := hw6.symm
            subst hw6
            clear HG2 c5
            go_wp2_with fail
            go_loopw [19, 20] (fun rs j wx => ∃ (jj sc : Nat) (so : Option Addr), jj ≤ L ∧ j = .int .i64 (jj : Int) ∧ rs = .slice so (rj gt kk jj).length sc ∧ B2 wa e ab x (cb + 65537) gt (gt.eraseIdx kk) (some ⟨g, 0, none⟩) rc (rj gt kk jj) so sc wx) (fun _ j _ => L - (intOf j).toNat)
            case atStart => exact ⟨0, 0, none, by omega, rfl, rfl, by rw [rj_zero]; exact B2.start S5.out⟩
            case round =>
              obtain ⟨jj, sc, so, hjj, rfl, rfl, hQ⟩ := hrel
              have HQ := hide' hQ
              by_cases hjl : jj < L
              · obtain ⟨bv, hbv⟩ : ∃ bv, gt[jj]? = some bv := ⟨_, List.getElem?_eq_getElem (by have := HLg.out; omega)⟩
                obtain ⟨g', hg', c7⟩ := hQ.bs.cell hbv
                cases hg'
                have hjl' : (jj : Int) < (L : Int) := by omega
                have Hwk := hide' (wsuc jj (by have := HKL.out; have := HLg.out; omega))
                clear hQ
                by_cases hje : jj = kk
                · have Hsame := hide' (rj_same gt jj (by have := HLg.out; omega))
                  subst hje
                  clear hbv
                  go_wp2
                  exact ⟨⟨jj + 1, sc, so, hjl, by rw [Hwk.out]; go_num, by rw [Hsame.out], by rw [Hsame.out]; exact HQ.out⟩, M.msr' hjl _ Hwk.out⟩
                · have Hmore := hide' (rj_more gt hbv hje)
                  have dne : ((jj : Int) == (kk : Int)) = false := by rw [beq_eq_false_iff_ne]; omega
                  have Hrl : Hid ((rj gt kk jj).length < 3000000000000) := hide' (by have := rj_len gt kk jj; have := HKL.out; have := HLg.out; omega)
                  have HRw : Hid (wr.ownsRow wa.heap.size 3 1 (.slice so (rj gt kk jj).length sc) (rj gt kk jj).length (M.ivs (rj gt kk jj))) := hide' HQ.out.fin.row
                  have HBl := hide' HQ.out.bs.bel.size
                  clear hbv hje
                  generalize hrv : rj gt kk jj = rv at *
                  go_wp2_with (at_builtin; refine M.wpList_more (e := 3) (m := 1) Try.underlying22 M.info3 rfl (by omega) (by omega) wr rfl _ _ rfl HRw.out Hrl.out HBl.out [.int .i64 bv] rfl (by simp [Value.oneCell']) _ rfl rfl ?_; intro gg cap' w8 hr8 t8 hg8)
                  exact ⟨⟨jj + 1, cap', some ⟨gg, 0, none⟩, hjl, by rw [Hwk.out]; go_num, by rw [Hmore.out, List.length_append]; rfl, by rw [Hmore.out]; exact HQ.out.grown hr8 t8 hg8⟩, M.msr' hjl _ Hwk.out⟩
              · obtain rfl : jj = L := by omega
                have Hend : Hid (rj gt kk jj = gt.eraseIdx kk) := hide' (by rw [← HLg.out]; exact rj_end gt kk)
                have Hel : Hid ((gt.eraseIdx kk).length + 1 = jj) := hide' (by rw [← HLg.out]; exact erase_len Hkk.out)
                have HFn := hide' HQ.out.fin
                rw [Hend.out] at HFn ⊢
                have Hwk := hide' (wsuc k (by have := HKL.out; omega))
                clear hQ HQ
                generalize gt.eraseIdx kk = er at *
                go_wp2
                exact ⟨⟨k + 1, sc, er, so, cb + 65537, by first | rfl | simp, by rw [Hwk.out]; go_num, rfl, HFn.out, by have := HKL.out; have := Hel.out; have := HLg.out; omega, by have := HKL.out; omega⟩, by show er.length < _; have := Hel.out; simp only [lenOf]; omega⟩
          · have hs' : ¬ ((k : Int) < (ns2.length : Int)) := by omega
            have Hkk : Hid (0 < gt.length) := hide' (by omega)
            clear hLg
            obtain ⟨av, hav⟩ : ∃ av, gt[0]? = some av := ⟨_, List.getElem?_eq_getElem (by have := Hkk.out; omega)⟩
            obtain ⟨g, hg, cg⟩ := HB2.out.cell hav
            subst hg
            have HG1 := hide' (HB2.out.give hav (by have := HKL.out; omega))
            have HKy := hide' (And.intro (HB2.out.key (List.mem_of_getElem? hav)) (not_mem_erase HB2.out.nodup hav))
            have Hav := hide' hav
            have hkl' : (0 : Int) < (L : Int) := by have := Hkk.out; have := HLg.out; omega
            clear hav
            go_wp2_with fail
            refine HG1.out.mono ?_
            rintro r w5 ⟨rfl, q5⟩
            obtain ⟨g', hg', c5⟩ := q5.cell Hav.out
            cases hg'
            have HG2 := hide' (q5.again HKy.out.2 HKy.out.1)
            have S5 := hide' q5
            clear HG1 q5 cg
            go_wp2_with fail
            refine HG2.out.mono ?_
            rintro r w6 ⟨rfl, hw6⟩
            replace hw6 := hw6.symm
            subst hw6
            clear HG2 c5
            go_wp2_with fail
            go_loopw [19, 20] (fun rs j wx => ∃ (jj sc : Nat) (so : Option Addr), jj ≤ L ∧ j = .int .i64 (jj : Int) ∧ rs = .slice so (rj gt 0 jj).length sc ∧ B2 wa e ab x (cb + 65537) gt (gt.eraseIdx 0) (some ⟨g, 0, none⟩) rc (rj gt 0 jj) so sc wx) (fun _ j _ => L - (intOf j).toNat)
            case atStart => exact ⟨0, 0, none, by omega, rfl, rfl, by rw [rj_zero]; exact B2.start S5.out⟩
            case round =>
              obtain ⟨jj, sc, so, hjj, rfl, rfl, hQ⟩ := hrel
              have HQ := hide' hQ
              by_cases hjl : jj < L
              · obtain ⟨bv, hbv⟩ : ∃ bv, gt[jj]? = some bv := ⟨_, List.getElem?_eq_getElem (by have := HLg.out; omega)⟩
                obtain ⟨g', hg', c7⟩ := hQ.bs.cell hbv
                cases hg'
                have hjl' : (jj : Int) < (L : Int) := by omega
                have Hwk := hide' (wsuc jj (by have := HKL.out; have := HLg.out; omega))
                clear hQ
                by_cases hje : jj = 0
                · have Hsame := hide' (rj_same gt jj (by have := HLg.out; omega))
                  subst hje
                  clear hbv
                  go_wp2
                  exact ⟨⟨0 + 1, sc, so, hjl, by first | rfl | go_num, by rw [Hsame.out], by rw [Hsame.out]; exact HQ.out⟩, M.msr' hjl _ (by first | rfl | simp)⟩
                · have Hmore := hide' (rj_more gt hbv hje)
                  have dne : ((jj : Int) == 0) = false := by rw [beq_eq_false_iff_ne]; omega
                  have Hrl : Hid ((rj gt 0 jj).length < 3000000000000) := hide' (by have := rj_len gt 0 jj; have := HKL.out; have := HLg.out; omega)
                  have HRw : Hid (wr.ownsRow wa.heap.size 3 1 (.slice so (rj gt 0 jj).length sc) (rj gt 0 jj).length (M.ivs (rj gt 0 jj))) := hide' HQ.out.fin.row
                  have HBl := hide' HQ.out.bs.bel.size
                  clear hbv hje
                  generalize hrv : rj gt 0 jj = rv at *
                  go_wp2_with (at_builtin; refine M.wpList_more (e := 3) (m := 1) Try.underlying22 M.info3 rfl (by omega) (by omega) wr rfl _ _ rfl HRw.out Hrl.out HBl.out [.int .i64 bv] rfl (by simp [Value.oneCell']) _ rfl rfl ?_; intro gg cap' w8 hr8 t8 hg8)
                  exact ⟨⟨jj + 1, cap', some ⟨gg, 0, none⟩, hjl, by rw [Hwk.out]; go_num, by rw [Hmore.out, List.length_append]; rfl, by rw [Hmore.out]; exact HQ.out.grown hr8 t8 hg8⟩, M.msr' hjl _ Hwk.out⟩
              · obtain rfl : jj = L := by omega
                have Hend : Hid (rj gt 0 jj = gt.eraseIdx 0) := hide' (by rw [← HLg.out]; exact rj_end gt 0)
                have Hel : Hid ((gt.eraseIdx 0).length + 1 = jj) := hide' (by rw [← HLg.out]; exact erase_len Hkk.out)
                have HFn := hide' HQ.out.fin
                rw [Hend.out] at HFn ⊢
                have Hwk := hide' (wsuc k (by have := HKL.out; omega))
                clear hQ HQ
                generalize gt.eraseIdx 0 = er at *
                go_wp2
                exact ⟨⟨k + 1, sc, er, so, cb + 65537, by first | rfl | simp, by rw [Hwk.out]; go_num, rfl, HFn.out, by have := HKL.out; have := Hel.out; have := HLg.out; omega, by have := HKL.out; omega⟩, by show er.length < _; have := Hel.out; simp only [lenOf]; omega⟩
end Bk
end Go.Proofs.Ytibedojfocbjiaa
set_option linter.unusedVariables false
set_option linter.unusedSimpArgs false
namespace Go.Proofs.Ytibedojfocbjiaa
namespace InB
open Go.ChangeShapes Go.WideShapes Go.ChangeAt Go.RowKit Go.Deep
theorem wf_le {n : Int} (h : (Lit.int .i64 n).wf = true) : n ≤ 9223372036854775807 := by
  simp [Lit.wf, IntKind.min, IntKind.max, IntKind.bits, IntKind.signed] at h
  omega
theorem bytes3 : Try.prog.bytesOf 3 = 8 := by kernel_rfl
/-- a slice of numbers that came in: each of them a number of 64 bits, and as many as the data say -/
theorem ints_in {H : Type} {enc : TypeId × Value → H} {W : World} {a : Option Addr} {len cap : Nat} {d : DataW H} {ps : List MemPlace} {base : Nat} {spare : Nat → Bool} {held : Bool}
    (h : DataW.Trod enc Try.prog W base spare held 22 (.slice a len cap) d ps) : ∃ ns, ns.length = len ∧ M.Ints W a ns ∧ (∀ k, k < ns.length → ns.getD k 0 ≤ 9223372036854775807) ∧ (len = 0 ∨ ∃ el sp, d = .slice el sp ∧ len ≤ el.length) := by
  obtain ⟨fuel, hf⟩ := h
  rcases open_ints Try.underlying22 Try.underlying3 (by kernel_rfl) hf with ⟨hcs, _⟩ | ⟨x, l, c, zs, hcs, _, hl, hm, hz, hx, hcell, hwz⟩
  · simp [Value.cells] at hcs
    obtain ⟨rfl, rfl, rfl⟩ := hcs
    exact ⟨[], rfl, .inl rfl, fun k hk => by simp at hk, .inl rfl⟩
  · simp [Value.cells] at hcs
    obtain ⟨rfl, rfl, rfl⟩ := hcs
    have hlz : len ≤ zs.length := by rw [hz]; split <;> omega
    simp only [Prod.mk.injEq] at hx
    refine ⟨zs.take len, by rw [List.length_take]; omega, ?_, fun k hk => ?_, .inr ⟨_, _, hx.1, by simp [lits]; omega⟩⟩
    · by_cases h0 : len = 0
      · exact .inl (by rw [h0]; rfl)
      · have hc0 := hcell 0 (by omega)
        obtain ⟨b, off, spot⟩ := x
        have hspot : spot = none := by simpa [Addr.add] using World.cell?_spot hc0
        subst hspot
        have hbl : b < W.heap.size := World.block_lt_of_cell? W _ (by simpa [Addr.add] using hc0)
        refine .inr ⟨b, off, rfl, hbl, fun j hj => ?_⟩
        rw [List.length_take] at hj
        have := hcell j (by omega)
        rw [show (⟨b, off, none⟩ : Addr).add j = ⟨b, off + j, none⟩ from by simp [Addr.add]] at this
        rw [this]
        simp [List.getD, List.getElem?_take_of_lt (show j < len by omega)]
    · have hm : (zs.take len).getD k 0 ∈ zs := by
        rw [show (zs.take len).getD k 0 = (zs.take len)[k] from by rw [List.getD, List.getElem?_eq_getElem hk]; rfl]
        exact List.mem_of_mem_take (List.getElem_mem hk)
      exact wf_le (hwz _ hm)
end InB
namespace arenaBack
open Go.ChangeShapes Go.WideShapes Go.ChangeAt Go.RowKit Go.Deep
set_option maxRecDepth 100000 in
theorem contract (H : Type) (enc : TypeId × Value → H) (W : World) (base : Nat) (args : Array Value) (ds gs : List (DataW H)) (before : List MemPlace)
    (hval : ∀ (j : Nat) t v, Try.f10.params[j]? = some t → args[j]? = some v → Value.okWide Try.prog W .any base t v)
    (hW : DataW.Whole enc Try.prog Try.f10.params.toList Rows.arenaBackSpec.vars false W args.toList ds gs before) (hsz : (DataW.weightsEach Try.prog (Try.f10.params.toList ++ Rows.arenaBackSpec.plain.varTypes Try.prog) (ds ++ gs)).all (· ≤ reachBytes) = true) :
    Calls Try.prog 10 args W fun e W' => ∃ v, e = .returned v ∧ Rows.arenaBackSpec.post enc Try.prog Try.f10 false true false false W args v W' := by
  have hW' := hW
  obtain ⟨p, q, hA0, hV, rfl, hfz, hnd⟩ := hW
  have hA : DataW.TrodAll enc Try.prog W 0 (fun _ => true) true Try.f10.params.toList args.toList ds p := hA0
  rw [Try.params10] at hA hval hsz
  obtain ⟨v0, vs0, d0, ds0, p0, q0, hargs, rfl, rfl, h0, r0⟩ := trodAll_cons hA
  obtain ⟨v1, vs1, d1, ds1, p1, q1, rfl, rfl, rfl, h1, r1⟩ := trodAll_cons r0
  obtain ⟨v2, vs2, d2, ds2, p2, q2, rfl, rfl, rfl, h2, r2⟩ := trodAll_cons r1
  obtain ⟨rfl, rfl, rfl⟩ := trodAll_nil r2
  obtain rfl : args = #[v0, v1, v2] := by cases args; simp_all
  obtain ⟨rfl, rfl⟩ := trodVars_none hV
  obtain ⟨x0, rfl, rfl, rfl, w0⟩ := open_int Try.underlying3 (hval 0 3 v0 rfl rfl) h0
  have k1 := h1
  have lt1 : ∀ x ∈ p1, x.block < W.heap.size := by obtain ⟨m, hm⟩ := k1; exact DataW.trod_lt m _ _ _ hm
  obtain ⟨a1, len1, cap1, rfl⟩ := okWide_slice Try.underlying22 (hval 1 22 v1 rfl rfl)
  have k2 := h2
  have lt2 : ∀ x ∈ p2, x.block < W.heap.size := by obtain ⟨m, hm⟩ := k2; exact DataW.trod_lt m _ _ _ hm
  obtain ⟨a2, len2, cap2, rfl⟩ := okWide_slice Try.underlying22 (hval 2 22 v2 rfl rfl)
  obtain ⟨ns1, hlen1, hI1, hok1, hx1⟩ := InB.ints_in h1
  obtain ⟨ns2, hlen2, hI2, hok2, hx2⟩ := InB.ints_in h2
  have hs1 : ns1.length ≤ 17592186043904 := by
    rw [hlen1]
    rcases hx1 with hz | ⟨el, sp, rfl, hel⟩
    · omega
    · have := sized_slice hsz (j := 1) (t := 22) (e := 3) rfl rfl Try.underlying22
      rw [InB.bytes3] at this
      simp only [reachBytes] at this
      omega
  subst hlen1
  subst hlen2
  clear hA0
  refine (Bk.back_walk x0 a1 a2 cap1 cap2 ns1 ns2 W hI1 hI2 hok1 hs1).mono fun e W' ⟨he, bel⟩ => ?_
  subst he
  exact ⟨_, rfl, _, _, _, [], _, [], hW', trodAll_mk1 (shut_bool Try.underlying4 _), (trodAll_cons_mk (shut_int Try.underlying3 w0) (trodAll_cons_mk (Below.trod laidOut (by kernel_rfl) (of_decide_eq_true (by kernel_rfl)) k1 bel lt1) (trodAll_cons_mk (Below.trod laidOut (by kernel_rfl) (of_decide_eq_true (by kernel_rfl)) k2 bel lt2) trodAll_mk0))), rfl, bel.frame _, fun h => by cases h⟩

set_option maxRecDepth 100000 in
theorem lifted (os : Os) (started : os.Started) (H : Type) (enc : TypeId × Value → H) :
    ReturnsInHanded {} Try.checked os 10 .any (Rows.arenaBackSpec.pre6 enc Try.prog Try.f10 Rows.arenaBackRow.domain false) (Rows.arenaBackSpec.post enc Try.prog Try.f10 false true false false) := by
  refine returnsInHanded_of_change_sized (C := Try.checked) own started (by kernel_rfl) Try.func10
    (ChangeSpec.witness6 (enc := enc) (C := Try.checked) false ⟨#[], #[.int .i64 0, .slice none 0 0, .slice none 0 0], []⟩ 8 (by kernel_rfl) (by kernel_rfl) (by kernel_rfl) (by kernel_rfl)) ?_
  intro W base args ds gs before hval hW _ hsz _
  exact contract H enc W base args ds gs before hval hW hsz

theorem over : Rows.arenaBackRow.holds Try.pinned (OpenSpec.ofChange Rows.arenaBackSpec) :=
  OpenClaim.holds_of_wide 10 Try.f10 rfl rfl rfl rfl rfl rfl rfl ⟨rfl, rfl, rfl, rfl, rfl⟩ rfl rfl rfl rfl rfl (by kernel_rfl) Try.func10 (by kernel_rfl)
    (of_decide_eq_true (by kernel_rfl)) (by unfold Func.isWrapper; first | (rw [if_pos (by decide +kernel)]; kernel_rfl) | (rw [if_neg (by decide +kernel)]; exact ⟨rfl, rfl⟩))
    (fun os started H enc _ => lifted os started H enc)
end arenaBack

theorem arenaBack_holds : Rows.ArenaBackSaid := arenaBack.over
#print axioms arenaBack_holds
end Go.Proofs.Ytibedojfocbjiaa
