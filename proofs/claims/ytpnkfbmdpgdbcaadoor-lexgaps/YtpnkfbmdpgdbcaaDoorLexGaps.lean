import Derived.Test.YtpnkfbmdpgdbcaaDoorRows
import Derived.Test.YtpnkfbmdpgdbcaaDoorTie
import Derived.Test.YtpnkfbmdpgdbcaaDoorCards
import Derived.Test.YtpnkfbmdpgdbcaaDoorGpZ
import Derived.ChangeSlices
import Derived.ChangeMaps
import Derived.Deep.Slices
import Derived.Below
import Derived.ProofKit
import Derived.LaidMore
import Derived.OpenShut
import Derived.SizedLaws
import Derived.ShutString
import Derived.ChangeOld
import Derived.Stop.Joined
import Derived.SevenTiedAt
set_option linter.unusedVariables false
set_option linter.unusedSimpArgs false
namespace Go.Proofs.YtpnkfbmdpgdbcaaDoor
open Go.ChangeShapes Go.WideShapes Go.ChangeAt Go.WideMaps Go.WideElems Go.RowKit
namespace lexGaps
open Go.ChangeMaps (open_string shut_string)
theorem laidOut : laidOutB Tryd.prog = true := by kernel_rfl
theorem wf_le {n : Int} (h : (Lit.int .i64 n).wf = true) : I64 n := by
  simp [Lit.wf, IntKind.min, IntKind.max, IntKind.bits, IntKind.signed] at h
  unfold I64
  omega
theorem add_off (b off n : Nat) : (⟨b, off, none⟩ : Addr).add n = ⟨b, off + n, none⟩ := by
  unfold Addr.add
  split <;> simp_all
theorem fields36 : ∃ f0 f1 f2 f3 f4 : Field, Tryd.prog.underlying 36 = some (.struct #[f0, f1, f2, f3, f4]) ∧ (f0.offset = 0 ∧ f1.offset = 1 ∧ f2.offset = 2 ∧ f3.offset = 3 ∧ f4.offset = 4) ∧ (f0.type = 3 ∧ f1.type = 9 ∧ f2.type = 3 ∧ f3.type = 3 ∧ f4.type = 9) := ⟨_, _, _, _, _, Tryd.underlying36, ⟨rfl, rfl, rfl, rfl, rfl⟩, ⟨rfl, rfl, rfl, rfl, rfl⟩⟩
theorem cells3 : Tryd.prog.cellsOf 3 = 1 := by kernel_rfl
theorem cells9 : Tryd.prog.cellsOf 9 = 1 := by kernel_rfl
theorem cells36 : Tryd.prog.cellsOf 36 = 5 := by kernel_rfl
theorem bytes36 : 1 ≤ Tryd.prog.bytesOf 36 := by rw [show Tryd.prog.bytesOf 36 = 56 by kernel_rfl]; decide
set_option maxRecDepth 100000 in
theorem dec36 {H : Type} {enc : TypeId × Value → H} {W : World} {base : Nat} {spare : Nat → Bool} {held : Bool} (n : Nat) (cs : List Value) (x : DataW H × List MemPlace) (hl : cs.length = 5) (h : DataW.trod enc Tryd.prog W base spare held n 36 cs = some x) :
    ∃ q : Pce, cs = q.arr.toList ∧ (I64 q.k ∧ I64 q.n ∧ I64 q.g) ∧ (q.nm.size ∈ x.1.weights Tryd.prog 36 ∧ q.nt.size ∈ x.1.weights Tryd.prog 36) := by
  obtain ⟨f0, f1, f2, f3, f4, he, ⟨o0, o1, o2, o3, o4⟩, ⟨t0, t1, t2, t3, t4⟩⟩ := fields36
  obtain ⟨xs, k, hk, hxy, _, hxl, hff⟩ := DataW.trod_struct he h
  match xs, hxl, cs, hl with
  | [y0, y1, y2, y3, y4], _, [v0, v1, v2, v3, v4], _ =>
    have g0 := hff 0 f0 rfl
    have g1 := hff 1 f1 rfl
    have g2 := hff 2 f2 rfl
    have g3 := hff 3 f3 rfl
    have g4 := hff 4 f4 rfl
    simp [o0, o1, o2, o3, o4, t0, t1, t2, t3, t4, cells3, cells9] at g0 g1 g2 g3 g4
    obtain ⟨n0, hv0, hd0, w0⟩ := DataW.trod_int Tryd.underlying3 g0
    obtain ⟨n1, hv1, hd1, w1⟩ := DataW.trod_string Tryd.underlying9 g1
    obtain ⟨n2, hv2, hd2, w2⟩ := DataW.trod_int Tryd.underlying3 g2
    obtain ⟨n3, hv3, hd3, w3⟩ := DataW.trod_int Tryd.underlying3 g3
    obtain ⟨n4, hv4, hd4, w4⟩ := DataW.trod_string Tryd.underlying9 g4
    simp at hv0 hv1 hv2 hv3 hv4
    subst hv0 hv1 hv2 hv3 hv4
    refine ⟨⟨n0, n1, n2, n3, n4⟩, rfl, ⟨wf_le w0, wf_le w2, wf_le w3⟩, ?_⟩
    have e1 : n1.data.toList.length = n1.size := Array.length_toList
    have e4 : n4.data.toList.length = n4.size := Array.length_toList
    rw [hxy]
    simp only
    unfold DataW.weights
    rw [he]
    simp [DataW.weightsEach, hd0, hd1, hd2, hd3, hd4, DataW.weights, e1, e4]
theorem all_mem {H : Type} {P : Program} {e : TypeId} : ∀ {ds : List (DataW H)} {d : DataW H}, d ∈ ds → ∀ n ∈ d.weights P e, n ∈ DataW.weightsAll P e ds := by
  intro ds
  induction ds with
  | nil => intro d h; simp at h
  | cons a r ih =>
    intro d h n hn
    unfold DataW.weightsAll
    rcases List.mem_cons.1 h with rfl | h
    · exact List.mem_append_left _ hn
    · exact List.mem_append_right _ (ih h n hn)
set_option maxRecDepth 100000 in
/-- a slice of pieces that came in -/
theorem pieces_in {H : Type} {enc : TypeId × Value → H} {W : World} {a : Option Addr} {len cap : Nat} {d : DataW H} {ps : List MemPlace} {base : Nat} {spare : Nat → Bool} {held : Bool}
    (h : DataW.Trod enc Tryd.prog W base spare held 31 (.slice a len cap) d ps) (hw : ∀ n ∈ d.weights Tryd.prog 31, n ≤ reachBytes) : ∃ ss : List Pce, ss.length = len ∧ Rw5 W a ss ∧ (∀ q ∈ ss, q.ok) ∧ ss.length ≤ 140737488355328 := by
  have hr : reachBytes ≤ 140737488355328 := by decide
  obtain ⟨fuel, hf⟩ := h
  rcases DataW.trod_slice Tryd.underlying31 hf with ⟨hcs, _⟩ | ⟨y, l, c, elems, rest, n, _, hcs, hx, hb', hl, hmx, hel, hi, _, _⟩
  · simp [Value.cells] at hcs
    obtain ⟨rfl, rfl, rfl⟩ := hcs
    exact ⟨[], rfl, .inl rfl, fun q hq => by simp at hq, by simp⟩
  · simp [Value.cells] at hcs
    obtain ⟨rfl, rfl, rfl⟩ := hcs
    by_cases hz : len = 0
    · subst hz
      exact ⟨[], rfl, .inl rfl, fun q hq => by simp at hq, by simp⟩
    have e1 : d = .slice (elems.map (·.1)) (rest.map (·.1)) := by simpa using congrArg Prod.fst hx
    rw [e1] at hw
    unfold DataW.weights at hw
    rw [Tryd.underlying31] at hw
    simp only at hw
    have hlen : len ≤ 140737488355328 := by
      have := hw _ (List.mem_cons_self ..)
      simp only [List.length_map] at this
      have b := bytes36
      have : (elems.length + rest.length) * 1 ≤ (elems.length + rest.length) * Tryd.prog.bytesOf 36 := Nat.mul_le_mul_left _ b
      omega
    have each : ∀ i, i < len → ∃ q : Pce, (∀ r, r < 5 → W.cell? ((y.add (i * 5)).add r) = q.arr[r]?) ∧ q.ok := by
      intro i hi'
      have hh := hi i hi'
      have hie : i < elems.length := by omega
      rw [List.getElem?_eq_getElem hie, Option.bind_eq_some_iff, cells36] at hh
      obtain ⟨cs', h1, h2⟩ := hh
      obtain ⟨_, hlen', hcell⟩ := World.cells?_some h1
      obtain ⟨q, rfl, hI, hn1, hn2⟩ := dec36 _ cs' _ hlen' h2
      have hm : elems[i].1 ∈ elems.map (·.1) := List.mem_map.2 ⟨_, List.getElem_mem hie, rfl⟩
      have hb : ∀ z ∈ elems[i].1.weights Tryd.prog 36, z ≤ 140737488355328 := fun z hz' => Nat.le_trans (hw z (List.mem_cons_of_mem _ (List.mem_append_left _ (all_mem hm z hz')))) hr
      refine ⟨q, fun r hr => ?_, hI, hb _ hn1, hb _ hn2⟩
      have := hcell r hr
      rw [this]
      simp
    haveI : Inhabited Pce := ⟨⟨0, ByteArray.empty, 0, 0, ByteArray.empty⟩⟩
    obtain ⟨op, hop⟩ := Go.Deep.choose_lt each
    have hc0 : W.cell? ((y.add (0 * 5)).add 0) = some (.int .i64 (op 0).k) := ((hop 0 (by omega)).1 0 (by omega)).trans rfl
    obtain ⟨b, off, spot⟩ := y
    have hspot : spot = none := by simpa [Addr.add] using World.cell?_spot hc0
    subst hspot
    have hbl : b < W.heap.size := World.block_lt_of_cell? W _ (by simpa [Addr.add] using hc0)
    refine ⟨(List.range len).map op, by simp, .inr ⟨b, off, rfl, hbl, fun j x hx r hr => ?_⟩, ?_, by simpa using hlen⟩
    · have hj' : j < len := by
        have := (List.getElem?_eq_some_iff.1 hx).1
        simpa using this
      rw [List.getElem?_map, List.getElem?_range hj'] at hx
      simp only [Option.map_some, Option.some.injEq] at hx
      subst hx
      have := (hop j hj').1 r hr
      rw [add_off, add_off] at this
      exact this
    · intro q hq
      obtain ⟨i, hi1, rfl⟩ := List.mem_map.1 hq
      exact (hop i (by simpa using hi1)).2
theorem own : ownKnob Tryd.prog.godebug = none := by kernel_rfl

theorem door_met (os : Os) (args : Array Value) : laidMetH Tryd.prog Rows.lexGapsRow.laid ((World.doorLaid Tryd.prog 2000 os).forCall (fun _ _ => 0) ⟨#[], args, []⟩).memory :=
  laidMetH_of_parts3 (fuel := 8) (laidMet_of_run' 8 (by kernel_rfl) (by kernel_rfl)) (by kernel_rfl) (by kernel_rfl)


set_option maxRecDepth 100000 in
theorem lifted (os : Os) (started : os.Started) (H : Type) (enc : TypeId × Value → H) :
    ReturnsInHanded {} Tryd.checked os 4 .any (fun w args => (Rows.lexGapsSpec.pre enc Tryd.prog Tryd.f4 [] false w args ∧ laidMetH Tryd.prog Rows.lexGapsRow.laid w) ∧ sizedMet enc Tryd.prog Tryd.f4 (OpenSpec.ofChange Rows.lexGapsSpec) false w args)
      (Rows.lexGapsSpec.post enc Tryd.prog Tryd.f4 false true false false) := by
  refine returnsInHanded_of_change_and (C := Tryd.checked) (X := fun w _ => laidMetH Tryd.prog Rows.lexGapsRow.laid w) (fun _ _ _ hh h => h.of_heap hh) own started (by kernel_rfl) Tryd.func4
    (ChangeSpec.witness_shaped (enc := enc) (C := Tryd.checked) (os := os) (X := fun w _ => laidMetH Tryd.prog Rows.lexGapsRow.laid w) false (World.doorLaid Tryd.prog 2000 os) #[.slice none 0 0, .int .i64 0, .string .empty] 8 rfl (World.shaped_of_RefB (by kernel_rfl) (by kernel_rfl)) (by kernel_rfl) (by kernel_rfl) (by kernel_rfl) (door_met os _)) ?_
  intro W base args ds gs before hval0 hW hx1 hx2 hL hx3
  have hval : ∀ (j : Nat) t v, Tryd.f4.params[j]? = some t → args[j]? = some v → Value.okWide Tryd.prog W .any base t v := hval0
  have hW' := hW
  obtain ⟨p, q, hA0, hV, rfl, hfz, hnd⟩ := hW
  have hA : DataW.TrodAll enc Tryd.prog W 0 (fun _ => true) true Tryd.f4.params.toList args.toList ds p := hA0
  rw [Tryd.params4] at hA hval
  obtain ⟨v0, vs0, d0, ds0, p0, q0, hargs, rfl, rfl, h0, r0⟩ := trodAll_cons hA
  obtain ⟨v1, vs1, d1, ds1, p1, q1, rfl, rfl, rfl, h1, r1⟩ := trodAll_cons r0
  obtain ⟨v2, vs2, d2, ds2, p2, q2, rfl, rfl, rfl, h2, r2⟩ := trodAll_cons r1
  obtain ⟨rfl, rfl, rfl⟩ := trodAll_nil r2
  obtain rfl : args = #[v0, v1, v2] := by cases args; simp_all
  obtain ⟨rfl, rfl⟩ := trodVars_none hV
  have k0 := h0
  have lt0 : ∀ x ∈ p0, x.block < W.heap.size := by obtain ⟨m, hm⟩ := k0; exact DataW.trod_lt m _ _ _ hm
  obtain ⟨a0, len0, cap0, rfl⟩ := okWide_slice Tryd.underlying31 (hval 0 31 v0 rfl rfl)
  obtain ⟨xs, hlen0, hI0, hok0, hll⟩ := pieces_in h0 (fun n hn => of_decide_eq_true (List.all_eq_true.1 hx2 n (DataW.weights_mem_each (j := 0) (t := 31) (by rw [Tryd.params4]; rfl) rfl n hn)))
  subst hlen0
  obtain ⟨n, rfl, rfl, rfl, hn⟩ := open_int Tryd.underlying3 (hval 1 3 v1 rfl rfl) h1
  obtain ⟨s, rfl, rfl, rfl, hmax⟩ := open_string Tryd.underlying9 (hval 2 9 v2 rfl rfl) h2
  clear hA0 hval0
  simp only [List.append_nil] at hW'
  have hs : s.size ≤ 140737488355328 := by
    have hb := sized_string hx2 (j := 2) (t := 9) (bytes := s.data.toList) (by rw [Tryd.params4]; rfl) rfl
    have e : s.data.toList.length = s.size := by rw [Array.length_toList]; rfl
    rw [e] at hb
    have hr : reachBytes ≤ 140737488355328 := by decide
    exact Nat.le_trans hb hr
  refine (gaps_walk xs a0 cap0 n s W hI0 hok0 hll (wf_le hn) hs).mono fun e W' ⟨he, bel⟩ => ?_
  subst he
  exact ⟨_, rfl, _, _, _, [], _, [], hW', trodAll_mk1 (shut_bool Tryd.underlying4 _), (trodAll_cons_mk (Below.trod laidOut (by kernel_rfl) (of_decide_eq_true (by kernel_rfl)) k0 bel lt0) (trodAll_cons_mk (shut_int Tryd.underlying3 hn) (trodAll_cons_mk (shut_string Tryd.underlying9 hmax) trodAll_mk0))), rfl, bel.frame _, fun h => by cases h⟩

theorem row : Rows.LexGapsSaid :=
  OpenClaim.holds_of_wide 4 Tryd.f4 rfl rfl rfl rfl rfl rfl rfl ⟨rfl, rfl, rfl, rfl, rfl⟩ rfl rfl rfl rfl rfl (by kernel_rfl) Tryd.func4 (by kernel_rfl)
    (of_decide_eq_true (by kernel_rfl)) (by unfold Func.isWrapper; first | (rw [if_pos (by decide +kernel)]; kernel_rfl) | (rw [if_neg (by decide +kernel)]; exact ⟨rfl, rfl⟩))
    (fun os started H enc _ => lifted os started H enc)
end lexGaps

theorem lexGaps_holds : Rows.LexGapsCardSaid :=
  Claim7.holds_tied_plain_at .later [] _ _ _ _
    lexGaps.row (fun _ h => by cases h) (by kernel_rfl) (fun _ h => by cases h) lexGaps_row_tie rfl ⟨rfl, rfl⟩ (by kernel_rfl) rfl
    (fun f fn hf hfn => by
      have hname : Tryd.prog.funcNamed Rows.lexGapsRow.func = some 4 := by kernel_rfl
      obtain rfl : f = 4 := Option.some.inj (hname.symm.trans hf) |>.symm
      obtain rfl : fn = Tryd.f4 := (Option.some.inj (Tryd.func4.symm.trans hfn)).symm
      exact ⟨by kernel_rfl, fun j t ht => by
        rw [Tryd.params4] at ht
        have hm : t ∈ [31, 3, 9] := by simpa using Array.mem_of_getElem? ht
        have hall : ([31, 3, 9].all fun u => !Tryd.prog.wantsStandIn u) = true := by kernel_rfl
        exact (show Tryd.prog.wantsStandIn t = false by simpa using List.all_eq_true.1 hall t hm)⟩)
    (by kernel_rfl)
#print axioms lexGaps_holds
end Go.Proofs.YtpnkfbmdpgdbcaaDoor
