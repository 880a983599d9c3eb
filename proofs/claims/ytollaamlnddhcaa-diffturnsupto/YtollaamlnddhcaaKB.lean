import Derived.Test.YtollaamlnddhcaaRed
import Derived.Test.YtollaamlnddhcaaKM
import Derived.Deep.RegionHeld3
set_option linter.unusedVariables false
set_option linter.unusedSimpArgs false
namespace Go.Proofs.Ytollaamlnddhcaa
open Go.RowKit Go.Maps
namespace U
/-- the actions of which a rule speaks -/
def acts (al rl : List ByteArray) : List ByteArray := if rl = [] then al else rl
def pls (al l : List ByteArray) : List Int := l.flatMap (Pl.plc al)
theorem pls_take {al l : List ByteArray} {i : Nat} {a : ByteArray} (h : l[i]? = some a) : pls al (l.take (i + 1)) = pls al (l.take i) ++ Pl.plc al a := by unfold pls; rw [List.take_add_one, h]; simp
theorem pls_len (al l : List ByteArray) : (pls al l).length ≤ l.length * al.length := by
  induction l with
  | nil => simp [pls]
  | cons a l ih =>
    have e : pls al (a :: l) = Pl.plc al a ++ pls al l := by simp [pls]
    have := Pl.plc_len al a
    rw [e, List.length_append, List.length_cons, Nat.succ_mul]
    omega
theorem int_cells (zs : List Int) : (zs.flatMap I.cells).length = zs.length := by rw [I.flat_map, List.length_map]
/-- what stands while a rule is read -/
structure Gx (q2 q4 q5 : Nat) (rd : Array Value) (wh : ByteArray) (s : Int) (v : Value) (w V : World) : Prop where
  b : Below w.heap.size w V
  h2 : V.heap[q2]? = some (.cells rd 87 (0, 0))
  h4 : V.heap[q4]? = some (.cells #[.string ⟨#[]⟩, .int .i8 0, .slice none 0 0] 124 (0, 0))
  h5 : V.heap[q5]? = some (.cells #[.string wh, .int .i8 s, v] 124 (0, 0))
theorem Gx.turn {q2 q4 q5 : Nat} {rd : Array Value} {wh : ByteArray} {s : Int} {v : Value} {w V V' : World} {T : Nat → Prop} (h : Gx q2 q4 q5 rd wh s v w V) (t : Turn T V V') (n2 : ¬ T q2) (n4 : ¬ T q4) (n5 : ¬ T q5) (hB : ∀ j, T j → w.heap.size ≤ j) : Gx q2 q4 q5 rd wh s v w V' :=
  ⟨h.b.trans (below_own t hB h.b.size), (t.block _ (lt_of_heap h.h2) n2).trans h.h2, (t.block _ (lt_of_heap h.h4) n4).trans h.h4, (t.block _ (lt_of_heap h.h5) n5).trans h.h5⟩
theorem Gx.put {q2 q4 q5 : Nat} {rd : Array Value} {wh : ByteArray} {s : Int} {v : Value} {w V : World} (h : Gx q2 q4 q5 rd wh s v w V) (n2 : q2 ≠ q5) (n4 : q4 ≠ q5) (hB : w.heap.size ≤ q5) (v' : Value) : Gx q2 q4 q5 rd wh s v' w (V.setCell ⟨q5, 2, none⟩ v') := by
  have t : Turn (fun j => j = q5) V (V.setCell ⟨q5, 2, none⟩ v') := (Turn.refl (fun j => j = q5) V).setCell (p := ⟨q5, 2, none⟩) (fun _ => rfl) _
  refine ⟨h.b.trans (below_own t (fun j e => by rw [e]; exact hB) h.b.size), (t.block _ (lt_of_heap h.h2) n2).trans h.h2, (t.block _ (lt_of_heap h.h4) n4).trans h.h4, ?_⟩
  simp [World.setCell, Array.getElem?_modify, h.h5]
/-- three cells are written over -/
structure Sto3 (ty rb : Nat) (w : World) : Prop where
  c0 : ∃ a, w.cell? ⟨rb, 0, none⟩ = some a
  f0 : w.frozen? ⟨rb, 0, none⟩ = false
  c1 : ∀ u, ∃ a, (w.setCell ⟨rb, 0, none⟩ u).cell? ⟨rb, 1, none⟩ = some a
  f1 : ∀ u, (w.setCell ⟨rb, 0, none⟩ u).frozen? ⟨rb, 1, none⟩ = false
  c2 : ∀ u v, ∃ a, ((w.setCell ⟨rb, 0, none⟩ u).setCell ⟨rb, 1, none⟩ v).cell? ⟨rb, 2, none⟩ = some a
  f2 : ∀ u v, ((w.setCell ⟨rb, 0, none⟩ u).setCell ⟨rb, 1, none⟩ v).frozen? ⟨rb, 2, none⟩ = false
  fin : ∀ u v x, (((w.setCell ⟨rb, 0, none⟩ u).setCell ⟨rb, 1, none⟩ v).setCell ⟨rb, 2, none⟩ x).heap[rb]? = some (.cells #[u, v, x] ty (0, 0))
  tt : ∀ u v x, Turn (fun j => j = rb) w (((w.setCell ⟨rb, 0, none⟩ u).setCell ⟨rb, 1, none⟩ v).setCell ⟨rb, 2, none⟩ x)
theorem sto3 {ty rb : Nat} {w : World} {a0 a1 a2 : Value} (h : w.heap[rb]? = some (.cells #[a0, a1, a2] ty (0, 0))) : Sto3 ty rb w where
  c0 := ⟨a0, by rw [Lib.cell_of_heap h]; rfl⟩
  f0 := Lib.frozen_of_heap h 0
  c1 := fun u => ⟨a1, by rw [World.cell?_setCell_other _ _ _ _ (by simp), Lib.cell_of_heap h]; rfl⟩
  f1 := fun u => by rw [World.frozen?_setCell]; exact Lib.frozen_of_heap h 1
  c2 := fun u v => ⟨a2, by rw [World.cell?_setCell_other _ _ _ _ (by simp), World.cell?_setCell_other _ _ _ _ (by simp), Lib.cell_of_heap h]; rfl⟩
  f2 := fun u v => by rw [World.frozen?_setCell, World.frozen?_setCell]; exact Lib.frozen_of_heap h 2
  fin := fun u v x => by simp [World.setCell, Array.getElem?_modify, h]
  tt := fun u v x => (((Turn.refl (fun j => j = rb) w).setCell (p := ⟨rb, 0, none⟩) (fun _ => rfl) _).setCell (p := ⟨rb, 1, none⟩) (fun _ => rfl) _).setCell (p := ⟨rb, 2, none⟩) (fun _ => rfl) _
theorem Gx.start (rd ru : Array Value) (wh : ByteArray) (s : Int) (w : World) : Gx w.heap.size (w.heap.size + 1 + 1) (w.heap.size + 1 + 1 + 1) rd wh s (.slice none 0 0) w ((((w.alloc (.cells rd 87)).alloc (.cells ru 65)).alloc (.cells #[.string ⟨#[]⟩, .int .i8 0, .slice none 0 0] 124)).alloc (.cells #[.string wh, .int .i8 s, .slice none 0 0] 124)) := by
  have b0 : Below w.heap.size w (w.alloc (.cells rd 87)) := (Below.refl _ _).alloc (Nat.le_refl _) _
  have b1 : Below w.heap.size w ((w.alloc (.cells rd 87)).alloc (.cells ru 65)) := b0.alloc (by simp) _
  have b2 : Below w.heap.size w (((w.alloc (.cells rd 87)).alloc (.cells ru 65)).alloc (.cells #[.string ⟨#[]⟩, .int .i8 0, .slice none 0 0] 124)) := b1.alloc (by simp; omega) _
  have b3 := b2.alloc (by simp; omega) (.cells #[.string wh, .int .i8 s, .slice none 0 0] 124)
  have z1 : (w.alloc (.cells rd 87)).heap.size = w.heap.size + 1 := by simp
  have z2 : ((w.alloc (.cells rd 87)).alloc (.cells ru 65)).heap.size = w.heap.size + 1 + 1 := by simp
  have z3 : (((w.alloc (.cells rd 87)).alloc (.cells ru 65)).alloc (.cells #[.string ⟨#[]⟩, .int .i8 0, .slice none 0 0] 124)).heap.size = w.heap.size + 1 + 1 + 1 := by simp
  have a0 := heap_alloc_new w (.cells rd 87)
  have a2 := heap_alloc_new ((w.alloc (.cells rd 87)).alloc (.cells ru 65)) (.cells #[.string ⟨#[]⟩, .int .i8 0, .slice none 0 0] 124)
  have a3 := heap_alloc_new (((w.alloc (.cells rd 87)).alloc (.cells ru 65)).alloc (.cells #[.string ⟨#[]⟩, .int .i8 0, .slice none 0 0] 124)) (.cells #[.string wh, .int .i8 s, .slice none 0 0] 124)
  rw [z2] at a2
  rw [z3] at a3
  refine ⟨b3, ?_, ?_, a3⟩
  · exact (Below.heap_alloc _ _ _ (by rw [z3]; omega)).trans ((Below.heap_alloc _ _ _ (by rw [z2]; omega)).trans ((Below.heap_alloc _ _ _ (by rw [z1]; omega)).trans a0))
  · exact (Below.heap_alloc _ _ _ (by rw [z3]; omega)).trans a2
theorem news_of {ao : Option Addr} {zs : List Int} {w : World} (h : I.Ints ao zs w) : ∀ ad, ao = some ad → ∀ j u, (zs.flatMap I.cells)[j]? = some u → w.cell? (ad.add j) = some u := by
  intro ad e j u hj
  rw [I.flat_map, List.getElem?_map] at hj
  rcases h with rfl | ⟨b, off, h1, _, h3⟩
  · simp at hj
  · rw [h1] at e
    cases e
    cases hz : zs[j]? with
    | none => rw [hz] at hj; cases hj
    | some k =>
      rw [hz] at hj
      simp only [Option.map_some, Option.some.injEq] at hj
      subst hj
      have q := h3 j k hz
      cases j with
      | zero => simpa [Addr.add] using q
      | succ j => simpa [Addr.add] using q
/-- append of a slice of numbers to a row of one's own -/
theorem wpList_appI {w : World} {ops : Array Oper} {rest : List Oper} {o : Oper} {a : Act} {Q : Exit → Act → World → Prop} (hw : Region.wanted o (yielded ops a.tmps) = true) (s x : Operand) (ho : o.op = .call { callee := .builtin .append, args := #[s, x], argTypes := #[101, 101] })
    (B : Nat) (po : Option Addr) (pc : Nat) (zs zs' ns : List Int) (hzs : zs' = zs ++ ns) (hs : a.eval s = .slice po zs.length pc) (hrow : I.RowI B po pc zs w) (bo : Option Addr) (m c : Nat) (hm : m = ns.length) (hx : a.eval x = .slice bo m c) (hnil : bo = none → m = 0 ∧ c = 0) (hI : I.Ints bo ns w) (hb : zs'.length ≤ 4398046511104) (hB : B ≤ w.heap.size)
    (h : ∀ po' pc' w', I.RowI B po' pc' zs' w' → Turn (I.At po) w w' → wpList Try.prog ops Q rest (a.put o.dst (.slice po' zs'.length pc')) w') : wpList Try.prog ops Q (o :: rest) a w := by
  obtain ⟨i0, hi, hz0, hz1, hz2⟩ := info_parts I.infoE
  subst hm
  subst hzs
  rw [List.length_append] at hb
  refine wpList_append_src hw s x 101 ho B 3 i0 (.int .i64 0) 1 8 Try.underlying101 hi hz0 hz1 hz2 rfl (by decide) _ zs.length (zs.flatMap I.cells) hs hrow bo ns.length c (ns.flatMap I.cells) hx hnil (by rw [I.flat_map, List.length_map, Nat.mul_one]) (news_of hI) (fun u hu => ?_) (by unfold maxLen; omega) (by omega) hB ?_
  · rw [I.flat_map, List.mem_map] at hu
    obtain ⟨k, _, rfl⟩ := hu
    rfl
  intro v' w' ho' hg' _
  have t : Turn (I.At po) w w' := (Turn.refl _ w).grown hg' (fun j hj _ => by
    cases po with
    | none => cases hj
    | some ad => exact ⟨ad, rfl, by simpa [Value.ownBlock] using hj.symm⟩)
  have hex : ∃ po' pc', v' = .slice po' (zs.length + ns.length) pc' := by
    rcases ho'.2 with ⟨hv, h0⟩ | ⟨g, cap', cur, hv, _⟩
    · exact ⟨none, 0, by rw [hv, h0]⟩
    · exact ⟨_, _, hv⟩
  obtain ⟨po', pc', hv⟩ := hex
  rw [hv] at ho' ⊢
  have := h po' pc' w' (by unfold I.RowI; rw [List.length_append, List.flatMap_append]; exact ho') t
  rw [List.length_append] at this
  exact this
/-- what ruling tells -/
def RulIs (al : List ByteArray) (R : Ru) (w : World) (e : Ending) (w' : World) : Prop := ∃ po pc, e = .returned (.agg #[.string R.what, .int .i8 (if den R then 2 else 1), .slice po (pls al (acts al R.rl)).length pc]) ∧ I.RowI w.heap.size po pc (pls al (acts al R.rl)) w' ∧ Below w.heap.size w w'
set_option maxRecDepth 100000 in
set_option maxHeartbeats 4000000 in
theorem ruling_any (F : Pf) (ao : Option Addr) (ac : Nat) (al : List ByteArray) (qp qx B : Nat) (f : ByteArray → Option V3) (R : Ru) (w : World) (hL : Pl.Lm qp B al f w) (ha : S.Ints ao al w) (hac : al.length ≤ ac) (hal : al.length ≤ 1048576) (hak : ∀ a ∈ al, S.okk a) (hR : Ok3 S.Ints (R.ro, R.rc, R.rl) w) (hRl : R.rl.length ≤ 1048576) (hRd : ∃ b, R.d = .bool b) (hRk : ∀ a ∈ R.rl, S.okk a) : Calls Try.prog 70 #[.agg #[.slice ao al.length ac, .map (some qp), .slice F.u.1 F.u.2.2.length F.u.2.1, .map (some qx)], R.val] w fun e w' => RulIs al R w e w' := by
  obtain ⟨d, who, what, ro, rc, rl, cd, lv⟩ := R
  obtain ⟨hRi, hRc, hRn⟩ := hR
  simp only at hRi hRc hRn hRl hRd hRk
  obtain ⟨bv, rfl⟩ := hRd
  have HL := hide' hL
  have HA := hide' ha
  have HRi := hide' hRi
  have HK := hide' hak
  have HRk := hide' hRk
  have hal64 : (al.length : Int) ≤ 1048576 := by omega
  have hrl64 : (rl.length : Int) ≤ 1048576 := by omega
  clear hL ha hak hRi hRk hRn
  cases bv with
  | false =>
    by_cases hr : rl = []
    · subst hr
      clear HRi HRk
      unfold Ru.val
      simp only [List.length_nil]
      go_enter Try.func70, Try.ntmps70
      go_wp2_with fail
      have G0 : Hid (Gx w.heap.size (w.heap.size + 1 + 1) (w.heap.size + 1 + 1 + 1) #[.slice ao al.length ac, .map (some qp), .slice F.u.1 F.u.2.2.length F.u.2.1, .map (some qx)] what 1 (.slice none 0 0) w ((((w.alloc (.cells #[.slice ao al.length ac, .map (some qp), .slice F.u.1 F.u.2.2.length F.u.2.1, .map (some qx)] 87)).alloc (.cells #[.bool false, .string who, .string what, .slice ro 0 rc, .int .i8 cd, .float .f64 lv] 65)).alloc (.cells #[.string ⟨#[]⟩, .int .i8 0, .slice none 0 0] 124)).alloc (.cells #[.string what, .int .i8 1, .slice none 0 0] 124)) ∧ (w.heap.size ≠ w.heap.size + 1 + 1 + 1 ∧ w.heap.size + 1 + 1 ≠ w.heap.size + 1 + 1 + 1 ∧ w.heap.size ≤ w.heap.size + 1 + 1 + 1 ∧ w.heap.size ≤ w.heap.size + 1 + 1)) := ⟨Gx.start _ _ _ _ _, by omega, by omega, by omega, by omega⟩
      generalize (((w.alloc (.cells #[.slice ao al.length ac, .map (some qp), .slice F.u.1 F.u.2.2.length F.u.2.1, .map (some qx)] 87)).alloc (.cells #[.bool false, .string who, .string what, .slice ro 0 rc, .int .i8 cd, .float .f64 lv] 65)).alloc (.cells #[.string ⟨#[]⟩, .int .i8 0, .slice none 0 0] 124)).alloc (.cells #[.string what, .int .i8 1, .slice none 0 0] 124) = V0 at *
      obtain ⟨q2, hq2⟩ : ∃ q2, q2 = w.heap.size := ⟨_, rfl⟩
      generalize w.heap.size + 1 + 1 + 1 = q5 at *
      generalize w.heap.size + 1 + 1 = q4 at *
      generalize w.heap.size + 1 = q3 at *
      have G1 : Hid (Gx q2 q4 q5 #[.slice ao al.length ac, .map (some qp), .slice F.u.1 F.u.2.2.length F.u.2.1, .map (some qx)] what 1 (.slice none 0 0) w V0 ∧ (q2 ≠ q5 ∧ q4 ≠ q5 ∧ w.heap.size ≤ q5 ∧ w.heap.size ≤ q4)) := by rw [hq2]; exact G0
      clear G0
      rw [← hq2]
      clear hq2
      have HN := hide' G1.out.2
      go_loopw [24] (fun iv wx => ∃ (i : Nat) (po : Option Addr) (pc : Nat), iv = .int .i64 (i : Int) ∧ i ≤ al.length ∧ Hid (Gx q2 q4 q5 #[.slice ao al.length ac, .map (some qp), .slice F.u.1 F.u.2.2.length F.u.2.1, .map (some qx)] what 1 (.slice po (pls al (al.take i)).length pc) w wx ∧ I.RowI w.heap.size po pc (pls al (al.take i)) wx)) (fun iv _ => al.length - (intOf iv).toNat)
      case atStart => exact ⟨0, none, 0, rfl, Nat.zero_le _, G1.out.1, I.RowI.nil _ _⟩
      case round =>
        obtain ⟨i, po, pc, rfl, hil, HM⟩ := hrel
        clear G1
        by_cases hlt : i < al.length
        · have hlt' : (i : Int) < (al.length : Int) := by omega
          obtain ⟨a, ha⟩ : ∃ a, al[i]? = some a := ⟨_, List.getElem?_eq_getElem hlt⟩
          obtain ⟨ab, off, hao, hab, x0⟩ := HA.out.at ha
          have d0 := (HM.out.1.b.cell (p := ⟨ab, off + i, none⟩) hab).trans x0
          have hk : Hid (S.okk a) := HK.out a (List.mem_of_getElem? ha)
          have htk := hide' (pls_take (al := al) ha)
          have hpl : Hid ((pls al (al.take (i + 1))).length ≤ 4398046511104) := by
            have h1 := pls_len al (al.take (i + 1))
            rw [List.length_take] at h1
            have h2 := Nat.mul_le_mul (show min (i + 1) al.length ≤ 1048576 by omega) hal
            show _ ≤ _
            omega
          have HLw := hide' (HL.out.below HM.out.1.b)
          obtain ⟨bo, m, c, hval, hll, hrow0, hcase⟩ := HLw.out.row a
          have r0 := HLw.out.run hk.out
          rw [hval] at r0
          have hnil : Hid (bo = none → m = 0 ∧ c = 0) := fun e => hcase.elim (fun q => ⟨q.2.1, q.2.2.1⟩) (fun q => by obtain ⟨g, h1, _⟩ := q; rw [e] at h1; cases h1)
          have hI := hide' hrow0.ints
          have Hll := hide' hll
          have c5 : wr.cell? ⟨q5, 2, none⟩ = some (.slice po (pls al (al.take i)).length pc) := by rw [Lib.cell_of_heap HM.out.1.h5]; rfl
          have c2 : wr.cell? ⟨q2, 1, none⟩ = some (.map (some qp)) := by rw [Lib.cell_of_heap HM.out.1.h2]; rfl
          have hkd : Hid (∀ j, I.At po j → j ≠ q2 ∧ j ≠ q4 ∧ j ≠ q5) := fun j r => by obtain ⟨cur, k⟩ := Pl.kindI HM.out.2 r; exact ⟨cells_ne k HM.out.1.h2 (by decide), cells_ne k HM.out.1.h4 (by decide), cells_ne k HM.out.1.h5 (by decide)⟩
          have hwV : Hid (w.heap.size ≤ wr.heap.size) := HM.out.1.b.size
          subst hao
          generalize pls al (al.take i) = zs at *
          generalize hzz : pls al (al.take (i + 1)) = zs' at *
          have Hzz := hide' hzz
          clear hzz hval hrow0 hcase hll ha x0 hab HLw
          go_wp2_with (at_builtin; (refine wpList_appI (by rfl) _ _ rfl w.heap.size po pc zs zs' _ htk.out rfl HM.out.2 bo m c Hll.out rfl hnil.out hI.out hpl.out hwV.out ?_; intro po1 pc1 w1 hr1 ht1; have G1 := HM.out.1.turn ht1 (fun r => (hkd.out _ r).1 rfl) (fun r => (hkd.out _ r).2.1 rfl) (fun r => (hkd.out _ r).2.2 rfl) (fun j r => (HM.out.2.lt j r).1); have k2 : w1.cell? ⟨q5, 2, none⟩ = some (.slice po zs.length pc) := (Lib.cell_of_heap G1.h5 2).trans rfl; have kf : w1.frozen? ⟨q5, 2, none⟩ = false := Lib.frozen_of_heap G1.h5 2; have GG := hide' (And.intro G1 hr1); clear G1 hr1 ht1))
          have hp := GG.out.1.put HN.out.1 HN.out.2.1 HN.out.2.2.1 (.slice po1 zs'.length pc1)
          have t5 : Turn (fun j => j = q5) w1 (w1.setCell ⟨q5, 2, none⟩ (.slice po1 zs'.length pc1)) := (Turn.refl (fun j => j = q5) w1).setCell (p := ⟨q5, 2, none⟩) (fun _ => rfl) _
          have hq := GG.out.2.turn t5 (fun j r e => by obtain ⟨cur, k⟩ := Pl.kindI GG.out.2 r; exact cells_ne k GG.out.1.h5 (by decide) e)
          exact ⟨⟨i + 1, po1, pc1, by go_num, by omega, by rw [Hzz.out]; exact ⟨hp, hq⟩⟩, by simp [intOf]; omega⟩
        · have hin : al.length = i := by omega
          have hlt' : ¬ (i : Int) < (al.length : Int) := by omega
          subst hin
          have HM2 : Hid (Gx q2 q4 q5 #[.slice ao al.length ac, .map (some qp), .slice F.u.1 F.u.2.2.length F.u.2.1, .map (some qx)] what 1 (.slice po (pls al al).length pc) w wr ∧ I.RowI w.heap.size po pc (pls al al) wr) := by have q := HM.out; rw [List.take_length] at q; exact q
          clear HM
          have hac2 : Hid (acts al [] = al) := by show _ = _; simp [acts]
          have SS := hide' (sto3 HM2.out.1.h4)
          obtain ⟨a0, c0⟩ := SS.out.c0
          have g0 := SS.out.f0
          obtain ⟨a1, c1⟩ := SS.out.c1 (.string what)
          have g1 := SS.out.f1 (.string what)
          obtain ⟨a2, c2⟩ := SS.out.c2 (.string what) (.int .i8 1)
          have g2 := SS.out.f2 (.string what) (.int .i8 1)
          have tH := SS.out.fin (.string what) (.int .i8 1) (.slice po (pls al al).length pc)
          have tT := SS.out.tt (.string what) (.int .i8 1) (.slice po (pls al al).length pc)
          have s0 : wr.cell? ⟨q5, 0, none⟩ = some (.string what) := by rw [Lib.cell_of_heap HM2.out.1.h5]; rfl
          have s1 : wr.cell? ⟨q5, 1, none⟩ = some (.int .i8 1) := by rw [Lib.cell_of_heap HM2.out.1.h5]; rfl
          have s2 : wr.cell? ⟨q5, 2, none⟩ = some (.slice po (pls al al).length pc) := by rw [Lib.cell_of_heap HM2.out.1.h5]; rfl
          have hfin : Hid (RulIs al ⟨.bool false, who, what, ro, rc, [], cd, lv⟩ w (.returned (.agg #[.string what, .int .i8 1, .slice po (pls al al).length pc])) (((wr.setCell ⟨q4, 0, none⟩ (.string what)).setCell ⟨q4, 1, none⟩ (.int .i8 1)).setCell ⟨q4, 2, none⟩ (.slice po (pls al al).length pc))) := by
            refine ⟨po, pc, by simp only [hac2.out]; rfl, ?_, HM2.out.1.b.trans (below_own tT (fun j e => by rw [e]; exact HN.out.2.2.2) HM2.out.1.b.size)⟩
            simp only [hac2.out]
            exact HM2.out.2.turn tT (fun j r e => by obtain ⟨cur, k⟩ := Pl.kindI HM2.out.2 r; exact cells_ne k HM2.out.1.h4 (by decide) e)
          clear SS tT HM2 hac2
          go_wp2_with fail
          (try simp only [Exit.inBlock, Exit.then])
          refine bodyPost_ret (results_cell_row rfl _ _ q4 124 #[.string what, .int .i8 1, .slice po (pls al al).length pc] (0, 0) _ rfl tH Try.underlying124 rfl (by kernel_rfl)) rfl ?_
          exact hfin.out
    · have hr0 : ¬ ((rl.length : Int) = 0) := by have : rl.length ≠ 0 := fun e => hr (List.eq_nil_of_length_eq_zero e); omega
      unfold Ru.val
      go_enter Try.func70, Try.ntmps70
      go_wp2_with fail
      have G0 : Hid (Gx w.heap.size (w.heap.size + 1 + 1) (w.heap.size + 1 + 1 + 1) #[.slice ao al.length ac, .map (some qp), .slice F.u.1 F.u.2.2.length F.u.2.1, .map (some qx)] what 1 (.slice none 0 0) w ((((w.alloc (.cells #[.slice ao al.length ac, .map (some qp), .slice F.u.1 F.u.2.2.length F.u.2.1, .map (some qx)] 87)).alloc (.cells #[.bool false, .string who, .string what, .slice ro rl.length rc, .int .i8 cd, .float .f64 lv] 65)).alloc (.cells #[.string ⟨#[]⟩, .int .i8 0, .slice none 0 0] 124)).alloc (.cells #[.string what, .int .i8 1, .slice none 0 0] 124)) ∧ (w.heap.size ≠ w.heap.size + 1 + 1 + 1 ∧ w.heap.size + 1 + 1 ≠ w.heap.size + 1 + 1 + 1 ∧ w.heap.size ≤ w.heap.size + 1 + 1 + 1 ∧ w.heap.size ≤ w.heap.size + 1 + 1)) := ⟨Gx.start _ _ _ _ _, by omega, by omega, by omega, by omega⟩
      generalize (((w.alloc (.cells #[.slice ao al.length ac, .map (some qp), .slice F.u.1 F.u.2.2.length F.u.2.1, .map (some qx)] 87)).alloc (.cells #[.bool false, .string who, .string what, .slice ro rl.length rc, .int .i8 cd, .float .f64 lv] 65)).alloc (.cells #[.string ⟨#[]⟩, .int .i8 0, .slice none 0 0] 124)).alloc (.cells #[.string what, .int .i8 1, .slice none 0 0] 124) = V0 at *
      obtain ⟨q2, hq2⟩ : ∃ q2, q2 = w.heap.size := ⟨_, rfl⟩
      generalize w.heap.size + 1 + 1 + 1 = q5 at *
      generalize w.heap.size + 1 + 1 = q4 at *
      generalize w.heap.size + 1 = q3 at *
      have G1 : Hid (Gx q2 q4 q5 #[.slice ao al.length ac, .map (some qp), .slice F.u.1 F.u.2.2.length F.u.2.1, .map (some qx)] what 1 (.slice none 0 0) w V0 ∧ (q2 ≠ q5 ∧ q4 ≠ q5 ∧ w.heap.size ≤ q5 ∧ w.heap.size ≤ q4)) := by rw [hq2]; exact G0
      clear G0
      rw [← hq2]
      clear hq2
      have HN := hide' G1.out.2
      rw [show ((rl.length : Int) == 0) = false from by simpa using hr0]
      go_loopw [24] (fun iv wx => ∃ (i : Nat) (po : Option Addr) (pc : Nat), iv = .int .i64 (i : Int) ∧ i ≤ rl.length ∧ Hid (Gx q2 q4 q5 #[.slice ao al.length ac, .map (some qp), .slice F.u.1 F.u.2.2.length F.u.2.1, .map (some qx)] what 1 (.slice po (pls al (rl.take i)).length pc) w wx ∧ I.RowI w.heap.size po pc (pls al (rl.take i)) wx)) (fun iv _ => rl.length - (intOf iv).toNat)
      case atStart => exact ⟨0, none, 0, rfl, Nat.zero_le _, G1.out.1, I.RowI.nil _ _⟩
      case round =>
        obtain ⟨i, po, pc, rfl, hil, HM⟩ := hrel
        clear G1
        by_cases hlt : i < rl.length
        · have hlt' : (i : Int) < (rl.length : Int) := by omega
          obtain ⟨a, ha⟩ : ∃ a, rl[i]? = some a := ⟨_, List.getElem?_eq_getElem hlt⟩
          obtain ⟨ab, off, hao, hab, x0⟩ := HRi.out.at ha
          have d0 := (HM.out.1.b.cell (p := ⟨ab, off + i, none⟩) hab).trans x0
          have hk : Hid (S.okk a) := HRk.out a (List.mem_of_getElem? ha)
          have htk := hide' (pls_take (al := al) ha)
          have hpl : Hid ((pls al (rl.take (i + 1))).length ≤ 4398046511104) := by
            have h1 := pls_len al (rl.take (i + 1))
            rw [List.length_take] at h1
            have h2 := Nat.mul_le_mul (show min (i + 1) rl.length ≤ 1048576 by omega) hal
            show _ ≤ _
            omega
          have HLw := hide' (HL.out.below HM.out.1.b)
          obtain ⟨bo, m, c, hval, hll, hrow0, hcase⟩ := HLw.out.row a
          have r0 := HLw.out.run hk.out
          rw [hval] at r0
          have hnil : Hid (bo = none → m = 0 ∧ c = 0) := fun e => hcase.elim (fun q => ⟨q.2.1, q.2.2.1⟩) (fun q => by obtain ⟨g, h1, _⟩ := q; rw [e] at h1; cases h1)
          have hI := hide' hrow0.ints
          have Hll := hide' hll
          have c5 : wr.cell? ⟨q5, 2, none⟩ = some (.slice po (pls al (rl.take i)).length pc) := by rw [Lib.cell_of_heap HM.out.1.h5]; rfl
          have c2 : wr.cell? ⟨q2, 1, none⟩ = some (.map (some qp)) := by rw [Lib.cell_of_heap HM.out.1.h2]; rfl
          have hkd : Hid (∀ j, I.At po j → j ≠ q2 ∧ j ≠ q4 ∧ j ≠ q5) := fun j r => by obtain ⟨cur, k⟩ := Pl.kindI HM.out.2 r; exact ⟨cells_ne k HM.out.1.h2 (by decide), cells_ne k HM.out.1.h4 (by decide), cells_ne k HM.out.1.h5 (by decide)⟩
          have hwV : Hid (w.heap.size ≤ wr.heap.size) := HM.out.1.b.size
          subst hao
          generalize pls al (rl.take i) = zs at *
          generalize hzz : pls al (rl.take (i + 1)) = zs' at *
          have Hzz := hide' hzz
          clear hzz hval hrow0 hcase hll ha x0 hab HLw
          go_wp2_with (at_builtin; (refine wpList_appI (by rfl) _ _ rfl w.heap.size po pc zs zs' _ htk.out rfl HM.out.2 bo m c Hll.out rfl hnil.out hI.out hpl.out hwV.out ?_; intro po1 pc1 w1 hr1 ht1; have G1 := HM.out.1.turn ht1 (fun r => (hkd.out _ r).1 rfl) (fun r => (hkd.out _ r).2.1 rfl) (fun r => (hkd.out _ r).2.2 rfl) (fun j r => (HM.out.2.lt j r).1); have k2 : w1.cell? ⟨q5, 2, none⟩ = some (.slice po zs.length pc) := (Lib.cell_of_heap G1.h5 2).trans rfl; have kf : w1.frozen? ⟨q5, 2, none⟩ = false := Lib.frozen_of_heap G1.h5 2; have GG := hide' (And.intro G1 hr1); clear G1 hr1 ht1))
          have hp := GG.out.1.put HN.out.1 HN.out.2.1 HN.out.2.2.1 (.slice po1 zs'.length pc1)
          have t5 : Turn (fun j => j = q5) w1 (w1.setCell ⟨q5, 2, none⟩ (.slice po1 zs'.length pc1)) := (Turn.refl (fun j => j = q5) w1).setCell (p := ⟨q5, 2, none⟩) (fun _ => rfl) _
          have hq := GG.out.2.turn t5 (fun j r e => by obtain ⟨cur, k⟩ := Pl.kindI GG.out.2 r; exact cells_ne k GG.out.1.h5 (by decide) e)
          exact ⟨⟨i + 1, po1, pc1, by go_num, by omega, by rw [Hzz.out]; exact ⟨hp, hq⟩⟩, by simp [intOf]; omega⟩
        · have hin : rl.length = i := by omega
          have hlt' : ¬ (i : Int) < (rl.length : Int) := by omega
          subst hin
          have HM2 : Hid (Gx q2 q4 q5 #[.slice ao al.length ac, .map (some qp), .slice F.u.1 F.u.2.2.length F.u.2.1, .map (some qx)] what 1 (.slice po (pls al rl).length pc) w wr ∧ I.RowI w.heap.size po pc (pls al rl) wr) := by have q := HM.out; rw [List.take_length] at q; exact q
          clear HM
          have hac2 : Hid (acts al rl = rl) := by show _ = _; simp [acts, hr]
          have SS := hide' (sto3 HM2.out.1.h4)
          obtain ⟨a0, c0⟩ := SS.out.c0
          have g0 := SS.out.f0
          obtain ⟨a1, c1⟩ := SS.out.c1 (.string what)
          have g1 := SS.out.f1 (.string what)
          obtain ⟨a2, c2⟩ := SS.out.c2 (.string what) (.int .i8 1)
          have g2 := SS.out.f2 (.string what) (.int .i8 1)
          have tH := SS.out.fin (.string what) (.int .i8 1) (.slice po (pls al rl).length pc)
          have tT := SS.out.tt (.string what) (.int .i8 1) (.slice po (pls al rl).length pc)
          have s0 : wr.cell? ⟨q5, 0, none⟩ = some (.string what) := by rw [Lib.cell_of_heap HM2.out.1.h5]; rfl
          have s1 : wr.cell? ⟨q5, 1, none⟩ = some (.int .i8 1) := by rw [Lib.cell_of_heap HM2.out.1.h5]; rfl
          have s2 : wr.cell? ⟨q5, 2, none⟩ = some (.slice po (pls al rl).length pc) := by rw [Lib.cell_of_heap HM2.out.1.h5]; rfl
          have hfin : Hid (RulIs al ⟨.bool false, who, what, ro, rc, rl, cd, lv⟩ w (.returned (.agg #[.string what, .int .i8 1, .slice po (pls al rl).length pc])) (((wr.setCell ⟨q4, 0, none⟩ (.string what)).setCell ⟨q4, 1, none⟩ (.int .i8 1)).setCell ⟨q4, 2, none⟩ (.slice po (pls al rl).length pc))) := by
            refine ⟨po, pc, by simp only [hac2.out]; rfl, ?_, HM2.out.1.b.trans (below_own tT (fun j e => by rw [e]; exact HN.out.2.2.2) HM2.out.1.b.size)⟩
            simp only [hac2.out]
            exact HM2.out.2.turn tT (fun j r e => by obtain ⟨cur, k⟩ := Pl.kindI HM2.out.2 r; exact cells_ne k HM2.out.1.h4 (by decide) e)
          clear SS tT HM2 hac2
          go_wp2_with fail
          (try simp only [Exit.inBlock, Exit.then])
          refine bodyPost_ret (results_cell_row rfl _ _ q4 124 #[.string what, .int .i8 1, .slice po (pls al rl).length pc] (0, 0) _ rfl tH Try.underlying124 rfl (by kernel_rfl)) rfl ?_
          exact hfin.out
  | true =>
    by_cases hr : rl = []
    · subst hr
      clear HRi HRk
      unfold Ru.val
      simp only [List.length_nil]
      go_enter Try.func70, Try.ntmps70
      go_wp2_with fail
      have G0 : Hid (Gx w.heap.size (w.heap.size + 1 + 1) (w.heap.size + 1 + 1 + 1) #[.slice ao al.length ac, .map (some qp), .slice F.u.1 F.u.2.2.length F.u.2.1, .map (some qx)] what 2 (.slice none 0 0) w ((((w.alloc (.cells #[.slice ao al.length ac, .map (some qp), .slice F.u.1 F.u.2.2.length F.u.2.1, .map (some qx)] 87)).alloc (.cells #[.bool true, .string who, .string what, .slice ro 0 rc, .int .i8 cd, .float .f64 lv] 65)).alloc (.cells #[.string ⟨#[]⟩, .int .i8 0, .slice none 0 0] 124)).alloc (.cells #[.string what, .int .i8 2, .slice none 0 0] 124)) ∧ (w.heap.size ≠ w.heap.size + 1 + 1 + 1 ∧ w.heap.size + 1 + 1 ≠ w.heap.size + 1 + 1 + 1 ∧ w.heap.size ≤ w.heap.size + 1 + 1 + 1 ∧ w.heap.size ≤ w.heap.size + 1 + 1)) := ⟨Gx.start _ _ _ _ _, by omega, by omega, by omega, by omega⟩
      generalize (((w.alloc (.cells #[.slice ao al.length ac, .map (some qp), .slice F.u.1 F.u.2.2.length F.u.2.1, .map (some qx)] 87)).alloc (.cells #[.bool true, .string who, .string what, .slice ro 0 rc, .int .i8 cd, .float .f64 lv] 65)).alloc (.cells #[.string ⟨#[]⟩, .int .i8 0, .slice none 0 0] 124)).alloc (.cells #[.string what, .int .i8 2, .slice none 0 0] 124) = V0 at *
      obtain ⟨q2, hq2⟩ : ∃ q2, q2 = w.heap.size := ⟨_, rfl⟩
      generalize w.heap.size + 1 + 1 + 1 = q5 at *
      generalize w.heap.size + 1 + 1 = q4 at *
      generalize w.heap.size + 1 = q3 at *
      have G1 : Hid (Gx q2 q4 q5 #[.slice ao al.length ac, .map (some qp), .slice F.u.1 F.u.2.2.length F.u.2.1, .map (some qx)] what 2 (.slice none 0 0) w V0 ∧ (q2 ≠ q5 ∧ q4 ≠ q5 ∧ w.heap.size ≤ q5 ∧ w.heap.size ≤ q4)) := by rw [hq2]; exact G0
      clear G0
      rw [← hq2]
      clear hq2
      have HN := hide' G1.out.2
      go_loopw [24] (fun iv wx => ∃ (i : Nat) (po : Option Addr) (pc : Nat), iv = .int .i64 (i : Int) ∧ i ≤ al.length ∧ Hid (Gx q2 q4 q5 #[.slice ao al.length ac, .map (some qp), .slice F.u.1 F.u.2.2.length F.u.2.1, .map (some qx)] what 2 (.slice po (pls al (al.take i)).length pc) w wx ∧ I.RowI w.heap.size po pc (pls al (al.take i)) wx)) (fun iv _ => al.length - (intOf iv).toNat)
      case atStart => exact ⟨0, none, 0, rfl, Nat.zero_le _, G1.out.1, I.RowI.nil _ _⟩
      case round =>
        obtain ⟨i, po, pc, rfl, hil, HM⟩ := hrel
        clear G1
        by_cases hlt : i < al.length
        · have hlt' : (i : Int) < (al.length : Int) := by omega
          obtain ⟨a, ha⟩ : ∃ a, al[i]? = some a := ⟨_, List.getElem?_eq_getElem hlt⟩
          obtain ⟨ab, off, hao, hab, x0⟩ := HA.out.at ha
          have d0 := (HM.out.1.b.cell (p := ⟨ab, off + i, none⟩) hab).trans x0
          have hk : Hid (S.okk a) := HK.out a (List.mem_of_getElem? ha)
          have htk := hide' (pls_take (al := al) ha)
          have hpl : Hid ((pls al (al.take (i + 1))).length ≤ 4398046511104) := by
            have h1 := pls_len al (al.take (i + 1))
            rw [List.length_take] at h1
            have h2 := Nat.mul_le_mul (show min (i + 1) al.length ≤ 1048576 by omega) hal
            show _ ≤ _
            omega
          have HLw := hide' (HL.out.below HM.out.1.b)
          obtain ⟨bo, m, c, hval, hll, hrow0, hcase⟩ := HLw.out.row a
          have r0 := HLw.out.run hk.out
          rw [hval] at r0
          have hnil : Hid (bo = none → m = 0 ∧ c = 0) := fun e => hcase.elim (fun q => ⟨q.2.1, q.2.2.1⟩) (fun q => by obtain ⟨g, h1, _⟩ := q; rw [e] at h1; cases h1)
          have hI := hide' hrow0.ints
          have Hll := hide' hll
          have c5 : wr.cell? ⟨q5, 2, none⟩ = some (.slice po (pls al (al.take i)).length pc) := by rw [Lib.cell_of_heap HM.out.1.h5]; rfl
          have c2 : wr.cell? ⟨q2, 1, none⟩ = some (.map (some qp)) := by rw [Lib.cell_of_heap HM.out.1.h2]; rfl
          have hkd : Hid (∀ j, I.At po j → j ≠ q2 ∧ j ≠ q4 ∧ j ≠ q5) := fun j r => by obtain ⟨cur, k⟩ := Pl.kindI HM.out.2 r; exact ⟨cells_ne k HM.out.1.h2 (by decide), cells_ne k HM.out.1.h4 (by decide), cells_ne k HM.out.1.h5 (by decide)⟩
          have hwV : Hid (w.heap.size ≤ wr.heap.size) := HM.out.1.b.size
          subst hao
          generalize pls al (al.take i) = zs at *
          generalize hzz : pls al (al.take (i + 1)) = zs' at *
          have Hzz := hide' hzz
          clear hzz hval hrow0 hcase hll ha x0 hab HLw
          go_wp2_with (at_builtin; (refine wpList_appI (by rfl) _ _ rfl w.heap.size po pc zs zs' _ htk.out rfl HM.out.2 bo m c Hll.out rfl hnil.out hI.out hpl.out hwV.out ?_; intro po1 pc1 w1 hr1 ht1; have G1 := HM.out.1.turn ht1 (fun r => (hkd.out _ r).1 rfl) (fun r => (hkd.out _ r).2.1 rfl) (fun r => (hkd.out _ r).2.2 rfl) (fun j r => (HM.out.2.lt j r).1); have k2 : w1.cell? ⟨q5, 2, none⟩ = some (.slice po zs.length pc) := (Lib.cell_of_heap G1.h5 2).trans rfl; have kf : w1.frozen? ⟨q5, 2, none⟩ = false := Lib.frozen_of_heap G1.h5 2; have GG := hide' (And.intro G1 hr1); clear G1 hr1 ht1))
          have hp := GG.out.1.put HN.out.1 HN.out.2.1 HN.out.2.2.1 (.slice po1 zs'.length pc1)
          have t5 : Turn (fun j => j = q5) w1 (w1.setCell ⟨q5, 2, none⟩ (.slice po1 zs'.length pc1)) := (Turn.refl (fun j => j = q5) w1).setCell (p := ⟨q5, 2, none⟩) (fun _ => rfl) _
          have hq := GG.out.2.turn t5 (fun j r e => by obtain ⟨cur, k⟩ := Pl.kindI GG.out.2 r; exact cells_ne k GG.out.1.h5 (by decide) e)
          exact ⟨⟨i + 1, po1, pc1, by go_num, by omega, by rw [Hzz.out]; exact ⟨hp, hq⟩⟩, by simp [intOf]; omega⟩
        · have hin : al.length = i := by omega
          have hlt' : ¬ (i : Int) < (al.length : Int) := by omega
          subst hin
          have HM2 : Hid (Gx q2 q4 q5 #[.slice ao al.length ac, .map (some qp), .slice F.u.1 F.u.2.2.length F.u.2.1, .map (some qx)] what 2 (.slice po (pls al al).length pc) w wr ∧ I.RowI w.heap.size po pc (pls al al) wr) := by have q := HM.out; rw [List.take_length] at q; exact q
          clear HM
          have hac2 : Hid (acts al [] = al) := by show _ = _; simp [acts]
          have SS := hide' (sto3 HM2.out.1.h4)
          obtain ⟨a0, c0⟩ := SS.out.c0
          have g0 := SS.out.f0
          obtain ⟨a1, c1⟩ := SS.out.c1 (.string what)
          have g1 := SS.out.f1 (.string what)
          obtain ⟨a2, c2⟩ := SS.out.c2 (.string what) (.int .i8 2)
          have g2 := SS.out.f2 (.string what) (.int .i8 2)
          have tH := SS.out.fin (.string what) (.int .i8 2) (.slice po (pls al al).length pc)
          have tT := SS.out.tt (.string what) (.int .i8 2) (.slice po (pls al al).length pc)
          have s0 : wr.cell? ⟨q5, 0, none⟩ = some (.string what) := by rw [Lib.cell_of_heap HM2.out.1.h5]; rfl
          have s1 : wr.cell? ⟨q5, 1, none⟩ = some (.int .i8 2) := by rw [Lib.cell_of_heap HM2.out.1.h5]; rfl
          have s2 : wr.cell? ⟨q5, 2, none⟩ = some (.slice po (pls al al).length pc) := by rw [Lib.cell_of_heap HM2.out.1.h5]; rfl
          have hfin : Hid (RulIs al ⟨.bool true, who, what, ro, rc, [], cd, lv⟩ w (.returned (.agg #[.string what, .int .i8 2, .slice po (pls al al).length pc])) (((wr.setCell ⟨q4, 0, none⟩ (.string what)).setCell ⟨q4, 1, none⟩ (.int .i8 2)).setCell ⟨q4, 2, none⟩ (.slice po (pls al al).length pc))) := by
            refine ⟨po, pc, by simp only [hac2.out]; rfl, ?_, HM2.out.1.b.trans (below_own tT (fun j e => by rw [e]; exact HN.out.2.2.2) HM2.out.1.b.size)⟩
            simp only [hac2.out]
            exact HM2.out.2.turn tT (fun j r e => by obtain ⟨cur, k⟩ := Pl.kindI HM2.out.2 r; exact cells_ne k HM2.out.1.h4 (by decide) e)
          clear SS tT HM2 hac2
          go_wp2_with fail
          (try simp only [Exit.inBlock, Exit.then])
          refine bodyPost_ret (results_cell_row rfl _ _ q4 124 #[.string what, .int .i8 2, .slice po (pls al al).length pc] (0, 0) _ rfl tH Try.underlying124 rfl (by kernel_rfl)) rfl ?_
          exact hfin.out
    · have hr0 : ¬ ((rl.length : Int) = 0) := by have : rl.length ≠ 0 := fun e => hr (List.eq_nil_of_length_eq_zero e); omega
      unfold Ru.val
      go_enter Try.func70, Try.ntmps70
      go_wp2_with fail
      have G0 : Hid (Gx w.heap.size (w.heap.size + 1 + 1) (w.heap.size + 1 + 1 + 1) #[.slice ao al.length ac, .map (some qp), .slice F.u.1 F.u.2.2.length F.u.2.1, .map (some qx)] what 2 (.slice none 0 0) w ((((w.alloc (.cells #[.slice ao al.length ac, .map (some qp), .slice F.u.1 F.u.2.2.length F.u.2.1, .map (some qx)] 87)).alloc (.cells #[.bool true, .string who, .string what, .slice ro rl.length rc, .int .i8 cd, .float .f64 lv] 65)).alloc (.cells #[.string ⟨#[]⟩, .int .i8 0, .slice none 0 0] 124)).alloc (.cells #[.string what, .int .i8 2, .slice none 0 0] 124)) ∧ (w.heap.size ≠ w.heap.size + 1 + 1 + 1 ∧ w.heap.size + 1 + 1 ≠ w.heap.size + 1 + 1 + 1 ∧ w.heap.size ≤ w.heap.size + 1 + 1 + 1 ∧ w.heap.size ≤ w.heap.size + 1 + 1)) := ⟨Gx.start _ _ _ _ _, by omega, by omega, by omega, by omega⟩
      generalize (((w.alloc (.cells #[.slice ao al.length ac, .map (some qp), .slice F.u.1 F.u.2.2.length F.u.2.1, .map (some qx)] 87)).alloc (.cells #[.bool true, .string who, .string what, .slice ro rl.length rc, .int .i8 cd, .float .f64 lv] 65)).alloc (.cells #[.string ⟨#[]⟩, .int .i8 0, .slice none 0 0] 124)).alloc (.cells #[.string what, .int .i8 2, .slice none 0 0] 124) = V0 at *
      obtain ⟨q2, hq2⟩ : ∃ q2, q2 = w.heap.size := ⟨_, rfl⟩
      generalize w.heap.size + 1 + 1 + 1 = q5 at *
      generalize w.heap.size + 1 + 1 = q4 at *
      generalize w.heap.size + 1 = q3 at *
      have G1 : Hid (Gx q2 q4 q5 #[.slice ao al.length ac, .map (some qp), .slice F.u.1 F.u.2.2.length F.u.2.1, .map (some qx)] what 2 (.slice none 0 0) w V0 ∧ (q2 ≠ q5 ∧ q4 ≠ q5 ∧ w.heap.size ≤ q5 ∧ w.heap.size ≤ q4)) := by rw [hq2]; exact G0
      clear G0
      rw [← hq2]
      clear hq2
      have HN := hide' G1.out.2
      rw [show ((rl.length : Int) == 0) = false from by simpa using hr0]
      go_loopw [24] (fun iv wx => ∃ (i : Nat) (po : Option Addr) (pc : Nat), iv = .int .i64 (i : Int) ∧ i ≤ rl.length ∧ Hid (Gx q2 q4 q5 #[.slice ao al.length ac, .map (some qp), .slice F.u.1 F.u.2.2.length F.u.2.1, .map (some qx)] what 2 (.slice po (pls al (rl.take i)).length pc) w wx ∧ I.RowI w.heap.size po pc (pls al (rl.take i)) wx)) (fun iv _ => rl.length - (intOf iv).toNat)
      case atStart => exact ⟨0, none, 0, rfl, Nat.zero_le _, G1.out.1, I.RowI.nil _ _⟩
      case round =>
        obtain ⟨i, po, pc, rfl, hil, HM⟩ := hrel
        clear G1
        by_cases hlt : i < rl.length
        · have hlt' : (i : Int) < (rl.length : Int) := by omega
          obtain ⟨a, ha⟩ : ∃ a, rl[i]? = some a := ⟨_, List.getElem?_eq_getElem hlt⟩
          obtain ⟨ab, off, hao, hab, x0⟩ := HRi.out.at ha
          have d0 := (HM.out.1.b.cell (p := ⟨ab, off + i, none⟩) hab).trans x0
          have hk : Hid (S.okk a) := HRk.out a (List.mem_of_getElem? ha)
          have htk := hide' (pls_take (al := al) ha)
          have hpl : Hid ((pls al (rl.take (i + 1))).length ≤ 4398046511104) := by
            have h1 := pls_len al (rl.take (i + 1))
            rw [List.length_take] at h1
            have h2 := Nat.mul_le_mul (show min (i + 1) rl.length ≤ 1048576 by omega) hal
            show _ ≤ _
            omega
          have HLw := hide' (HL.out.below HM.out.1.b)
          obtain ⟨bo, m, c, hval, hll, hrow0, hcase⟩ := HLw.out.row a
          have r0 := HLw.out.run hk.out
          rw [hval] at r0
          have hnil : Hid (bo = none → m = 0 ∧ c = 0) := fun e => hcase.elim (fun q => ⟨q.2.1, q.2.2.1⟩) (fun q => by obtain ⟨g, h1, _⟩ := q; rw [e] at h1; cases h1)
          have hI := hide' hrow0.ints
          have Hll := hide' hll
          have c5 : wr.cell? ⟨q5, 2, none⟩ = some (.slice po (pls al (rl.take i)).length pc) := by rw [Lib.cell_of_heap HM.out.1.h5]; rfl
          have c2 : wr.cell? ⟨q2, 1, none⟩ = some (.map (some qp)) := by rw [Lib.cell_of_heap HM.out.1.h2]; rfl
          have hkd : Hid (∀ j, I.At po j → j ≠ q2 ∧ j ≠ q4 ∧ j ≠ q5) := fun j r => by obtain ⟨cur, k⟩ := Pl.kindI HM.out.2 r; exact ⟨cells_ne k HM.out.1.h2 (by decide), cells_ne k HM.out.1.h4 (by decide), cells_ne k HM.out.1.h5 (by decide)⟩
          have hwV : Hid (w.heap.size ≤ wr.heap.size) := HM.out.1.b.size
          subst hao
          generalize pls al (rl.take i) = zs at *
          generalize hzz : pls al (rl.take (i + 1)) = zs' at *
          have Hzz := hide' hzz
          clear hzz hval hrow0 hcase hll ha x0 hab HLw
          go_wp2_with (at_builtin; (refine wpList_appI (by rfl) _ _ rfl w.heap.size po pc zs zs' _ htk.out rfl HM.out.2 bo m c Hll.out rfl hnil.out hI.out hpl.out hwV.out ?_; intro po1 pc1 w1 hr1 ht1; have G1 := HM.out.1.turn ht1 (fun r => (hkd.out _ r).1 rfl) (fun r => (hkd.out _ r).2.1 rfl) (fun r => (hkd.out _ r).2.2 rfl) (fun j r => (HM.out.2.lt j r).1); have k2 : w1.cell? ⟨q5, 2, none⟩ = some (.slice po zs.length pc) := (Lib.cell_of_heap G1.h5 2).trans rfl; have kf : w1.frozen? ⟨q5, 2, none⟩ = false := Lib.frozen_of_heap G1.h5 2; have GG := hide' (And.intro G1 hr1); clear G1 hr1 ht1))
          have hp := GG.out.1.put HN.out.1 HN.out.2.1 HN.out.2.2.1 (.slice po1 zs'.length pc1)
          have t5 : Turn (fun j => j = q5) w1 (w1.setCell ⟨q5, 2, none⟩ (.slice po1 zs'.length pc1)) := (Turn.refl (fun j => j = q5) w1).setCell (p := ⟨q5, 2, none⟩) (fun _ => rfl) _
          have hq := GG.out.2.turn t5 (fun j r e => by obtain ⟨cur, k⟩ := Pl.kindI GG.out.2 r; exact cells_ne k GG.out.1.h5 (by decide) e)
          exact ⟨⟨i + 1, po1, pc1, by go_num, by omega, by rw [Hzz.out]; exact ⟨hp, hq⟩⟩, by simp [intOf]; omega⟩
        · have hin : rl.length = i := by omega
          have hlt' : ¬ (i : Int) < (rl.length : Int) := by omega
          subst hin
          have HM2 : Hid (Gx q2 q4 q5 #[.slice ao al.length ac, .map (some qp), .slice F.u.1 F.u.2.2.length F.u.2.1, .map (some qx)] what 2 (.slice po (pls al rl).length pc) w wr ∧ I.RowI w.heap.size po pc (pls al rl) wr) := by have q := HM.out; rw [List.take_length] at q; exact q
          clear HM
          have hac2 : Hid (acts al rl = rl) := by show _ = _; simp [acts, hr]
          have SS := hide' (sto3 HM2.out.1.h4)
          obtain ⟨a0, c0⟩ := SS.out.c0
          have g0 := SS.out.f0
          obtain ⟨a1, c1⟩ := SS.out.c1 (.string what)
          have g1 := SS.out.f1 (.string what)
          obtain ⟨a2, c2⟩ := SS.out.c2 (.string what) (.int .i8 2)
          have g2 := SS.out.f2 (.string what) (.int .i8 2)
          have tH := SS.out.fin (.string what) (.int .i8 2) (.slice po (pls al rl).length pc)
          have tT := SS.out.tt (.string what) (.int .i8 2) (.slice po (pls al rl).length pc)
          have s0 : wr.cell? ⟨q5, 0, none⟩ = some (.string what) := by rw [Lib.cell_of_heap HM2.out.1.h5]; rfl
          have s1 : wr.cell? ⟨q5, 1, none⟩ = some (.int .i8 2) := by rw [Lib.cell_of_heap HM2.out.1.h5]; rfl
          have s2 : wr.cell? ⟨q5, 2, none⟩ = some (.slice po (pls al rl).length pc) := by rw [Lib.cell_of_heap HM2.out.1.h5]; rfl
          have hfin : Hid (RulIs al ⟨.bool true, who, what, ro, rc, rl, cd, lv⟩ w (.returned (.agg #[.string what, .int .i8 2, .slice po (pls al rl).length pc])) (((wr.setCell ⟨q4, 0, none⟩ (.string what)).setCell ⟨q4, 1, none⟩ (.int .i8 2)).setCell ⟨q4, 2, none⟩ (.slice po (pls al rl).length pc))) := by
            refine ⟨po, pc, by simp only [hac2.out]; rfl, ?_, HM2.out.1.b.trans (below_own tT (fun j e => by rw [e]; exact HN.out.2.2.2) HM2.out.1.b.size)⟩
            simp only [hac2.out]
            exact HM2.out.2.turn tT (fun j r e => by obtain ⟨cur, k⟩ := Pl.kindI HM2.out.2 r; exact cells_ne k HM2.out.1.h4 (by decide) e)
          clear SS tT HM2 hac2
          go_wp2_with fail
          (try simp only [Exit.inBlock, Exit.then])
          refine bodyPost_ret (results_cell_row rfl _ _ q4 124 #[.string what, .int .i8 2, .slice po (pls al rl).length pc] (0, 0) _ rfl tH Try.underlying124 rfl (by kernel_rfl)) rfl ?_
          exact hfin.out
end U
end Go.Proofs.Ytollaamlnddhcaa
set_option linter.unusedVariables false
set_option linter.unusedSimpArgs false
namespace Go.Proofs.Ytollaamlnddhcaa
open Go.RowKit Go.Maps
namespace U
/-- is a rule for a subject, by who it is and by its trust? -/
def abt (is : ByteArray → Bool) (tr : Nat) (R : Ru) : Bool := is R.who && M.pass R.cd R.lv tr
/-- what a rule says, as data -/
def rul (al : List ByteArray) (R : Ru) : ByteArray × Int × List Int := (R.what, if den R then 2 else 1, pls al (acts al R.rl))
def ruls (al : List ByteArray) (is : ByteArray → Bool) (tr : Nat) (us : List Ru) : List (ByteArray × Int × List Int) := (us.filter (abt is tr)).map (rul al)
theorem ruls_no {al : List ByteArray} {is : ByteArray → Bool} {tr : Nat} {us : List Ru} {n : Nat} {R : Ru} (h : us[n]? = some R) (ha : abt is tr R = false) : ruls al is tr (us.take (n + 1)) = ruls al is tr (us.take n) := by unfold ruls; rw [List.take_add_one, h]; simp [ha]
theorem ruls_yes {al : List ByteArray} {is : ByteArray → Bool} {tr : Nat} {us : List Ru} {n : Nat} {R : Ru} (h : us[n]? = some R) (ha : abt is tr R = true) : ruls al is tr (us.take (n + 1)) = ruls al is tr (us.take n) ++ [rul al R] := by unfold ruls; rw [List.take_add_one, h]; simp [ha]
/-- a ruling as it lies -/
structure Rl where
  wh : ByteArray
  s : Int
  po : Option Addr
  pc : Nat
  ps : List Int
def Rl.cells (r : Rl) : List Value := [.string r.wh, .int .i8 r.s, .slice r.po r.ps.length r.pc]
def Rl.dat (r : Rl) : ByteArray × Int × List Int := (r.wh, r.s, r.ps)
def Rls (B : Nat) (ro : Option Addr) (rc : Nat) (rs : List Rl) (w : World) : Prop := G.RowI 124 3 B ro rc (rs.map Rl.cells) w ∧ ∀ r ∈ rs, I.RowI B r.po r.pc r.ps w
theorem kindG {e m B : Nat} {ao : Option Addr} {cap : Nat} {zs : List (List Value)} {w : World} (h : G.RowI e m B ao cap zs w) {j : Nat} (q : G.At ao j) : ∃ cur, w.heap[j]? = some (.cells cur e (0, 0)) := by
  obtain ⟨a, e, rfl⟩ := q
  rcases h.2 with ⟨hv, _⟩ | ⟨g, c, cur, hv, _, hg, _⟩
  · rw [e] at hv; cases hv
  · simp only [Value.slice.injEq] at hv; rw [hv.1] at e; cases e; exact ⟨cur, hg⟩
theorem Rls.below {B : Nat} {ro : Option Addr} {rc : Nat} {rs : List Rl} {w w' : World} (h : Rls B ro rc rs w) (t : Below w.heap.size w w') : Rls B ro rc rs w' := ⟨h.1.below t, fun r hr => (h.2 r hr).below t⟩
theorem Rls.snoc {B : Nat} {ro : Option Addr} {rc : Nat} {rs : List Rl} {w w' : World} (h : Rls B ro rc rs w) {r : Rl} (hr : I.RowI B r.po r.pc r.ps w) {g c : Nat} (hg : G.RowI 124 3 B (some ⟨g, 0, none⟩) c (rs.map Rl.cells ++ [r.cells]) w') (t : Turn (G.At ro) w w') : Rls B (some ⟨g, 0, none⟩) c (rs ++ [r]) w' := by
  refine ⟨by rw [List.map_append]; exact hg, fun x hx => ?_⟩
  have hx' : I.RowI B x.po x.pc x.ps w := by
    rcases List.mem_append.1 hx with q | q
    · exact h.2 x q
    · rw [List.mem_singleton] at q; rw [q]; exact hr
  exact hx'.turn t (fun j q1 q2 => by
    obtain ⟨c1, k1⟩ := Pl.kindI hx' q1
    obtain ⟨c2, k2⟩ := kindG h.1 q2
    exact cells_ne k1 k2 (by decide) rfl)
/-- a reading and a party in boxes -/
structure Ax (q2 q3 : Nat) (rd pv : Array Value) (w V : World) : Prop where
  b : Below w.heap.size w V
  h2 : V.heap[q2]? = some (.cells rd 87 (0, 0))
  h3 : V.heap[q3]? = some (.cells pv 97 (0, 0))
theorem Ax.turn {q2 q3 : Nat} {rd pv : Array Value} {w V V' : World} {T : Nat → Prop} (h : Ax q2 q3 rd pv w V) (t : Turn T V V') (n2 : ¬ T q2) (n3 : ¬ T q3) (hB : ∀ j, T j → w.heap.size ≤ j) : Ax q2 q3 rd pv w V' :=
  ⟨h.b.trans (below_own t hB h.b.size), (t.block _ (lt_of_heap h.h2) n2).trans h.h2, (t.block _ (lt_of_heap h.h3) n3).trans h.h3⟩
theorem Ax.below {q2 q3 : Nat} {rd pv : Array Value} {w V V' : World} (h : Ax q2 q3 rd pv w V) (t : Below V.heap.size V V') : Ax q2 q3 rd pv w V' := h.turn (turn_below (S := fun _ => False) t) id id (fun _ q => q.elim)
theorem Ax.start (rd pv : Array Value) (w : World) : Ax w.heap.size (w.heap.size + 1) rd pv w ((w.alloc (.cells rd 87)).alloc (.cells pv 97)) := by
  have a1 := heap_alloc_new w (.cells rd 87)
  have a2 := heap_alloc_new (w.alloc (.cells rd 87)) (.cells pv 97)
  have z1 : (w.alloc (.cells rd 87)).heap.size = w.heap.size + 1 := by simp
  rw [z1] at a2
  exact ⟨((Below.refl _ _).alloc (Nat.le_refl _) _).alloc (by simp) _, (Below.heap_alloc _ _ _ (by omega)).trans a1, a2⟩
theorem info114 : (Try.prog.info? 124).map (fun i => (i.zero, i.size, i.bytes)) = some (some (.agg #[.string ByteArray.empty, .int .i8 0, .slice none 0 0]), 3, 48) := by kernel_rfl
/-- what 'party.is' tells, whatever the party -/
def IsOf (z : ByteArray) (tr : Nat) (mv : Value) (is : ByteArray → Bool) (w : World) : Prop := ∀ V s, S.okk s → Below w.heap.size w V → Calls Try.prog 68 #[.agg #[.string z, .float .f64 tr, mv], .string s] V fun e w' => e = .returned (.bool (is s)) ∧ Below V.heap.size V w'
/-- what about tells -/
def AbIs (al : List ByteArray) (is : ByteArray → Bool) (tr : Nat) (us : List Ru) (w : World) (e : Ending) (w' : World) : Prop := ∃ ro rc rs, e = .returned (.slice ro rs.length rc) ∧ Rls w.heap.size ro rc rs w' ∧ rs.map Rl.dat = ruls al is tr us ∧ Below w.heap.size w w'
set_option maxRecDepth 100000 in
set_option maxHeartbeats 4000000 in
theorem rabout_any (F : Pf) (ao : Option Addr) (ac : Nat) (al : List ByteArray) (qp qx B : Nat) (f : ByteArray → Option V3) (z : ByteArray) (tr : Nat) (mv : Value) (is : ByteArray → Bool) (w : World) (h : F.In w) (hs : F.Small) (hL : Pl.Lm qp B al f w) (ha : S.Ints ao al w) (hac : al.length ≤ ac) (hal : al.length ≤ 1048576) (hak : ∀ a ∈ al, S.okk a) (hu : ∀ R ∈ F.u.2.2, S.okk R.who ∧ ∀ a ∈ R.rl, S.okk a) (hIs : IsOf z tr mv is w) : Calls Try.prog 48 #[.agg #[.slice ao al.length ac, .map (some qp), .slice F.u.1 F.u.2.2.length F.u.2.1, .map (some qx)], .agg #[.string z, .float .f64 tr, mv]] w fun e w' => AbIs al is tr F.u.2.2 w e w' := by
  have H := hide' h
  have HL := hide' hL
  have HA := hide' ha
  have HK := hide' hak
  have HU := hide' hu
  have HI := hide' hIs
  have hul : (F.u.2.2.length : Int) ≤ 1048576 := by have := hs.u; omega
  have cu := h.u.2.1
  clear h hs hL ha hak hu hIs
  go_enter Try.func48, Try.ntmps48
  go_wp2_with fail
  have A0 := hide' (Ax.start #[.slice ao al.length ac, .map (some qp), .slice F.u.1 F.u.2.2.length F.u.2.1, .map (some qx)] #[.string z, .float .f64 tr, mv] w)
  generalize (w.alloc (.cells #[.slice ao al.length ac, .map (some qp), .slice F.u.1 F.u.2.2.length F.u.2.1, .map (some qx)] 87)).alloc (.cells #[.string z, .float .f64 tr, mv] 97) = V0 at *
  obtain ⟨q2, hq2⟩ : ∃ q2, q2 = w.heap.size := ⟨_, rfl⟩
  generalize w.heap.size + 1 = q3 at *
  have A1 : Hid (Ax q2 q3 #[.slice ao al.length ac, .map (some qp), .slice F.u.1 F.u.2.2.length F.u.2.1, .map (some qx)] #[.string z, .float .f64 tr, mv] w V0) := by rw [hq2]; exact A0
  clear A0
  rw [← hq2]
  clear hq2
  go_loopw [5, 11] (fun sv iv wx => ∃ (n : Nat) (ro : Option Addr) (rc : Nat) (rs : List Rl), iv = .int .i64 (n : Int) ∧ sv = .slice ro rs.length rc ∧ n ≤ F.u.2.2.length ∧ Hid (Ax q2 q3 #[.slice ao al.length ac, .map (some qp), .slice F.u.1 F.u.2.2.length F.u.2.1, .map (some qx)] #[.string z, .float .f64 tr, mv] w wx ∧ Rls w.heap.size ro rc rs wx ∧ rs.map Rl.dat = ruls al is tr (F.u.2.2.take n) ∧ rs.length ≤ n)) (fun _ iv _ => F.u.2.2.length - (intOf iv).toNat)
  case atStart => exact ⟨0, none, 0, [], rfl, rfl, Nat.zero_le _, A1.out, ⟨G.RowI.nil _ _ _ _, fun r hr => by cases hr⟩, by simp [ruls], Nat.le_refl _⟩
  case round =>
    obtain ⟨n, so, sc, rs, rfl, rfl, hn, HM⟩ := hrel
    clear A1
    by_cases hlt : n < F.u.2.2.length
    · have hlt' : (n : Int) < (F.u.2.2.length : Int) := by omega
      obtain ⟨R, hR⟩ : ∃ R, F.u.2.2[n]? = some R := ⟨_, List.getElem?_eq_getElem hlt⟩
      obtain ⟨ub, uoff, huo, hub, hc⟩ := H.out.u.1.1.at (show (F.u.2.2.map Ru.cells)[n]? = some R.cells by rw [List.getElem?_map, hR]; rfl)
      obtain ⟨hRo, ⟨bv, hbv⟩, hRl⟩ := H.out.u.1.2 R (List.mem_of_getElem? hR)
      have HRk := hide' (HU.out R (List.mem_of_getElem? hR))
      have RN : Hid (abt is tr R = false → ruls al is tr (F.u.2.2.take (n + 1)) = ruls al is tr (F.u.2.2.take n)) := fun q => ruls_no hR q
      have RY : Hid (abt is tr R = true → ruls al is tr (F.u.2.2.take (n + 1)) = ruls al is tr (F.u.2.2.take n) ++ [rul al R]) := fun q => ruls_yes hR q
      have CR : Hid (∀ V, Below w.heap.size w V → Calls Try.prog 70 #[.agg #[.slice ao al.length ac, .map (some qp), .slice F.u.1 F.u.2.2.length F.u.2.1, .map (some qx)], R.val] V fun e w' => RulIs al R V e w') := fun V b => ruling_any F ao ac al qp qx B f R V (HL.out.below b) (HA.out.below b) hac hal HK.out (hRo.below (fun q => q.below b)) hRl ⟨bv, hbv⟩ HRk.out.2
      obtain ⟨d, who, what, ro, rc, rl, cd, lv⟩ := R
      simp only at hbv
      subst hbv
      unfold Ru.val at CR
      have bw := hide' HM.out.1.b
      have d0 := (bw.out.cell (p := ⟨ub, uoff + n * 6, none⟩) hub).trans (hc 0 _ rfl)
      have d1 := (bw.out.cell (p := ⟨ub, uoff + n * 6 + 1, none⟩) hub).trans (hc 1 _ rfl)
      have d2 := (bw.out.cell (p := ⟨ub, uoff + n * 6 + 2, none⟩) hub).trans (hc 2 _ rfl)
      have d3 := (bw.out.cell (p := ⟨ub, uoff + n * 6 + 3, none⟩) hub).trans (hc 3 _ rfl)
      have d4 := (bw.out.cell (p := ⟨ub, uoff + n * 6 + 4, none⟩) hub).trans (hc 4 _ rfl)
      have d5 := (bw.out.cell (p := ⟨ub, uoff + n * 6 + 5, none⟩) hub).trans (hc 5 _ rfl)
      have bV : Below wr.heap.size wr (wr.alloc (.cells #[.bool bv, .string who, .string what, .slice ro rl.length rc, .int .i8 cd, .float .f64 lv] 65)) := (Below.refl _ _).alloc (Nat.le_refl _) _
      have MV : Hid ((Ax q2 q3 #[.slice ao al.length ac, .map (some qp), .slice F.u.1 F.u.2.2.length F.u.2.1, .map (some qx)] #[.string z, .float .f64 tr, mv] w (wr.alloc (.cells #[.bool bv, .string who, .string what, .slice ro rl.length rc, .int .i8 cd, .float .f64 lv] 65)) ∧ Rls w.heap.size so sc rs (wr.alloc (.cells #[.bool bv, .string who, .string what, .slice ro rl.length rc, .int .i8 cd, .float .f64 lv] 65))) ∧ (wr.alloc (.cells #[.bool bv, .string who, .string what, .slice ro rl.length rc, .int .i8 cd, .float .f64 lv] 65)).heap[wr.heap.size]? = some (.cells #[.bool bv, .string who, .string what, .slice ro rl.length rc, .int .i8 cd, .float .f64 lv] 65 (0, 0))) := ⟨⟨HM.out.1.below bV, HM.out.2.1.below bV⟩, heap_alloc_new wr _⟩
      have HD := hide' HM.out.2.2
      have e0 : (wr.alloc (.cells #[.bool bv, .string who, .string what, .slice ro rl.length rc, .int .i8 cd, .float .f64 lv] 65)).cell? ⟨q3, 0, none⟩ = some (.string z) := by rw [Lib.cell_of_heap MV.out.1.1.h3]; rfl
      have e1 : (wr.alloc (.cells #[.bool bv, .string who, .string what, .slice ro rl.length rc, .int .i8 cd, .float .f64 lv] 65)).cell? ⟨q3, 1, none⟩ = some (.float .f64 tr) := by rw [Lib.cell_of_heap MV.out.1.1.h3]; rfl
      have e2 : (wr.alloc (.cells #[.bool bv, .string who, .string what, .slice ro rl.length rc, .int .i8 cd, .float .f64 lv] 65)).cell? ⟨q3, 2, none⟩ = some mv := by rw [Lib.cell_of_heap MV.out.1.1.h3]; rfl
      have e3 : (wr.alloc (.cells #[.bool bv, .string who, .string what, .slice ro rl.length rc, .int .i8 cd, .float .f64 lv] 65)).cell? ⟨wr.heap.size, 1, none⟩ = some (.string who) := by rw [Lib.cell_of_heap MV.out.2]; rfl
      have C47 := hide' (HI.out (wr.alloc (.cells #[.bool bv, .string who, .string what, .slice ro rl.length rc, .int .i8 cd, .float .f64 lv] 65)) who HRk.out.1 MV.out.1.1.b)
      have hsf : ∀ (a : Addr) (k : FloatKind) (b : Nat) (m : Mode) (w : World), (store a (.float k b) m).run Try.prog w = stored Try.prog w a (.float k b) m := fun a k b m w => run_store Try.prog w a _ m rfl
      have Huo := hide' huo
      rw [huo]
      clear hc hRo hRl hR hub HM bV bw huo
      go_wp2_with fail
      refine C47.out.mono ?_
      rintro e w2 ⟨rfl, b2⟩
      have M2 : Hid ((Ax q2 q3 #[.slice ao al.length ac, .map (some qp), .slice F.u.1 F.u.2.2.length F.u.2.1, .map (some qx)] #[.string z, .float .f64 tr, mv] w w2 ∧ Rls w.heap.size so sc rs w2) ∧ w2.heap[wr.heap.size]? = some (.cells #[.bool bv, .string who, .string what, .slice ro rl.length rc, .int .i8 cd, .float .f64 lv] 65 (0, 0))) := ⟨⟨MV.out.1.1.below b2, MV.out.1.2.below b2⟩, (b2.block _ (lt_of_heap MV.out.2)).trans MV.out.2⟩
      clear MV C47 e0 e1 e2 e3 b2 d0 d1 d2 d3 d4 d5
      generalize wr.heap.size = q7 at *
      clear wr
      have ab1 : Hid (abt is tr ⟨.bool bv, who, what, ro, rc, rl, cd, lv⟩ = (is who && M.pass cd lv tr)) := rfl
      generalize is who = iv at *
      cases iv with
      | false =>
        go_wp2_with fail
        exact ⟨⟨n + 1, so, sc, rs, by go_num, rfl, by omega, by rw [← Huo.out]; exact M2.out.1.1, M2.out.1.2, by rw [RN.out (by rw [ab1.out]; rfl)]; exact HD.out.1, Nat.le_succ_of_le HD.out.2⟩, by simp [intOf]; omega⟩
      | true =>
        have e0 : w2.cell? ⟨q7, 0, none⟩ = some (.bool bv) := by rw [Lib.cell_of_heap M2.out.2]; rfl
        have e1 : w2.cell? ⟨q7, 1, none⟩ = some (.string who) := by rw [Lib.cell_of_heap M2.out.2]; rfl
        have e2 : w2.cell? ⟨q7, 2, none⟩ = some (.string what) := by rw [Lib.cell_of_heap M2.out.2]; rfl
        have e3 : w2.cell? ⟨q7, 3, none⟩ = some (.slice ro rl.length rc) := by rw [Lib.cell_of_heap M2.out.2]; rfl
        have e4 : w2.cell? ⟨q7, 4, none⟩ = some (.int .i8 cd) := by rw [Lib.cell_of_heap M2.out.2]; rfl
        have e5 : w2.cell? ⟨q7, 5, none⟩ = some (.float .f64 lv) := by rw [Lib.cell_of_heap M2.out.2]; rfl
        have e6 : w2.cell? ⟨q3, 1, none⟩ = some (.float .f64 tr) := by rw [Lib.cell_of_heap M2.out.1.1.h3]; rfl
        go_wp2_with fail
        refine (M.passes_any _ _ _ _ cd lv tr w2).mono ?_
        rintro e w3 ⟨rfl, b3⟩
        have M3 : Hid ((Ax q2 q3 #[.slice ao al.length ac, .map (some qp), .slice F.u.1 F.u.2.2.length F.u.2.1, .map (some qx)] #[.string z, .float .f64 tr, mv] w w3 ∧ Rls w.heap.size so sc rs w3) ∧ w3.heap[q7]? = some (.cells #[.bool bv, .string who, .string what, .slice ro rl.length rc, .int .i8 cd, .float .f64 lv] 65 (0, 0))) := ⟨⟨M2.out.1.1.below b3, M2.out.1.2.below b3⟩, (b3.block _ (lt_of_heap M2.out.2)).trans M2.out.2⟩
        clear M2 b3 e0 e1 e2 e3 e4 e5 e6
        clear w2
        generalize M.pass cd lv tr = pv at *
        cases pv with
        | false =>
          go_wp2_with fail
          exact ⟨⟨n + 1, so, sc, rs, by go_num, rfl, by omega, by rw [← Huo.out]; exact M3.out.1.1, M3.out.1.2, by rw [RN.out (by rw [ab1.out]; rfl)]; exact HD.out.1, Nat.le_succ_of_le HD.out.2⟩, by simp [intOf]; omega⟩
        | true =>
          have e0 : w3.cell? ⟨q7, 0, none⟩ = some (.bool bv) := by rw [Lib.cell_of_heap M3.out.2]; rfl
          have e1 : w3.cell? ⟨q7, 1, none⟩ = some (.string who) := by rw [Lib.cell_of_heap M3.out.2]; rfl
          have e2 : w3.cell? ⟨q7, 2, none⟩ = some (.string what) := by rw [Lib.cell_of_heap M3.out.2]; rfl
          have e3 : w3.cell? ⟨q7, 3, none⟩ = some (.slice ro rl.length rc) := by rw [Lib.cell_of_heap M3.out.2]; rfl
          have e4 : w3.cell? ⟨q7, 4, none⟩ = some (.int .i8 cd) := by rw [Lib.cell_of_heap M3.out.2]; rfl
          have e5 : w3.cell? ⟨q7, 5, none⟩ = some (.float .f64 lv) := by rw [Lib.cell_of_heap M3.out.2]; rfl
          have r0 : w3.cell? ⟨q2, 0, none⟩ = some (.slice ao al.length ac) := by rw [Lib.cell_of_heap M3.out.1.1.h2]; rfl
          have r1 : w3.cell? ⟨q2, 1, none⟩ = some (.map (some qp)) := by rw [Lib.cell_of_heap M3.out.1.1.h2]; rfl
          have r2 : w3.cell? ⟨q2, 2, none⟩ = some (.slice F.u.1 F.u.2.2.length F.u.2.1) := by rw [Lib.cell_of_heap M3.out.1.1.h2]; rfl
          have r3 : w3.cell? ⟨q2, 3, none⟩ = some (.map (some qx)) := by rw [Lib.cell_of_heap M3.out.1.1.h2]; rfl
          go_wp2_with fail
          refine (CR.out w3 M3.out.1.1.b).mono ?_
          rintro e w4 ⟨po, pc, rfl, hp, b4⟩
          have M4 : Hid ((Ax q2 q3 #[.slice ao al.length ac, .map (some qp), .slice F.u.1 F.u.2.2.length F.u.2.1, .map (some qx)] #[.string z, .float .f64 tr, mv] w w4 ∧ Rls w.heap.size so sc rs w4) ∧ I.RowI w.heap.size po pc (pls al (acts al rl)) w4) := ⟨⟨M3.out.1.1.below b4, M3.out.1.2.below b4⟩, hp.mono M3.out.1.1.b.size⟩
          have hYY : Hid (ruls al is tr (F.u.2.2.take (n + 1)) = ruls al is tr (F.u.2.2.take n) ++ [(what, if den ⟨.bool bv, who, what, ro, rc, rl, cd, lv⟩ then 2 else 1, pls al (acts al rl))]) := RY.out (by rw [ab1.out]; rfl)
          generalize (if den ⟨.bool bv, who, what, ro, rc, rl, cd, lv⟩ then (2 : Int) else 1) = sy at *
          clear M3 b4 hp e0 e1 e2 e3 e4 e5 r0 r1 r2 r3 CR RN RY ab1
          clear w3
          generalize pls al (acts al rl) = ps at *
          have hwV : Hid (w.heap.size ≤ w4.heap.size) := M4.out.1.1.b.size
          have hsl : Hid ((rs.map Rl.cells).length < 1073741824) := by rw [List.length_map]; have := HD.out.2; show _ < _; omega
          go_wp2_with (at_builtin; refine G.wpList_app1 w4 rfl _ _ 99 124 3 48 _ rfl Try.underlying99 info114 rfl (by decide) (by decide) w.heap.size so sc (rs.map Rl.cells) (Rl.cells ⟨what, sy, po, pc, ps⟩) rfl (by simp [Rl.cells, Value.oneCell']) _ 1 (by rw [List.length_map]; rfl) M4.out.1.2.1 rfl hsl.out hwV.out ?_; intro g cg w5 hg5 ht5 ho5 hl5; rw [List.length_map]; have M5 := hide' (And.intro hg5 ht5); clear hg5 ht5 ho5 hl5)
          have hx5 : Ax q2 q3 #[.slice ao al.length ac, .map (some qp), .slice F.u.1 F.u.2.2.length F.u.2.1, .map (some qx)] #[.string z, .float .f64 tr, mv] w w5 := M4.out.1.1.turn M5.out.2 (fun r => by obtain ⟨cur, k⟩ := kindG M4.out.1.2.1 r; exact cells_ne k M4.out.1.1.h2 (by decide) rfl) (fun r => by obtain ⟨cur, k⟩ := kindG M4.out.1.2.1 r; exact cells_ne k M4.out.1.1.h3 (by decide) rfl) (fun j r => (M4.out.1.2.1.lt j r).1)
          exact ⟨⟨n + 1, some ⟨g, 0, none⟩, cg, rs ++ [⟨what, sy, po, pc, ps⟩], by go_num, by rw [List.length_append]; rfl, by omega, by rw [← Huo.out]; exact hx5, M4.out.1.2.snoc (r := ⟨what, sy, po, pc, ps⟩) M4.out.2 M5.out.1 M5.out.2, by rw [hYY.out, List.map_append, HD.out.1]; rfl, by rw [List.length_append]; exact Nat.succ_le_succ HD.out.2⟩, by simp [intOf]; omega⟩
    · have hkl : n = F.u.2.2.length := by omega
      subst hkl
      have hlt' : ¬ (F.u.2.2.length : Int) < (F.u.2.2.length : Int) := by omega
      have KK : Hid (AbIs al is tr F.u.2.2 w (.returned (.slice so rs.length sc)) wr) := by have q := HM.out; rw [List.take_length] at q; exact ⟨so, sc, rs, rfl, q.2.1, q.2.2.1, q.1.b⟩
      clear HM
      go_wp2_with fail
      go_ret
      exact KK.out
end U
end Go.Proofs.Ytollaamlnddhcaa
set_option linter.unusedVariables false
set_option linter.unusedSimpArgs false
namespace Go.Proofs.Ytollaamlnddhcaa
open Go.RowKit Go.Maps
namespace U
set_option maxRecDepth 100000 in
set_option maxHeartbeats 4000000 in
theorem excepted_is (F : Pf) (ao : Option Addr) (ac : Nat) (al : List ByteArray) (qp qx : Nat) (xs : List X.K3) (t1 t2 t3 : ByteArray) (w : World) (h : X.Tset qx xs w) (hs : X.okk (t1, t2, t3)) : Calls Try.prog 71 #[.agg #[.slice ao al.length ac, .map (some qp), .slice F.u.1 F.u.2.2.length F.u.2.1, .map (some qx)], .agg #[.string t1, .string t2, .string t3]] w fun e w' => e = .returned (.bool (isIn xs (t1, t2, t3))) ∧ Below w.heap.size w w' := by
  have hr : ∀ o p, (Instr.lookup 74 (.map (some qx)) (.agg #[.string t1, .string t2, .string t3]) true).run Try.prog ((w.alloc o).alloc p) = .ok (.tuple #[.agg #[], .bool (isIn xs (t1, t2, t3))]) ((w.alloc o).alloc p) := fun o p => X.look_set (k := (t1, t2, t3)) (h.turn (((Turn.refl (fun _ => False) w).alloc o).alloc p) id) hs
  clear h
  go_enter Try.func71, Try.ntmps71
  go_wp2_with fail
  go_ret
  exact ⟨rfl, (((Below.refl _ _).alloc (Nat.le_refl _) _).alloc (by simp) _).alloc (by simp; omega) _⟩
structure Tx (q4 q5 q6 q8 : Nat) (rd p1 p2 : Array Value) (w V : World) : Prop where
  b : Below w.heap.size w V
  h4 : V.heap[q4]? = some (.cells rd 87 (0, 0))
  h5 : V.heap[q5]? = some (.cells p1 97 (0, 0))
  h6 : V.heap[q6]? = some (.cells p2 97 (0, 0))
  h8 : V.heap[q8]? = some (.cells #[.string ⟨#[]⟩, .string ⟨#[]⟩, .string ⟨#[]⟩] 42 (0, 0))
theorem Tx.start (rd p1 p2 : Array Value) (w : World) : Tx w.heap.size (w.heap.size + 1) (w.heap.size + 1 + 1) (w.heap.size + 1 + 1 + 1) rd p1 p2 w ((((w.alloc (.cells rd 87)).alloc (.cells p1 97)).alloc (.cells p2 97)).alloc (.cells #[.string ⟨#[]⟩, .string ⟨#[]⟩, .string ⟨#[]⟩] 42)) := by
  have b0 : Below w.heap.size w (w.alloc (.cells rd 87)) := (Below.refl _ _).alloc (Nat.le_refl _) _
  have b1 : Below w.heap.size w ((w.alloc (.cells rd 87)).alloc (.cells p1 97)) := b0.alloc (by simp) _
  have b2 : Below w.heap.size w (((w.alloc (.cells rd 87)).alloc (.cells p1 97)).alloc (.cells p2 97)) := b1.alloc (by simp; omega) _
  have b3 := b2.alloc (by simp; omega) (.cells #[.string ⟨#[]⟩, .string ⟨#[]⟩, .string ⟨#[]⟩] 42)
  have z1 : (w.alloc (.cells rd 87)).heap.size = w.heap.size + 1 := by simp
  have z2 : ((w.alloc (.cells rd 87)).alloc (.cells p1 97)).heap.size = w.heap.size + 1 + 1 := by simp
  have z3 : (((w.alloc (.cells rd 87)).alloc (.cells p1 97)).alloc (.cells p2 97)).heap.size = w.heap.size + 1 + 1 + 1 := by simp
  have a0 := heap_alloc_new w (.cells rd 87)
  have a1 := heap_alloc_new (w.alloc (.cells rd 87)) (.cells p1 97)
  have a2 := heap_alloc_new ((w.alloc (.cells rd 87)).alloc (.cells p1 97)) (.cells p2 97)
  have a3 := heap_alloc_new (((w.alloc (.cells rd 87)).alloc (.cells p1 97)).alloc (.cells p2 97)) (.cells #[.string ⟨#[]⟩, .string ⟨#[]⟩, .string ⟨#[]⟩] 42)
  rw [z1] at a1
  rw [z2] at a2
  rw [z3] at a3
  refine ⟨b3, ?_, ?_, ?_, a3⟩
  · exact (Below.heap_alloc _ _ _ (by rw [z3]; omega)).trans ((Below.heap_alloc _ _ _ (by rw [z2]; omega)).trans ((Below.heap_alloc _ _ _ (by rw [z1]; omega)).trans a0))
  · exact (Below.heap_alloc _ _ _ (by rw [z3]; omega)).trans ((Below.heap_alloc _ _ _ (by rw [z2]; omega)).trans a1)
  · exact (Below.heap_alloc _ _ _ (by rw [z3]; omega)).trans a2
set_option maxRecDepth 100000 in
set_option maxHeartbeats 4000000 in
theorem triple_is (F : Pf) (ao : Option Addr) (ac : Nat) (al : List ByteArray) (qp qx : Nat) (z1 z2 a : ByteArray) (r1 r2 : Nat) (m1 m2 : Value) (k : Nat) (w : World) (ha : S.Ints ao al w) (hac : al.length ≤ ac) (hal : al.length ≤ 1048576) (hk : al[k]? = some a) : Calls Try.prog 50 #[.agg #[.slice ao al.length ac, .map (some qp), .slice F.u.1 F.u.2.2.length F.u.2.1, .map (some qx)], .agg #[.string z1, .float .f64 r1, m1], .agg #[.string z2, .float .f64 r2, m2], .int .i64 (k : Int)] w fun e w' => e = .returned (.agg #[.string z1, .string z2, .string a]) ∧ Below w.heap.size w w' := by
  obtain ⟨ab, off, rfl, hab, x0⟩ := ha.at hk
  have hkl : k < al.length := (List.getElem?_eq_some_iff.1 hk).1
  have hk' : (k : Int) < (al.length : Int) := by omega
  clear ha hk
  go_enter Try.func50, Try.ntmps50
  go_wp2_with fail
  have X0 := hide' (Tx.start #[.slice (some ⟨ab, off, none⟩) al.length ac, .map (some qp), .slice F.u.1 F.u.2.2.length F.u.2.1, .map (some qx)] #[.string z1, .float .f64 r1, m1] #[.string z2, .float .f64 r2, m2] w)
  generalize (((w.alloc (.cells #[.slice (some ⟨ab, off, none⟩) al.length ac, .map (some qp), .slice F.u.1 F.u.2.2.length F.u.2.1, .map (some qx)] 87)).alloc (.cells #[.string z1, .float .f64 r1, m1] 97)).alloc (.cells #[.string z2, .float .f64 r2, m2] 97)).alloc (.cells #[.string ⟨#[]⟩, .string ⟨#[]⟩, .string ⟨#[]⟩] 42) = V at *
  obtain ⟨q4, hq4⟩ : ∃ q4, q4 = w.heap.size := ⟨_, rfl⟩
  have hq8 : Hid (w.heap.size ≤ w.heap.size + 1 + 1 + 1) := by show _ ≤ _; omega
  generalize w.heap.size + 1 + 1 + 1 = q8 at *
  generalize w.heap.size + 1 + 1 = q6 at *
  generalize w.heap.size + 1 = q5 at *
  have X1 : Hid (Tx q4 q5 q6 q8 #[.slice (some ⟨ab, off, none⟩) al.length ac, .map (some qp), .slice F.u.1 F.u.2.2.length F.u.2.1, .map (some qx)] #[.string z1, .float .f64 r1, m1] #[.string z2, .float .f64 r2, m2] w V) := by rw [hq4]; exact X0
  clear X0
  rw [← hq4]
  clear hq4
  have d0 := (X1.out.b.cell (p := ⟨ab, off + k, none⟩) hab).trans x0
  have e4 : V.cell? ⟨q4, 0, none⟩ = some (.slice (some ⟨ab, off, none⟩) al.length ac) := by rw [Lib.cell_of_heap X1.out.h4]; rfl
  have e5 : V.cell? ⟨q5, 0, none⟩ = some (.string z1) := by rw [Lib.cell_of_heap X1.out.h5]; rfl
  have e6 : V.cell? ⟨q6, 0, none⟩ = some (.string z2) := by rw [Lib.cell_of_heap X1.out.h6]; rfl
  have c0 : V.cell? ⟨q8, 0, none⟩ = some (.string ⟨#[]⟩) := by rw [Lib.cell_of_heap X1.out.h8]; rfl
  have c1 : V.cell? ⟨q8, 1, none⟩ = some (.string ⟨#[]⟩) := by rw [Lib.cell_of_heap X1.out.h8]; rfl
  have c2 : V.cell? ⟨q8, 2, none⟩ = some (.string ⟨#[]⟩) := by rw [Lib.cell_of_heap X1.out.h8]; rfl
  have g0 := Lib.frozen_of_heap X1.out.h8 0
  have g1 := Lib.frozen_of_heap X1.out.h8 1
  have g2 := Lib.frozen_of_heap X1.out.h8 2
  have SS := hide' (sto3 X1.out.h8)
  have tH := hide' (SS.out.fin (.string z1) (.string z2) (.string a))
  have tT := hide' (SS.out.tt (.string z1) (.string z2) (.string a))
  have hbV := hide' X1.out.b
  clear SS X1 x0 hab
  go_region
  go_wp2_with fail
  (try simp only [Exit.inBlock, Exit.then])
  refine bodyPost_ret (results_cell_row rfl _ _ q8 42 #[.string z1, .string z2, .string a] (0, 0) _ rfl tH.out Try.underlying42 rfl (by kernel_rfl)) rfl ?_
  exact ⟨rfl, (hbV.out.trans (below_own tT.out (fun j e => by rw [e]; exact hq8.out) hbV.out.size)).trans ⟨rfl, rfl, rfl, Nat.le_refl _, fun _ _ => rfl⟩⟩
end U
end Go.Proofs.Ytollaamlnddhcaa
