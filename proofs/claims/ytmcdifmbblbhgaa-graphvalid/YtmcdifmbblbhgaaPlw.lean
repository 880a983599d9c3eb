import Derived.Test.YtmcdifmbblbhgaaPlm
set_option linter.unusedVariables false
set_option linter.unusedSimpArgs false
namespace Go.Proofs.Ytmcdifmbblbhgaa
open Go.RowKit Go.Maps
namespace V
open U D
theorem bdrew {B : Nat} (V : World) (n : Nat) : Below B V (V.drewN n) := ⟨rfl, rfl, rfl, Nat.le_refl _, fun _ _ => rfl⟩
theorem below_own {S : Nat → Prop} {B : Nat} {w w' : World} (t : Turn S w w') (hS : ∀ k, S k → B ≤ k) (hB : B ≤ w.heap.size) : Below B w w' := t.below hS hB
theorem map_turn {w w' : World} {b : Nat} (h : w.mapTurned w' b) : Turn (fun j => j = b) w w' := by
  obtain ⟨es, cl, es', cl', hb, rfl⟩ := h
  refine ⟨rfl, rfl, rfl, ?_, fun k hk hn => ?_⟩
  · simp [Go.ChangeMaps.setBlock]
  · simp [Go.ChangeMaps.setBlock, Array.getElem?_setIfInBounds, Ne.symm hn]
theorem Below.big {B C : Nat} {w w' : World} (b : Below B w w') (h : C ≤ B) : Below C w w' := b.mono h
set_option maxHeartbeats 4000000 in
set_option maxRecDepth 100000 in
theorem placesOf_any (ao : Option Addr) (cap : Nat) (zs : List ByteArray) (w : World) (h : Lies 1 ao (zs.map fun z => [Value.string z]) w) (hc : zs.length ≤ cap) (hl : (zs.length : Int) ≤ 65536) (hk : ∀ z ∈ zs, S.okk z) :
    Calls Try.prog 69 #[.slice ao zs.length cap] w fun e w' => ∃ bm f, e = .returned (.map (some bm)) ∧ Pl.Lm bm w.heap.size zs f w' ∧ Below w.heap.size w w' := by
  have H := hide' h
  have HK := hide' hk
  have HL := hide' hl
  clear h hk
  have hmm := @run_makeMap Try.prog
  go_enter Try.func69, Try.ntmps69
  go_wp2
  have M0 : Hid (Below w.heap.size w (w.alloc (.map #[] 0)) ∧ Pl.Lm w.heap.size w.heap.size [] (fun _ => none) (w.alloc (.map #[] 0))) := ⟨(Below.refl _ _).alloc (Nat.le_refl _) _, Pl.Lm.made w _ (Nat.le_refl _)⟩
  generalize w.alloc (.map #[] 0) = V0 at *
  obtain ⟨bm, hbm⟩ : ∃ bm, bm = w.heap.size := ⟨_, rfl⟩
  have M1 : Hid (Below w.heap.size w V0 ∧ Pl.Lm bm w.heap.size [] (fun _ => none) V0) := by rw [hbm]; exact M0
  rw [← hbm]
  clear M0 hbm hmm
  go_loopw [9] (fun iv wx => ∃ (i : Nat) (f : ByteArray → Option V3), iv = .int .i64 (i : Int) ∧ i ≤ zs.length ∧ Hid (Below w.heap.size w wx ∧ Pl.Lm bm w.heap.size (zs.take i) f wx)) (fun iv _ => zs.length - (intOf iv).toNat)
  case atStart => exact ⟨0, _, rfl, Nat.zero_le _, M1⟩
  case round =>
    obtain ⟨i, f, rfl, hi, HM⟩ := hrel
    by_cases hlt : i < zs.length
    · have hlt' : (i : Int) < (zs.length : Int) := by omega
      obtain ⟨z, hz⟩ : ∃ z, zs[i]? = some z := ⟨_, List.getElem?_eq_getElem hlt⟩
      obtain ⟨x, off, rfl, _, c1⟩ := (H.out.below HM.out.1).one hz
      have hok := hide' (HK.out z (List.mem_of_getElem? hz))
      have htk : Hid (zs.take (i + 1) = zs.take i ++ [z]) := by show _ = _; rw [List.take_add_one, hz]; rfl
      have hqi : Hid ((zs.take i).length = i) := by show _ = _; rw [List.length_take]; omega
      have hil : Hid (i ≤ 65536) := by have := HL.out; show _ ≤ _; omega
      clear hz
      generalize zs.take i = qs at *
      obtain ⟨bo, l, c, hval, hll, hrow0, hcase⟩ := HM.out.2.row z
      have r0 := HM.out.2.run hok.out
      rw [hval] at r0
      have Hval := hide' hval
      have Hrow := hide' hrow0
      have Hll := hide' hll
      have hl6 : Hid ((Pl.plc qs z).length < 4398046511104) := by have := Pl.plc_len qs z; have := hqi.out; have := hil.out; show _ < _; omega
      have hwV := HM.out.1.size
      clear hval hrow0 hcase hll
      go_wp2_with (at_builtin; refine stay_app _ _ _ rfl ?_)
      unfold Stay
      refine I.wpList_app1 wr rfl _ _ rfl w.heap.size bo c (Pl.plc qs z) (i : Int) 3 _ (by rw [← Hll.out]; rfl) Hrow.out rfl hl6 hwV ?_
      intro g2 c2 w1 hr t1 hg hg2
      rw [← Hll.out]
      have G1 := hide' (And.intro hr (And.intro t1 hg))
      have m1 : ¬ I.At bo bm := fun r => by
        obtain ⟨cur, k⟩ := Pl.kindI Hrow.out r
        obtain ⟨D, ⟨es, cl, hb, _⟩, _⟩ := HM.out.2.map
        rw [k] at hb; cases hb
      obtain ⟨D, hown, hD, hsz, hhs⟩ := HM.out.2.map
      obtain ⟨w2, hrun, hown2, ht2⟩ := (t1.map hown m1).store S.law Try.underlying101 (by have := hqi.out; have := hil.out; unfold maxLen; omega) (S.hkey hok.out) (sE_val (some (g2, l + 1, c2)))
      have G2 := hide' (And.intro hown (And.intro hD (And.intro hsz (And.intro hhs (And.intro hown2 ht2)))))
      have hrun' : (Instr.mapUpdate 101 (.map (some bm)) (.string z) (.slice (some ⟨g2, 0, none⟩) (l + 1) c2)).run Try.prog w1 = .ok () w2 := hrun
      clear hr t1 hg hg2 m1 hown hD hsz hhs hrun hown2 ht2
      go_wp2
      have t2 : Turn (fun j => j = bm) w1 w2 := map_turn G2.out.2.2.2.2.2
      have hput := HM.out.2.put hok.out Hval.out (by rw [hqi.out]; exact G1.out.1) G1.out.2.1 G1.out.2.2 G2.out.2.1 G2.out.1.isMap (G2.out.1.tidy S.law) G2.out.2.2.1 G2.out.2.2.2.1 G2.out.2.2.2.2.1 t2 Hll.out
      have b1 : Below w.heap.size wr w1 := below_own G1.out.2.1 (fun j q => (Hrow.out.lt j q).1) hwV
      have b2 : Below w.heap.size w1 w2 := below_own t2 (fun j q => by rw [q]; exact HM.out.2.bB) (Nat.le_trans hwV b1.size)
      exact ⟨⟨i + 1, _, by go_num, by omega, (HM.out.1.trans b1).trans b2, by rw [htk.out]; exact hput⟩, by simp [intOf]; omega⟩
    · have hi' : i = zs.length := by omega
      have hlt' : ¬ (i : Int) < (zs.length : Int) := by omega
      have HM2 := HM
      rw [hi', List.take_length] at HM2
      clear HM hi' hlt hi
      go_wp2
      go_ret
      exact ⟨_, rfl, ⟨_, HM2.out.2⟩, HM2.out.1⟩
theorem ret_b {a b : Bool} (h : a = b) : Ending.returned (.bool a) = .returned (.bool b) := by rw [h]
/-- no name stands twice -/
def nun (zs : List ByteArray) : Bool := (dst zs).length == zs.length
set_option maxHeartbeats 4000000 in
set_option maxRecDepth 100000 in
theorem noneTwice_any (ao : Option Addr) (cap : Nat) (zs : List ByteArray) (w : World) (h : Lies 1 ao (zs.map fun z => [Value.string z]) w) (hc : zs.length ≤ cap) (hl : (zs.length : Int) ≤ 65536) (hk : ∀ z ∈ zs, S.okk z) :
    Calls Try.prog 31 #[.slice ao zs.length cap] w fun e w' => e = .returned (.bool (nun zs)) ∧ Below w.heap.size w w' := by
  have C := hide' (placesOf_any ao cap zs w h hc hl hk)
  clear h hc hk
  go_enter Try.func31, Try.ntmps31
  go_wp2_with (go_at_call 69; refine C.out.mono ?_; rintro e V ⟨bm, f, rfl, hm, b⟩; obtain ⟨D, hown, _, hsz, _⟩ := hm.map; have hlen := hown.len Try.underlying101 3; rw [hsz] at hlen; have B := hide' b; clear hm hown hsz b)
  by_cases q : (dst zs).length = zs.length
  · have hq : nun zs = true := by unfold nun; rw [q]; exact beq_self_eq_true _
    rw [hq]
    go_ret
    exact ⟨by rw [q]; simp, B.out⟩
  · have hq : nun zs = false := by unfold nun; exact beq_eq_false_iff_ne.2 q
    rw [hq]
    have q2 : ¬ ((dst zs).length : Int) = (zs.length : Int) := by omega
    go_ret
    exact ⟨by simp [q, q2], B.out⟩
end V
end Go.Proofs.Ytmcdifmbblbhgaa
