import Derived.Test.YtmdkgiglibfihaaUpG
set_option linter.unusedVariables false
set_option linter.unusedSimpArgs false
namespace Go.Proofs.Ytmdkgiglibfihaa
open Go.RowKit Go.Maps
namespace U
/-- where a list lies: its block, its length, its room -/
abbrev V3 := Nat × Nat × Nat
def val (v : V3) : Value := .slice (some ⟨v.1, 0, none⟩) v.2.1 v.2.2
def dat (v : V3) : DataW Unit := .agg [.lit (.int .i64 (v.1 : Int)), .lit (.int .i64 (v.2.1 : Int)), .lit (.int .i64 (v.2.2 : Int))]
/-- how a slice in a map reads: by where it lies -/
def sE : Value → Option (DataW Unit × List MemPlace)
  | .slice none _ _ => some (.agg [], [])
  | .slice (some ⟨b, 0, none⟩) l c => some (dat (b, l, c), [])
  | _ => none
theorem sE_val (v : V3) : sE (val v) = some (dat v, []) := rfl
theorem sE_inv {v : Value} {x : V3} {ps : List MemPlace} (h : sE v = some (dat x, ps)) : v = val x := by
  obtain ⟨a, b', c'⟩ := x
  unfold sE at h
  split at h
  · simp [dat] at h
  · rename_i b l c
    simp only [dat, Option.some.injEq, Prod.mk.injEq, DataW.agg.injEq, List.cons.injEq, DataW.lit.injEq, Lit.int.injEq, and_true, true_and] at h
    obtain ⟨⟨h1, h2, h3⟩, _⟩ := h
    have e1 : b = a := by omega
    have e2 : l = b' := by omega
    have e3 : c = c' := by omega
    subst e1 e2 e3
    rfl
  · cases h
/-- what a map of lists holds -/
def Holds (D : DataW Unit) (us : List (ByteArray × V3)) : Prop := ∀ k, S.okk k → Maps.has D (S.lit k) = isIn (us.map (·.1)) k ∧ ∀ v, (k, v) ∈ us → D.atKey (S.lit k) (.agg []) = dat v
/-- BLOCK bm IS A MAP of texts to lists -/
structure Mp (bm : Nat) (us : List (ByteArray × V3)) (w : World) : Prop where
  nd : (us.map (·.1)).Nodup
  oks : ∀ u ∈ us, S.okk u.1
  map : ∃ D, w.ownsMap Try.prog 9 sE bm us.length D ∧ Holds D us ∧ Maps.size D = us.length
theorem Mp.made (w : World) : Mp w.heap.size [] (w.alloc (.map #[] 0)) := by
  refine ⟨by simp, by simp, .map [], World.ownsMap_made w Try.prog 9 _, fun k _ => ⟨by simp [Maps.has, isIn], fun v h => by cases h⟩, rfl⟩
theorem Mp.lt {bm : Nat} {us : List (ByteArray × V3)} {w : World} (h : Mp bm us w) : bm < w.heap.size := by obtain ⟨D, h1, _⟩ := h.map; exact h1.lt
theorem Mp.turn {bm : Nat} {us : List (ByteArray × V3)} {w w' : World} {T : Nat → Prop} (h : Mp bm us w) (t : Turn T w w') (hT : ¬ T bm) : Mp bm us w' := by
  obtain ⟨D, h1, h2, h3⟩ := h.map
  exact ⟨h.nd, h.oks, D, t.map h1 hT, h2, h3⟩
theorem Mp.below {bm : Nat} {us : List (ByteArray × V3)} {w w' : World} (h : Mp bm us w) (t : Below w.heap.size w w') : Mp bm us w' := h.turn (turn_below (S := fun _ => False) t) id
theorem Holds.put {D : DataW Unit} {us : List (ByteArray × V3)} (h : Holds D us) (hm : IsMap D) (hoks : ∀ u ∈ us, S.okk u.1) {k : ByteArray} (hk : k ∉ us.map (·.1)) (hok : S.okk k) (v : V3) : Holds (D.put (S.lit k) (dat v)) (us ++ [(k, v)]) := by
  intro j hj
  by_cases e : j = k
  · subst e
    refine ⟨by rw [has_put_same hm (S.isKey hok)]; simp [isIn], fun v' hv => ?_⟩
    rw [atKey_put_same hm (S.isKey hok)]
    rcases List.mem_append.1 hv with q | q
    · exact absurd (List.mem_map_of_mem (f := (·.1)) q) hk
    · simp at q; rw [q]
  · have hne : S.lit j ≠ S.lit k := fun q => e (S.inj j k hj hok q)
    obtain ⟨h1, h2⟩ := h j hj
    refine ⟨by rw [has_put_other hne, h1]; simp [isIn, e], fun v' hv => ?_⟩
    rw [atKey_put_other hne]
    rcases List.mem_append.1 hv with q | q
    · exact h2 v' q
    · simp at q; exact absurd q.1 e
/-- behind a store of a new key -/
theorem Mp.put {bm : Nat} {us : List (ByteArray × V3)} {w w' : World} (h : Mp bm us w) {D : DataW Unit} (hh : Holds D us) (hsz : Maps.size D = us.length) (hown : w.ownsMap Try.prog 9 sE bm us.length D) {k : ByteArray} (hk : k ∉ us.map (·.1)) (hok : S.okk k) (v : V3) (h2 : w'.ownsMap Try.prog 9 sE bm (us.length + 1) (D.put (S.lit k) (dat v))) : Mp bm (us ++ [(k, v)]) w' := by
  refine ⟨?_, fun u hu => ?_, D.put (S.lit k) (dat v), by simpa using h2, hh.put hown.isMap h.oks hk hok v, ?_⟩
  · rw [List.map_append, List.nodup_append]
    exact ⟨h.nd, by simp, fun a ha b hb => by simp at hb; subst hb; exact fun e => hk (e ▸ ha)⟩
  · rcases List.mem_append.1 hu with q | q
    · exact h.oks u q
    · simp at q; rw [q]; exact hok
  · rw [size_put (hown.tidy S.law), (hh k hok).1, isIn_no hk, hsz]; simp
theorem zeroS (w : World) : (zeroValue 23).run Try.prog w = .ok (.slice none 0 0) w := by kernel_rfl
end U
end Go.Proofs.Ytmdkgiglibfihaa
set_option linter.unusedVariables false
set_option linter.unusedSimpArgs false
namespace Go.Proofs.Ytmdkgiglibfihaa
open Go.RowKit Go.Maps
namespace U
abbrev K2 := Q.K2
/-- all that is reached from a name -/
def clo (ps : List K2) (z : ByteArray) : List ByteArray := Bf.st (N.nxt ps) [z] (ps.length + 1)
theorem clo_of {ps : List K2} {z : ByteArray} {n : Nat} (h : (Bf.st (N.nxt ps) [z] n).length = n) : Bf.st (N.nxt ps) [z] n = clo ps z := by
  have c1 := Bf.st_le (F := N.nxt ps) (fr := [z]) N.uni_from N.uni_next (ps.length + 1)
  rw [N.uni_len] at c1
  exact Bf.st_one (by exact c1) (by omega)
theorem clo_len (ps : List K2) (z : ByteArray) : (clo ps z).length ≤ ps.length + 1 := by
  have c1 := Bf.st_le (F := N.nxt ps) (fr := [z]) N.uni_from N.uni_next (ps.length + 1)
  rw [N.uni_len] at c1
  exact c1
theorem clo_pos (ps : List K2) (z : ByteArray) : clo ps z ≠ [] := by
  have h := (Bf.st_prefix (F := N.nxt ps) (fr := [z]) (Nat.zero_le (ps.length + 1))).length_le
  intro e
  unfold clo at e
  rw [e] at h
  simp [Bf.st, Bf.add] at h
/-- the lists of a map: each in a row of its own -/
structure Lsts (ps : List K2) (B : Nat) (us : List (ByteArray × V3)) (w : World) : Prop where
  each : ∀ (i : Nat) (k : ByteArray) (g l c : Nat), us[i]? = some (k, g, l, c) → l = (clo ps k).length ∧ S.RowI B (some ⟨g, 0, none⟩) c (clo ps k) w
  ap : ∀ (i j : Nat) (u v : ByteArray × V3), us[i]? = some u → us[j]? = some v → i ≠ j → u.2.1 ≠ v.2.1
def Ls (us : List (ByteArray × V3)) (j : Nat) : Prop := ∃ u ∈ us, j = u.2.1
theorem Lsts.lt {ps : List K2} {B : Nat} {us : List (ByteArray × V3)} {w : World} (h : Lsts ps B us w) {j : Nat} (q : Ls us j) : B ≤ j ∧ j < w.heap.size := by
  obtain ⟨⟨k, g, l, c⟩, hu, e⟩ := q
  obtain ⟨i, hi⟩ := List.mem_iff_getElem?.1 hu
  have e' : j = g := e
  rw [e']
  exact (h.each i k g l c hi).2.lt g ⟨_, rfl, rfl⟩
theorem Lsts.turn {ps : List K2} {B : Nat} {us : List (ByteArray × V3)} {w w' : World} {T : Nat → Prop} (h : Lsts ps B us w) (t : Turn T w w') (hT : ∀ j, Ls us j → ¬ T j) : Lsts ps B us w' :=
  ⟨fun i k g l c hi => ⟨(h.each i k g l c hi).1, (h.each i k g l c hi).2.turn t (fun j q => by obtain ⟨a, e, rfl⟩ := q; cases e; exact hT g ⟨_, List.mem_of_getElem? hi, rfl⟩)⟩, h.ap⟩
theorem Lsts.below {ps : List K2} {B : Nat} {us : List (ByteArray × V3)} {w w' : World} (h : Lsts ps B us w) (t : Below w.heap.size w w') : Lsts ps B us w' := h.turn (turn_below (S := fun _ => False) t) (fun _ _ => id)
theorem Lsts.nil (ps : List K2) (B : Nat) (w : World) : Lsts ps B [] w := ⟨fun i k g l c h => by simp at h, fun i j u v h => by simp at h⟩
theorem Lsts.mono {ps : List K2} {B C : Nat} {us : List (ByteArray × V3)} {w : World} (h : Lsts ps B us w) (hC : C ≤ B) : Lsts ps C us w := ⟨fun i k g l c hi => ⟨(h.each i k g l c hi).1, (h.each i k g l c hi).2.mono hC⟩, h.ap⟩
theorem Lsts.snoc {ps : List K2} {B : Nat} {us : List (ByteArray × V3)} {w : World} (h : Lsts ps B us w) {k : ByteArray} {g c : Nat} (hr : S.RowI B (some ⟨g, 0, none⟩) c (clo ps k) w) (hn : ∀ j, Ls us j → j ≠ g) : Lsts ps B (us ++ [(k, g, (clo ps k).length, c)]) w := by
  refine ⟨fun i k' g' l c' hi => ?_, fun i j u v hi hj hne => ?_⟩
  · by_cases q : i < us.length
    · rw [List.getElem?_append_left q] at hi; exact h.each i k' g' l c' hi
    · rw [List.getElem?_append_right (by omega)] at hi
      cases e : i - us.length with
      | zero => rw [e] at hi; simp at hi; obtain ⟨rfl, rfl, rfl, rfl⟩ := hi; exact ⟨rfl, hr⟩
      | succ m => rw [e] at hi; simp at hi
  · have last : ∀ {i : Nat} {u : ByteArray × V3}, (us ++ [(k, g, (clo ps k).length, c)])[i]? = some u → (i < us.length ∧ us[i]? = some u) ∨ (i = us.length ∧ u.2.1 = g) := fun {i u} hi => by
      by_cases q : i < us.length
      · rw [List.getElem?_append_left q] at hi; exact .inl ⟨q, hi⟩
      · rw [List.getElem?_append_right (by omega)] at hi
        cases e : i - us.length with
        | zero => rw [e] at hi; simp at hi; rw [← hi]; exact .inr ⟨by omega, rfl⟩
        | succ m => rw [e] at hi; simp at hi
    rcases last hi with ⟨a, b⟩ | ⟨a, b⟩ <;> rcases last hj with ⟨a', b'⟩ | ⟨a', b'⟩
    · exact h.ap i j u v b b' hne
    · rw [b']; exact hn _ ⟨u, List.mem_of_getElem? b, rfl⟩
    · rw [b]; exact fun e => hn _ ⟨v, List.mem_of_getElem? b', rfl⟩ e.symm
    · omega
theorem _root_.Go.Proofs.Ytmdkgiglibfihaa.W.tthen {T : Nat → Prop} {a b c : World} (h : Turn T a b) (k : Below b.heap.size b c) : Turn T a c := h.then (turn_below (S := fun _ => False) k) (fun _ _ q => q.elim)
def far (ps : List K2) (z : ByteArray) : Bool := !(N.nxt ps z).isEmpty
/-- what Ups tells -/
def UpsIs (ps : List K2) (w : World) (e : Ending) (w' : World) : Prop := ∃ bm us, e = .returned (.map (some bm)) ∧ w.heap.size ≤ bm ∧ Mp bm us w' ∧ Lsts ps w.heap.size us w' ∧ us.map (·.1) = (W.nm ps).filter (far ps) ∧ Below w.heap.size w w'
set_option maxRecDepth 100000 in
set_option maxHeartbeats 4000000 in
theorem ups_any (po : Option Addr) (pcap : Nat) (ps : List K2) (w : World) (hx : Q.Ints po ps w) (hc : ps.length ≤ pcap) (hs : ∀ p ∈ ps, p.1.size ≤ 1048576 ∧ p.2.size ≤ 1048576) (hlen : Hid (ps.length ≤ 1048576)) :
    Calls Try.prog 24 #[.slice po ps.length pcap] w fun e w' => UpsIs ps w e w' := by
  have hmm := @run_makeMap Try.prog
  have HN := hide' (W.newWeb_any po pcap ps w hx hc (fun p hp => ⟨W.okk_of (hs p hp).1, W.okk_of (hs p hp).2⟩) hlen)
  have hsz : Hid (∀ z ∈ W.nm ps, z.size ≤ 1048576) := fun z hz => by
    obtain ⟨p, hp, e | e⟩ := W.nm_mem hz
    · rw [e]; exact (hs p hp).1
    · rw [e]; exact (hs p hp).2
  have hnl : Hid ((W.nm ps).length ≤ 2097152) := by have := W.nm_len ps; have := hlen.out; show _ ≤ _; omega
  clear hx hc hs
  go_enter Try.func24, Try.ntmps24
  go_wp2_with fail
  refine HN.out.mono ?_
  rintro e w1 ⟨wx, bm, no, ncap, xo, xcap, rs, rfl, hW, hA, b1⟩
  have H1 := hide' (And.intro hW (And.intro hA b1))
  have hncap : (W.nm ps).length ≤ ncap := hW.names.cap
  have c0 := hW.c0
  have lwx := lt_of_heap hW.hb
  have h64 : ((W.nm ps).length : Int) ≤ 2097152 := by have := hnl.out; omega
  clear hW hA b1 HN
  generalize hzz : W.nm ps = zs at *
  have Hzz := hide' hzz
  clear hzz
  go_wp2_with fail
  have M0 := hide' (Mp.made w1)
  have bV : Hid (Below w1.heap.size w1 (w1.alloc (.map #[] 0))) := (Below.refl _ _).alloc (Nat.le_refl _) _
  have hml : Hid (w1.heap.size < (w1.alloc (.map #[] 0)).heap.size) := by show _ < _; simp
  generalize w1.alloc (.map #[] 0) = V at *
  have hmw0 : Hid (w.heap.size ≤ w1.heap.size) := H1.out.2.2.size
  have HV0 : Hid (W.Wb w.heap.size wx bm no ncap xo xcap zs rs V ∧ (∀ j, W.Own wx bm no xo rs j → j ≠ w1.heap.size)) := ⟨H1.out.1.below bV.out, fun j q => by have := (H1.out.1.own j q).2; omega⟩
  have hwV : Hid (Below w.heap.size w V) := H1.out.2.2.trans (bV.out.mono hmw0.out)
  have HA := hide' H1.out.2.1
  clear H1 bV c0 lwx
  generalize w1.heap.size = mb at *
  have hmw := hmw0
  have HV := HV0
  clear hmw0 HV0
  go_loopw [15] (fun iv wy => ∃ (j : Nat) (us : List (ByteArray × V3)), iv = .int .i64 (j : Int) ∧ j ≤ zs.length ∧ us.map (·.1) = (zs.take j).filter (far ps) ∧ Mp mb us wy ∧ Lsts ps V.heap.size us wy ∧ Turn (fun q => q = mb) V wy) (fun iv _ => zs.length - (intOf iv).toNat)
  case atStart => exact ⟨0, [], rfl, by omega, by simp, M0.out, Lsts.nil _ _ _, Turn.refl _ _⟩
  case round =>
    obtain ⟨j, us, rfl, hjl, hus, hM, hL, hT⟩ := hrel
    by_cases hlt : j < zs.length
    · have hlt' : (j : Int) < (zs.length : Int) := by omega
      obtain ⟨z, hz⟩ : ∃ z, zs[j]? = some z := ⟨_, List.getElem?_eq_getElem hlt⟩
      have hWr := HV.out.1.turn hT HV.out.2
      have c0 := hWr.c0
      have c2 := hWr.c2
      obtain ⟨ng, rfl, nc, hnc, _, hng⟩ := S.row_at hWr.names hz
      obtain ⟨r, hr⟩ : ∃ r, rs[j]? = some r := ⟨_, List.getElem?_eq_getElem (by rw [hWr.len]; exact hlt)⟩
      obtain ⟨xg, rfl, xcell, hxc, hxB, hxl, xfz⟩ := W.row43_at hWr.row (i := j) (v := W.val r) (by rw [List.getElem?_map, hr]; rfl) (by simp [hWr.len])
      unfold W.val at xcell
      have hrn := HA.out.2.2.2 j z r hz hr
      have hzi := W.ix_of HA.out.1 hz
      have hzm : z ∈ zs := List.mem_of_getElem? hz
      have hzs := hsz.out z hzm
      have hrl : Hid (r.2.2.length = (N.nxt ps z).length) := by show _ = _; rw [hrn, List.length_map]
      have hrle : r.2.2.length ≤ 1048576 := by have := N.nxt_len ps z; have := hlen.out; have := hrl.out; omega
      have htk : Hid ((zs.take (j + 1)).filter (far ps) = (zs.take j).filter (far ps) ++ (if far ps z then [z] else [])) := by
        show _ = _
        rw [List.take_add_one, hz]
        simp only [Option.toList_some, List.filter_append]
        congr 1
        cases e : far ps z <;> simp [List.filter, e]
      have HW := hide' (And.intro hWr (And.intro hM (And.intro hL (And.intro hT (And.intro hus (And.intro hzi (And.intro hzm hzs)))))))
      have Hz := hide' hz
      clear hWr hM hL hT hus hzi hzm hrn hr
      by_cases hf : 0 < r.2.2.length
      · have hf' : (0 : Int) < (r.2.2.length : Int) := by omega
        have hfar : Hid (far ps z = true) := by
          show _ = _
          unfold far
          cases e : N.nxt ps z with
          | nil => have q := hrl.out; rw [e] at q; simp at q; rw [q] at hf; simp at hf
          | cons a b => rfl
        go_wp2_with fail
        refine (W.clone_any z wr (by have := HW.out.2.2.2.2.2.2.2; omega)).mono ?_
        rintro e w2 ⟨rfl, b2⟩
        have HW2 := hide' (And.intro (HW.out.1.below b2) (And.intro (HW.out.2.1.below b2) (And.intro (HW.out.2.2.1.below b2) (W.tthen HW.out.2.2.2.1 b2))))
        clear b2
        go_wp2_with fail
        have hU := W.upN_any w.heap.size wx bm (some ⟨ng, 0, none⟩) ncap (some ⟨xg, 0, none⟩) xcap ps zs rs j w2 HW2.out.1 HA.out hlt ⟨by have := hnl.out; omega, hlen.out⟩
        refine hU.mono ?_
        rintro e w3 ⟨n, ao, cap, hn, rfl, r3, b3⟩
        have hcap : n ≤ cap := by have := r3.cap; omega
        have hsub := Bf.st_sub (F := W.nxI rs) (fr := [(j : Int)]) (u := W.nums zs.length) (fun k hk => by simp at hk; subst hk; exact W.mem_nums.2 ⟨_, hlt, rfl⟩) HA.out.closed n
        have hnn : Hid (n ≤ 1073741824) := by
          have h1 := Bf.nodup_le (Bf.st_nodup (F := W.nxI rs) (fr := [(j : Int)]) n) hsub
          rw [W.nums_len, hn] at h1
          have := hnl.out
          show _ ≤ _
          omega
        have CT := hide' (W.told_any w.heap.size wx bm (some ⟨ng, 0, none⟩) ncap (some ⟨xg, 0, none⟩) xcap zs rs ao cap n (Bf.st (W.nxI rs) [(j : Int)] n) w3 (HW2.out.1.below b3) r3.ints hn hcap hsub (fun y hy => by have := hsz.out y hy; omega) ⟨by have := hnl.out; omega, hnn.out⟩)
        have hst : Hid ((Bf.st (W.nxI rs) [(j : Int)] n).map (W.nam zs) = clo ps z) := by
          have e := W.st_names HA.out HW.out.2.2.2.2.2.2.1 n
          rw [HW.out.2.2.2.2.2.1] at e
          show _ = _
          rw [e]
          exact clo_of (by rw [← e, List.length_map]; exact hn)
        have HW3 := hide' (And.intro (HW2.out.2.1.below b3) (And.intro (HW2.out.2.2.1.below b3) (W.tthen HW2.out.2.2.2 b3)))
        clear hU r3 b3 hsub hn HW2
        go_wp2_with fail
        refine CT.out.mono ?_
        rintro e w4 ⟨ao4, cap4, rfl, r4, b4⟩
        rw [hst.out] at r4 ⊢
        have HW4 := hide' (And.intro (HW3.out.1.below b4) (And.intro (HW3.out.2.1.below b4) (W.tthen HW3.out.2.2 b4)))
        obtain ⟨g, rfl, hg1, hg2, hgc⟩ : ∃ g, ao4 = some ⟨g, 0, none⟩ ∧ w3.heap.size ≤ g ∧ g < w4.heap.size ∧ (clo ps z).length ≤ cap4 := by
          rcases r4.form with ⟨_, q, _⟩ | ⟨g, e, q1, q2, q3⟩
          · exact absurd q (clo_pos ps z)
          · exact ⟨g, e, q1, q2, q3⟩
        have hw3 : Hid (V.heap.size ≤ w3.heap.size) := HW3.out.2.2.size
        have hgm : Hid (g ≠ mb) := by show g ≠ mb; have := HW3.out.1.lt; omega
        have hnin : Hid (z ∉ us.map (·.1)) := by
          show z ∉ us.map (·.1)
          rw [HW.out.2.2.2.2.1]
          intro q
          have q' := (List.mem_filter.1 q).1
          obtain ⟨i, hi⟩ := List.mem_iff_getElem?.1 q'
          rw [List.getElem?_take] at hi
          split at hi
          · have := W.ix_of HA.out.1 hi; have := HW.out.2.2.2.2.2.1; omega
          · cases hi
        have hok : Hid (S.okk z) := W.okk_of HW.out.2.2.2.2.2.2.2
        obtain ⟨D, hD1, hD2, hD3⟩ := HW4.out.1.map
        have hul : Hid (us.length < maxLen) := by
          have q : (us.map (·.1)).length = ((zs.take j).filter (far ps)).length := by rw [HW.out.2.2.2.2.1]
          have q2 := List.length_filter_le (far ps) (zs.take j)
          rw [List.length_map] at q
          rw [List.length_take] at q2
          have := hnl.out
          show _ < _
          unfold maxLen
          omega
        have HL := hide' (HW4.out.2.1.snoc (r4.mono hw3.out) (fun q e => by have := (HW3.out.2.1.lt e).2; omega))
        have HD := hide' (And.intro hD1 (And.intro hD2 hD3))
        clear hD1 hD2 hD3 r4 b4 CT
        go_wp2_with (at_mapUpdate; refine wpList_mapUpdate_own _ rfl _ _ _ 37 rfl 9 23 S.law Try.underlying37 sE mb us.length D rfl HD.out.1 hul.out _ _ _ rfl rfl (S.hkey hok.out) (dat (g, (clo ps z).length, cap4)) [] rfl ?_; intro w5 hown5 hg5; have O5 := hide' (And.intro hown5 hg5); clear hown5 hg5)
        have t5 : Turn (fun q => q = mb) w4 w5 := ⟨O5.out.2.os, O5.out.2.tape, O5.out.2.output, O5.out.2.size, fun k hk hne => O5.out.2.block k hk (by simpa using hne)⟩
        have hLs : ∀ q, Ls (us ++ [(z, g, (clo ps z).length, cap4)]) q → ¬ q = mb := fun q hq e => by
          obtain ⟨u, hu, rfl⟩ := hq
          rcases List.mem_append.1 hu with a | a
          · have := (HW.out.2.2.1.lt ⟨u, a, rfl⟩).1; have := hml.out; omega
          · simp at a; rw [a] at e; exact hgm.out e
        exact ⟨⟨j + 1, us ++ [(z, g, (clo ps z).length, cap4)], by go_num, by omega, by rw [htk.out, hfar.out, List.map_append, HW.out.2.2.2.2.1]; rfl, HW4.out.1.put HD.out.2.1 HD.out.2.2 HD.out.1 hnin.out hok.out _ O5.out.1, HL.out.turn t5 hLs, HW4.out.2.2.then t5 (fun _ _ q => q)⟩, by simp [intOf]; omega⟩
      · have hf' : ¬ (0 : Int) < (r.2.2.length : Int) := by omega
        have hfar : Hid (far ps z = false) := by
          show _ = _
          unfold far
          cases e : N.nxt ps z with
          | nil => rfl
          | cons a b => have q := hrl.out; rw [e] at q; simp at q; omega
        go_wp2_with fail
        exact ⟨⟨j + 1, us, by go_num, by omega, by rw [htk.out, hfar.out, HW.out.2.2.2.2.1]; simp, HW.out.2.1, HW.out.2.2.1, HW.out.2.2.2.1⟩, by simp [intOf]; omega⟩
    · have hjn : zs.length = j := by omega
      subst hjn
      have hlt' : ¬ (zs.length : Int) < (zs.length : Int) := by omega
      have K : Hid (UpsIs ps w (.returned (.map (some mb))) wr) := by
        have b5 : Below w.heap.size w wr := hwV.out.trans (W.below3 hT (fun q e => by rw [e]; exact hmw.out) hwV.out.size)
        refine ⟨mb, us, rfl, hmw.out, hM, hL.mono hwV.out.size, ?_, b5⟩
        rw [hus, List.take_length, ← Hzz.out]
      clear hus hM hL hT
      go_wp2_with fail
      go_ret
      exact K.out
end U
end Go.Proofs.Ytmdkgiglibfihaa
set_option linter.unusedVariables false
set_option linter.unusedSimpArgs false
namespace Go.Proofs.Ytmdkgiglibfihaa
open Go.RowKit Go.Maps
namespace U
def cN (u : ByteArray × V3) : List Value := [.string u.1, val u.2]
/-- a row of names, each with where its list lies -/
def RowN (B : Nat) (ao : Option Addr) (cap : Nat) (us : List (ByteArray × V3)) (w : World) : Prop := w.ownsRow B 41 2 (.slice ao us.length cap) us.length (us.flatMap cN)
theorem infoN : (Try.prog.info? 41).map (fun i => (i.zero, i.size, i.bytes)) = some (some (.agg #[.string ByteArray.empty, .slice none 0 0]), 2, 40) := by kernel_rfl
theorem RowN.nil (B : Nat) (w : World) : RowN B none 0 [] w := World.ownsRow_nil _ _ _ _
theorem RowN.form {B : Nat} {ao : Option Addr} {cap : Nat} {us : List (ByteArray × V3)} {w : World} (h : RowN B ao cap us w) : (ao = none ∧ us = [] ∧ cap = 0) ∨ ∃ g, ao = some ⟨g, 0, none⟩ ∧ B ≤ g ∧ g < w.heap.size ∧ us.length ≤ cap := by
  rcases h.2 with ⟨hv, h0⟩ | ⟨g, cap', cur, hv, hb, hg, h1, h2, h3, h4⟩
  · simp only [Value.slice.injEq] at hv
    exact .inl ⟨hv.1, List.eq_nil_of_length_eq_zero hv.2.1, hv.2.2⟩
  · simp only [Value.slice.injEq] at hv
    obtain ⟨rfl, _, rfl⟩ := hv
    exact .inr ⟨g, rfl, hb, lt_of_heap hg, by omega⟩
theorem RowN.cap {B : Nat} {ao : Option Addr} {cap : Nat} {us : List (ByteArray × V3)} {w : World} (h : RowN B ao cap us w) : us.length ≤ cap := by
  rcases h.form with ⟨_, rfl, rfl⟩ | ⟨g, _, _, _, h⟩
  · simp
  · exact h
theorem RowN.turn {T : Nat → Prop} {B : Nat} {ao : Option Addr} {cap : Nat} {us : List (ByteArray × V3)} {w w' : World} (h : RowN B ao cap us w) (t : Turn T w w') (hn : ∀ j, W.At ao j → ¬ T j) : RowN B ao cap us w' :=
  t.row h (fun g hg => hn g (by cases ao with | none => cases hg | some a => exact ⟨a, rfl, by simpa [Value.ownBlock] using hg.symm⟩))
theorem RowN.below {B : Nat} {ao : Option Addr} {cap : Nat} {us : List (ByteArray × V3)} {w w' : World} (h : RowN B ao cap us w) (t : Below w.heap.size w w') : RowN B ao cap us w' := h.turn (turn_below (S := fun _ => False) t) (fun _ _ q => q)
theorem RowN.lt {B : Nat} {ao : Option Addr} {cap : Nat} {us : List (ByteArray × V3)} {w : World} (h : RowN B ao cap us w) : ∀ j, W.At ao j → B ≤ j ∧ j < w.heap.size := by
  rintro j ⟨a, rfl, rfl⟩
  rcases h.form with ⟨e, _⟩ | ⟨g, e, h1, h2, _⟩
  · cases e
  · cases e; exact ⟨h1, h2⟩
theorem RowN.mono {B C : Nat} {ao : Option Addr} {cap : Nat} {us : List (ByteArray × V3)} {w : World} (h : RowN B ao cap us w) (hB : C ≤ B) : RowN C ao cap us w := by
  refine ⟨h.1, ?_⟩
  rcases h.2 with h2 | ⟨g, cap', cur, hv, hb, rest⟩
  · exact .inl h2
  · exact .inr ⟨g, cap', cur, hv, by omega, rest⟩
theorem flatN : ∀ (us : List (ByteArray × V3)) (j : Nat) {u : ByteArray × V3}, us[j]? = some u → (us.flatMap cN)[j * 2]? = some (.string u.1) ∧ (us.flatMap cN)[j * 2 + 1]? = some (val u.2)
  | [], j, u, h => by simp at h
  | a :: r, 0, u, h => by simp at h; subst h; simp [cN]
  | a :: r, j + 1, u, h => by
    obtain ⟨h1, h2⟩ := flatN r j (u := u) (by simpa using h)
    constructor
    · rw [show (j + 1) * 2 = j * 2 + 1 + 1 by omega]; simpa [cN] using h1
    · rw [show (j + 1) * 2 + 1 = j * 2 + 1 + 1 + 1 by omega]; simpa [cN] using h2
theorem RowN.at {B : Nat} {ao : Option Addr} {cap : Nat} {us : List (ByteArray × V3)} {w : World} (h : RowN B ao cap us w) {j : Nat} {u : ByteArray × V3} (hj : us[j]? = some u) : ∃ g, ao = some ⟨g, 0, none⟩ ∧ (w.cell? ⟨g, j * 2, none⟩ = some (.string u.1) ∧ w.cell? ⟨g, j * 2 + 1, none⟩ = some (val u.2)) ∧ us.length ≤ cap ∧ B ≤ g ∧ g < w.heap.size := by
  rcases h.2 with ⟨hv, h0⟩ | ⟨g, cap', cur, hv, hb, hg, h1, h2, h3, h4⟩
  · exfalso
    have hl := (List.getElem?_eq_some_iff.1 hj).1
    omega
  · simp only [Value.slice.injEq] at hv
    obtain ⟨rfl, _, rfl⟩ := hv
    have hl := (List.getElem?_eq_some_iff.1 hj).1
    obtain ⟨e1, e2⟩ := flatN us j hj
    refine ⟨g, rfl, ⟨?_, ?_⟩, by omega, hb, lt_of_heap hg⟩
    · rw [Lib.cell_of_heap hg]
      rw [← h4, List.getElem?_take_of_lt (by omega), Array.getElem?_toList] at e1
      exact e1
    · rw [Lib.cell_of_heap hg]
      rw [← h4, List.getElem?_take_of_lt (by omega), Array.getElem?_toList] at e2
      exact e2
/-- what an append leaves -/
theorem RowN.grown {B : Nat} {ao : Option Addr} {cap : Nat} {us : List (ByteArray × V3)} {k : ByteArray × V3} {w0 w1 : World} {ob : Obj} {g cap' : Nat} (h : RowN B ao cap us w0) (hrow1 : w1.ownsRow B 41 2 (.slice (some ⟨g, 0, none⟩) (us.length + 1) cap') (us.length + 1) (us.flatMap cN ++ [.string k.1, val k.2])) (hgrow : (w0.alloc ob).grownBy w1 (Value.slice ao us.length cap).ownBlock) (hat : (Value.slice ao us.length cap).ownBlock = some g ∨ g = w0.heap.size + 1) :
    RowN B (some ⟨g, 0, none⟩) cap' (us ++ [k]) w1 ∧ Turn (W.At ao) w0 w1 ∧ (ao = some ⟨g, 0, none⟩ ∨ w0.heap.size ≤ g) := by
  refine ⟨by unfold RowN; rw [List.length_append, List.flatMap_append]; simpa [cN] using hrow1, ((Turn.refl _ w0).alloc _).grown hgrow (fun j hj _ => by
    cases ao with
    | none => cases hj
    | some ad => exact ⟨ad, rfl, by simpa [Value.ownBlock] using hj.symm⟩), ?_⟩
  rcases hat with q | q
  · cases ao with
    | none => cases q
    | some ad =>
      left
      rcases h.form with ⟨e, _⟩ | ⟨g', e, _⟩
      · cases e
      · cases e; simp only [Value.ownBlock, Option.some.injEq] at q; rw [q]
  · right; omega
/-- the names that stand ahead in pairs, each where it stands first -/
def frm (ps : List K2) : List ByteArray := Bf.add [] (ps.map (·.1))
theorem frm_nodup (ps : List K2) : (frm ps).Nodup := Bf.add_nodup (by simp) _
theorem frm_mem {ps : List K2} {z : ByteArray} : z ∈ frm ps ↔ ∃ p ∈ ps, p.1 = z := by
  unfold frm
  rw [Bf.mem_add]
  simp
theorem frm_far {ps : List K2} {z : ByteArray} : z ∈ frm ps ↔ far ps z = true := by
  rw [frm_mem]
  unfold far
  constructor
  · rintro ⟨p, hp, rfl⟩
    cases e : N.nxt ps p.1 with
    | cons a b => rfl
    | nil =>
      exfalso
      have : p.2 ∈ N.nxt ps p.1 := by unfold N.nxt; rw [List.mem_map]; exact ⟨p, by rw [List.mem_filter]; exact ⟨hp, by simp⟩, rfl⟩
      rw [e] at this; cases this
  · intro h
    cases e : N.nxt ps z with
    | nil => rw [e] at h; cases h
    | cons a b =>
      obtain ⟨p, hp, h1, _⟩ := N.nxt_mem (ps := ps) (x := z) (y := a) (by rw [e]; simp)
      exact ⟨p, hp, h1⟩
end U
end Go.Proofs.Ytmdkgiglibfihaa
