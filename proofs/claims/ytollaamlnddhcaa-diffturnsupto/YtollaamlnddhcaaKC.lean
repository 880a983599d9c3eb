import Derived.Test.YtollaamlnddhcaaKB
import Derived.Deep.RegionHeld3
import Derived.Test.YtollaamlnddhcaaKM
set_option linter.unusedVariables false
set_option linter.unusedSimpArgs false
namespace Go.Proofs.Ytollaamlnddhcaa
open Go.RowKit Go.Maps
namespace U
/-- what is said of a place, once one more ruling speaks of it -/
def up1 (s : Int) (l : List Int) (k : Int) : List Int := l.set k.toNat (max (l.getD k.toNat 0) s)
def upk (s : Int) (l : List Int) (ks : List Int) : List Int := ks.foldl (up1 s) l
def sdl (iso : ByteArray → Bool) (l : List Int) (ds : List (ByteArray × Int × List Int)) : List Int := ds.foldl (fun l d => if iso d.1 then upk d.2.1 l d.2.2 else l) l
theorem up1_len (s : Int) (l : List Int) (k : Int) : (up1 s l k).length = l.length := by simp [up1]
theorem upk_len (s : Int) (l ks : List Int) : (upk s l ks).length = l.length := by
  induction ks generalizing l with
  | nil => rfl
  | cons k ks ih => show (upk s (up1 s l k) ks).length = _; rw [ih, up1_len]
theorem upk_take {s : Int} {l ks : List Int} {i : Nat} {k : Int} (h : ks[i]? = some k) : upk s l (ks.take (i + 1)) = up1 s (upk s l (ks.take i)) k := by unfold upk; rw [List.take_add_one, h, List.foldl_append]; rfl
theorem sdl_len (iso : ByteArray → Bool) (l : List Int) (ds : List (ByteArray × Int × List Int)) : (sdl iso l ds).length = l.length := by
  induction ds generalizing l with
  | nil => rfl
  | cons d ds ih =>
    show (sdl iso (if iso d.1 then upk d.2.1 l d.2.2 else l) ds).length = _
    rw [ih]
    split
    · exact upk_len _ _ _
    · rfl
theorem sdl_take {iso : ByteArray → Bool} {l : List Int} {ds : List (ByteArray × Int × List Int)} {i : Nat} {d : ByteArray × Int × List Int} (h : ds[i]? = some d) : sdl iso l (ds.take (i + 1)) = if iso d.1 then upk d.2.1 (sdl iso l (ds.take i)) d.2.2 else sdl iso l (ds.take i) := by unfold sdl; rw [List.take_add_one, h, List.foldl_append]; rfl
/-- the places that are left -/
def resl (l : List Int) (ex : Nat → Bool) (k : Nat) : List Int := ((List.range k).filter (fun i => l[i]? == some 1 && !ex i)).map (fun i : Nat => (i : Int))
theorem resl_succ (l : List Int) (ex : Nat → Bool) (k : Nat) : resl l ex (k + 1) = resl l ex k ++ (if (l[k]? == some 1 && !ex k) = true then [(k : Int)] else []) := by
  unfold resl
  rw [List.range_succ, List.filter_append, List.map_append]
  by_cases h : (l[k]? == some 1 && !ex k) = true
  · rw [if_pos h, List.filter_cons_of_pos (by simpa using h)]; rfl
  · rw [if_neg h, List.filter_cons_of_neg (by simpa using h)]; rfl
theorem resl_len (l : List Int) (ex : Nat → Bool) (k : Nat) : (resl l ex k).length ≤ k := by
  unfold resl
  rw [List.length_map]
  have := List.length_filter_le (fun i => l[i]? == some 1 && !ex i) (List.range k)
  rw [List.length_range] at this
  exact this
def b8 (l : List Int) : List Value := l.map (Value.int .i8)
theorem made8 (n : Nat) : (madeCells (Value.int .i8 0).cells (n * 1)).toList = b8 (List.replicate n 0) := by
  apply List.ext_getElem?
  intro j
  by_cases hj : j < n
  · simp [madeCells, b8, hj, Value.cells, Nat.mod_one]
  · simp [madeCells, b8, hj]
theorem row_cur8 {B g n : Nat} {xs : List Value} {w : World} (h : w.ownsRow B 62 1 (.slice (some ⟨g, 0, none⟩) n n) n xs) : w.heap[g]? = some (.cells xs.toArray 62 (0, 0)) := by
  have hl : xs.length = n := by have := h.1; omega
  rcases h.2 with ⟨hv, h0⟩ | ⟨g', cap', cur, hv, hb, hg, h1, h2, h3, h4⟩
  · cases hv
  simp only [Value.slice.injEq, Option.some.injEq] at hv
  obtain ⟨he, _, rfl⟩ := hv
  cases he
  rw [hg]
  have e : cur.toList = xs := by rw [← h4, List.take_of_length_le (by simp; omega)]
  rw [← e]
/-- what stands while the places are found -/
structure Dx (q4 q6 q7 sb : Nat) (rd p1 p2 : Array Value) (l : List Int) (w V : World) : Prop where
  b : Below w.heap.size w V
  h4 : V.heap[q4]? = some (.cells rd 87 (0, 0))
  h6 : V.heap[q6]? = some (.cells p1 97 (0, 0))
  h7 : V.heap[q7]? = some (.cells p2 97 (0, 0))
  hs : V.heap[sb]? = some (.cells (b8 l).toArray 62 (0, 0))
theorem Dx.turn {q4 q6 q7 sb : Nat} {rd p1 p2 : Array Value} {l : List Int} {w V V' : World} {T : Nat → Prop} (h : Dx q4 q6 q7 sb rd p1 p2 l w V) (t : Turn T V V') (n4 : ¬ T q4) (n6 : ¬ T q6) (n7 : ¬ T q7) (ns : ¬ T sb) (hB : ∀ j, T j → w.heap.size ≤ j) : Dx q4 q6 q7 sb rd p1 p2 l w V' :=
  ⟨h.b.trans (below_own t hB h.b.size), (t.block _ (lt_of_heap h.h4) n4).trans h.h4, (t.block _ (lt_of_heap h.h6) n6).trans h.h6, (t.block _ (lt_of_heap h.h7) n7).trans h.h7, (t.block _ (lt_of_heap h.hs) ns).trans h.hs⟩
theorem Dx.below {q4 q6 q7 sb : Nat} {rd p1 p2 : Array Value} {l : List Int} {w V V' : World} (h : Dx q4 q6 q7 sb rd p1 p2 l w V) (t : Below V.heap.size V V') : Dx q4 q6 q7 sb rd p1 p2 l w V' := h.turn (turn_below (S := fun _ => False) t) id id id id (fun _ q => q.elim)
theorem Dx.cell {q4 q6 q7 sb : Nat} {rd p1 p2 : Array Value} {l : List Int} {w V : World} (h : Dx q4 q6 q7 sb rd p1 p2 l w V) {k : Nat} {x : Int} (hk : l[k]? = some x) : V.cell? ⟨sb, k, none⟩ = some (.int .i8 x) := by rw [Lib.cell_of_heap h.hs]; simp [b8, hk]
theorem Dx.put {q4 q6 q7 sb : Nat} {rd p1 p2 : Array Value} {l : List Int} {w V : World} (h : Dx q4 q6 q7 sb rd p1 p2 l w V) (hB : w.heap.size ≤ sb) (k : Nat) (x : Int) : Dx q4 q6 q7 sb rd p1 p2 (l.set k x) w (V.setCell ⟨sb, k, none⟩ (.int .i8 x)) := by
  have t : Turn (fun j => j = sb) V (V.setCell ⟨sb, k, none⟩ (.int .i8 x)) := (Turn.refl (fun j => j = sb) V).setCell (p := ⟨sb, k, none⟩) (fun _ => rfl) _
  refine ⟨h.b.trans (below_own t (fun j e => by rw [e]; exact hB) h.b.size), (t.block _ (lt_of_heap h.h4) (cells_ne h.h4 h.hs (by decide))).trans h.h4, (t.block _ (lt_of_heap h.h6) (cells_ne h.h6 h.hs (by decide))).trans h.h6, (t.block _ (lt_of_heap h.h7) (cells_ne h.h7 h.hs (by decide))).trans h.h7, ?_⟩
  simp [World.setCell, Array.getElem?_modify, h.hs, b8, List.map_set]
theorem Dx.start (rd p1 p2 : Array Value) (l : List Int) (w W V : World) (hW : W = ((w.alloc (.cells rd 87)).alloc (.cells p1 97)).alloc (.cells p2 97)) (hg : W.grownBy V none) (hs : V.heap[w.heap.size + 1 + 1 + 1]? = some (.cells (b8 l).toArray 62 (0, 0))) : Dx w.heap.size (w.heap.size + 1) (w.heap.size + 1 + 1) (w.heap.size + 1 + 1 + 1) rd p1 p2 l w V := by
  subst hW
  have b0 : Below w.heap.size w (w.alloc (.cells rd 87)) := (Below.refl _ _).alloc (Nat.le_refl _) _
  have b1 : Below w.heap.size w ((w.alloc (.cells rd 87)).alloc (.cells p1 97)) := b0.alloc (by simp) _
  have b2 : Below w.heap.size w (((w.alloc (.cells rd 87)).alloc (.cells p1 97)).alloc (.cells p2 97)) := b1.alloc (by simp; omega) _
  have z1 : (w.alloc (.cells rd 87)).heap.size = w.heap.size + 1 := by simp
  have z2 : ((w.alloc (.cells rd 87)).alloc (.cells p1 97)).heap.size = w.heap.size + 1 + 1 := by simp
  have z3 : (((w.alloc (.cells rd 87)).alloc (.cells p1 97)).alloc (.cells p2 97)).heap.size = w.heap.size + 1 + 1 + 1 := by simp
  have a0 := heap_alloc_new w (.cells rd 87)
  have a1 := heap_alloc_new (w.alloc (.cells rd 87)) (.cells p1 97)
  have a2 := heap_alloc_new ((w.alloc (.cells rd 87)).alloc (.cells p1 97)) (.cells p2 97)
  rw [z1] at a1
  rw [z2] at a2
  have k : Below (((w.alloc (.cells rd 87)).alloc (.cells p1 97)).alloc (.cells p2 97)).heap.size (((w.alloc (.cells rd 87)).alloc (.cells p1 97)).alloc (.cells p2 97)) V := ⟨hg.os, hg.tape, hg.output, hg.size, fun j hj => hg.block j hj (by simp)⟩
  refine ⟨b2.trans (k.mono b2.size), ?_, ?_, ?_, hs⟩
  · exact (k.block _ (by rw [z3]; omega)).trans ((Below.heap_alloc _ _ _ (by rw [z2]; omega)).trans ((Below.heap_alloc _ _ _ (by rw [z1]; omega)).trans a0))
  · exact (k.block _ (by rw [z3]; omega)).trans ((Below.heap_alloc _ _ _ (by rw [z2]; omega)).trans a1)
  · exact (k.block _ (by rw [z3]; omega)).trans a2
theorem info23 : (Try.prog.info? 62).map (fun i => (i.zero, i.size, i.bytes)) = some (some (.int .i8 0), 1, 1) := by kernel_rfl
/-- what (reading).allowed tells -/
def AloIs (l : List Int) (ex : Nat → Bool) (n : Nat) (w : World) (e : Ending) (w' : World) : Prop := ∃ po pc, e = .returned (.slice po (resl l ex n).length pc) ∧ I.RowI w.heap.size po pc (resl l ex n) w' ∧ Below w.heap.size w w'
set_option maxRecDepth 100000 in
set_option maxHeartbeats 4000000 in
theorem allowedR_any (F : Pf) (ao : Option Addr) (ac : Nat) (al : List ByteArray) (qp qx B : Nat) (xs : List X.K3) (ro : Option Addr) (rc : Nat) (rs : List Rl) (z1 z2 : ByteArray) (r1 r2 : Nat) (m1 m2 : Value) (iso : ByteArray → Bool) (w : World) (ha : S.Ints ao al w) (hac : al.length ≤ ac) (hal : al.length ≤ 1048576) (hX : X.Tset qx xs w) (hok : ∀ a ∈ al, X.okk (z1, z2, a)) (hR : Rls B ro rc rs w) (hrl : rs.length ≤ 1048576) (hrp : ∀ r ∈ rs, r.ps.length ≤ 4398046511104 ∧ S.okk r.wh ∧ ∀ k ∈ r.ps, ∃ i : Nat, k = (i : Int) ∧ i < al.length) (hI : IsOf z2 r2 m2 iso w) :
    Calls Try.prog 49 #[.agg #[.slice ao al.length ac, .map (some qp), .slice F.u.1 F.u.2.2.length F.u.2.1, .map (some qx)], .slice ro rs.length rc, .agg #[.string z1, .float .f64 r1, m1], .agg #[.string z2, .float .f64 r2, m2]] w fun e w' => AloIs (sdl iso (List.replicate al.length 0) (rs.map Rl.dat)) (fun k => isIn xs (z1, z2, al.getD k ⟨#[]⟩)) al.length w e w' := by
  have HA := hide' ha
  have HX := hide' hX
  have HK := hide' hok
  have HR := hide' hR
  have HP := hide' hrp
  have HI := hide' hI
  have hal64 : (al.length : Int) ≤ 1048576 := by omega
  have hrl64 : (rs.length : Int) ≤ 1048576 := by omega
  have hrc : rs.length ≤ rc := by have := hR.1.cap; rw [List.length_map] at this; exact this
  obtain ⟨i0, hi, hz0, hz1, hz2⟩ := info_parts info23
  have Hi := hide' (And.intro hi (And.intro hz0 (And.intro hz1 hz2)))
  have hbl : Hid (∀ v v' : World, v.grownBy v' none → Below v.heap.size v v') := fun v v' g => ⟨g.os, g.tape, g.output, g.size, fun k hk => g.block k hk (by simp)⟩
  clear ha hX hok hR hrp hI hi hz0 hz1 hz2
  obtain ⟨L, hL⟩ : ∃ L, L = List.replicate al.length (0 : Int) := ⟨_, rfl⟩
  have hLl : Hid (L.length = al.length) := by rw [hL]; show _ = _; simp
  rw [← hL]
  have HL0 := hide' hL
  clear hL
  obtain ⟨ex, hex⟩ : ∃ ex : Nat → Bool, ex = (fun k => isIn xs (z1, z2, al.getD k ⟨#[]⟩)) := ⟨_, rfl⟩
  rw [← hex]
  have Hex := hide' hex
  clear hex
  go_enter Try.func49, Try.ntmps49
  go_wp2_with (at_make; refine wpList_make_full _ rfl _ _ 126 rfl w.heap.size 62 i0 (.int .i8 0) 1 Try.underlying126 Hi.out.1 Hi.out.2.1 Hi.out.2.2.1 _ _ _ _ al.length rfl rfl rfl rfl (by rw [Hi.out.2.2.2]; omega) (by unfold maxLen; omega) (by simp; omega) ?_; intro V0 hr0 hg0; rw [made8, ← HL0.out] at hr0; have D0 := hide' (And.intro (row_cur8 hr0) hg0); clear hr0 hg0)
  clear HL0
  have X0 : Hid (Dx w.heap.size (w.heap.size + 1) (w.heap.size + 1 + 1) (w.heap.size + 1 + 1 + 1) #[.slice ao al.length ac, .map (some qp), .slice F.u.1 F.u.2.2.length F.u.2.1, .map (some qx)] #[.string z1, .float .f64 r1, m1] #[.string z2, .float .f64 r2, m2] L w V0 ∧ w.heap.size ≤ w.heap.size + 1 + 1 + 1) := ⟨Dx.start _ _ _ _ _ _ _ rfl D0.out.2 (by have q := D0.out.1; simpa using q), by omega⟩
  clear D0
  obtain ⟨q4, hq4⟩ : ∃ q4, q4 = w.heap.size := ⟨_, rfl⟩
  generalize w.heap.size + 1 + 1 + 1 = sb at *
  generalize w.heap.size + 1 + 1 = q7 at *
  generalize w.heap.size + 1 = q6 at *
  have X1 : Hid (Dx q4 q6 q7 sb #[.slice ao al.length ac, .map (some qp), .slice F.u.1 F.u.2.2.length F.u.2.1, .map (some qx)] #[.string z1, .float .f64 r1, m1] #[.string z2, .float .f64 r2, m2] L w V0 ∧ w.heap.size ≤ sb) := by rw [hq4]; exact X0
  clear X0
  rw [← hq4]
  clear hq4
  have HB := hide' X1.out.2
  go_loopw [23] (fun iv wx => ∃ n : Nat, iv = .int .i64 (n : Int) ∧ n ≤ rs.length ∧ Hid (Dx q4 q6 q7 sb #[.slice ao al.length ac, .map (some qp), .slice F.u.1 F.u.2.2.length F.u.2.1, .map (some qx)] #[.string z1, .float .f64 r1, m1] #[.string z2, .float .f64 r2, m2] (sdl iso L ((rs.map Rl.dat).take n)) w wx)) (fun iv _ => rs.length - (intOf iv).toNat)
  case atStart => exact ⟨0, rfl, Nat.zero_le _, X1.out.1⟩
  case round =>
    obtain ⟨n, rfl, hn, HM⟩ := hrel
    clear X1
    by_cases hlt : n < rs.length
    · have hlt' : (n : Int) < (rs.length : Int) := by omega
      obtain ⟨r, hr⟩ : ∃ r, rs[n]? = some r := ⟨_, List.getElem?_eq_getElem hlt⟩
      have hstep := hide' (sdl_take (iso := iso) (l := L) (ds := rs.map Rl.dat) (i := n) (d := (r.wh, r.s, r.ps)) (by rw [List.getElem?_map, hr]; rfl))
      have hRw := hide' (HR.out.below HM.out.b)
      have hca : ∀ k ∈ rs.map Rl.cells, k.length = 3 := fun k hk => by rw [List.mem_map] at hk; obtain ⟨x, _, rfl⟩ := hk; rfl
      have hrow := hide' ((HR.out.2 r (List.mem_of_getElem? hr)).ints)
      have hrowc : r.ps.length ≤ r.pc := (hRw.out.2 r (List.mem_of_getElem? hr)).cap
      have HPr := hide' (HP.out r (List.mem_of_getElem? hr))
      have hrm : (rs.map Rl.cells)[n]? = some r.cells := by rw [List.getElem?_map, hr]; rfl
      obtain ⟨g, hg, d0, _, hgl⟩ := hRw.out.1.at hca hrm (r := 0) (u := .string r.wh) rfl
      obtain ⟨g', hg', d1, _⟩ := hRw.out.1.at hca hrm (r := 1) (u := .int .i8 r.s) rfl
      obtain ⟨g'', hg'', d2, _⟩ := hRw.out.1.at hca hrm (r := 2) (u := .slice r.po r.ps.length r.pc) rfl
      rw [hg] at hg' hg''
      cases hg'
      cases hg''
      rw [Nat.add_zero] at d0
      obtain ⟨wh, s, po, pc, ps⟩ := r
      have hpl : ps.length ≤ 4398046511104 := HPr.out.1
      have hpl64 : (ps.length : Int) ≤ 4398046511104 := by omega
      simp only at d0 d1 d2 hrowc hrow
      simp only at hstep
      have bV : Below wr.heap.size wr (wr.alloc (.cells #[.string wh, .int .i8 s, .slice po ps.length pc] 124)) := (Below.refl _ _).alloc (Nat.le_refl _) _
      have MV : Hid (Dx q4 q6 q7 sb #[.slice ao al.length ac, .map (some qp), .slice F.u.1 F.u.2.2.length F.u.2.1, .map (some qx)] #[.string z1, .float .f64 r1, m1] #[.string z2, .float .f64 r2, m2] (sdl iso L ((rs.map Rl.dat).take n)) w (wr.alloc (.cells #[.string wh, .int .i8 s, .slice po ps.length pc] 124)) ∧ (wr.alloc (.cells #[.string wh, .int .i8 s, .slice po ps.length pc] 124)).heap[wr.heap.size]? = some (.cells #[.string wh, .int .i8 s, .slice po ps.length pc] 124 (0, 0))) := ⟨HM.out.below bV, heap_alloc_new wr _⟩
      have e0 : (wr.alloc (.cells #[.string wh, .int .i8 s, .slice po ps.length pc] 124)).cell? ⟨q7, 0, none⟩ = some (.string z2) := by rw [Lib.cell_of_heap MV.out.1.h7]; rfl
      have e1 : (wr.alloc (.cells #[.string wh, .int .i8 s, .slice po ps.length pc] 124)).cell? ⟨q7, 1, none⟩ = some (.float .f64 r2) := by rw [Lib.cell_of_heap MV.out.1.h7]; rfl
      have e2 : (wr.alloc (.cells #[.string wh, .int .i8 s, .slice po ps.length pc] 124)).cell? ⟨q7, 2, none⟩ = some m2 := by rw [Lib.cell_of_heap MV.out.1.h7]; rfl
      have e3 : (wr.alloc (.cells #[.string wh, .int .i8 s, .slice po ps.length pc] 124)).cell? ⟨wr.heap.size, 0, none⟩ = some (.string wh) := by rw [Lib.cell_of_heap MV.out.2]; rfl
      have C47 := hide' (HI.out (wr.alloc (.cells #[.string wh, .int .i8 s, .slice po ps.length pc] 124)) wh HPr.out.2.1 MV.out.1.b)
      have Hg := hide' hg
      rw [hg]
      clear hg hr hca hrm hRw HM bV hgl
      go_wp2_with fail
      refine C47.out.mono ?_
      rintro e w2 ⟨rfl, b2⟩
      have M2 : Hid (Dx q4 q6 q7 sb #[.slice ao al.length ac, .map (some qp), .slice F.u.1 F.u.2.2.length F.u.2.1, .map (some qx)] #[.string z1, .float .f64 r1, m1] #[.string z2, .float .f64 r2, m2] (sdl iso L ((rs.map Rl.dat).take n)) w w2 ∧ w2.heap[wr.heap.size]? = some (.cells #[.string wh, .int .i8 s, .slice po ps.length pc] 124 (0, 0))) := ⟨MV.out.1.below b2, (b2.block _ (lt_of_heap MV.out.2)).trans MV.out.2⟩
      clear MV C47 e0 e1 e2 e3 b2 d0 d1 d2
      generalize wr.heap.size = q11 at *
      clear wr
      have hLn : Hid ((sdl iso L ((rs.map Rl.dat).take n)).length = al.length) := (sdl_len _ _ _).trans hLl.out
      generalize sdl iso L ((rs.map Rl.dat).take n) = M at *
      generalize iso wh = iv at *
      cases iv with
      | false =>
        have hs2 : Hid (sdl iso L ((rs.map Rl.dat).take (n + 1)) = M) := hstep.out
        go_wp2_with fail
        exact ⟨⟨n + 1, by go_num, by omega, by rw [hs2.out]; exact M2.out.1⟩, by simp [intOf]; omega⟩
      | true =>
        have hs2 : Hid (sdl iso L ((rs.map Rl.dat).take (n + 1)) = upk s M ps) := hstep.out
        have e2 : w2.cell? ⟨q11, 2, none⟩ = some (.slice po ps.length pc) := by rw [Lib.cell_of_heap M2.out.2]; rfl
        go_wp2_with fail
        go_loopw [34] (fun jv wx => ∃ i : Nat, jv = .int .i64 (i : Int) ∧ i ≤ ps.length ∧ Hid (Dx q4 q6 q7 sb #[.slice ao al.length ac, .map (some qp), .slice F.u.1 F.u.2.2.length F.u.2.1, .map (some qx)] #[.string z1, .float .f64 r1, m1] #[.string z2, .float .f64 r2, m2] (upk s M (ps.take i)) w wx ∧ wx.heap[q11]? = some (.cells #[.string wh, .int .i8 s, .slice po ps.length pc] 124 (0, 0)))) (fun jv _ => ps.length - (intOf jv).toNat)
        case atStart => exact ⟨0, rfl, Nat.zero_le _, M2⟩
        case round =>
          obtain ⟨i, rfl, hil, HN⟩ := hrel
          clear M2 e2
          by_cases hit : i < ps.length
          · have hit' : (i : Int) < (ps.length : Int) := by omega
            obtain ⟨kz, hkz⟩ : ∃ k, ps[i]? = some k := ⟨_, List.getElem?_eq_getElem hit⟩
            obtain ⟨k, rfl, hkl⟩ := HPr.out.2.2 kz (List.mem_of_getElem? hkz)
            obtain ⟨pb, off, hpo, hpb, d0⟩ := (hrow.out.below HN.out.1.b).at hkz
            have hup := hide' (upk_take (s := s) (l := M) hkz)
            have hMl : Hid ((upk s M (ps.take i)).length = al.length) := (upk_len _ _ _).trans hLn.out
            generalize upk s M (ps.take i) = N at *
            have hkl' : (k : Int) < (al.length : Int) := by omega
            obtain ⟨x, hx⟩ : ∃ x, N[k]? = some x := ⟨_, List.getElem?_eq_getElem (by rw [hMl.out]; exact hkl)⟩
            have hup2 : Hid (upk s M (ps.take (i + 1)) = N.set k (max x s)) := by show _ = _; rw [hup.out]; unfold up1; simp [hx]
            have e0 := HN.out.1.cell hx
            have f0 : wr.frozen? ⟨sb, k, none⟩ = false := Lib.frozen_of_heap HN.out.1.hs k
            have e1 : wr.cell? ⟨q11, 1, none⟩ = some (.int .i8 s) := by rw [Lib.cell_of_heap HN.out.2]; rfl
            have hne : q11 ≠ sb := cells_ne HN.out.2 HN.out.1.hs (by decide)
            have Hpo := hide' hpo
            rw [hpo]
            clear hpo hkz hpb hup hx
            go_wp2_with fail
            go_region
            go_wp2_with fail
            have t5 : Turn (fun j => j = sb) wr (wr.setCell ⟨sb, k, none⟩ (.int .i8 (max x s))) := (Turn.refl (fun j => j = sb) wr).setCell (p := ⟨sb, k, none⟩) (fun _ => rfl) _
            have hD5 := (HN.out.1.put HB.out k (max x s)).below (V' := (wr.setCell ⟨sb, k, none⟩ (.int .i8 (max x s))).drew) ⟨rfl, rfl, rfl, Nat.le_refl _, fun _ _ => rfl⟩
            have hQ5 : (wr.setCell ⟨sb, k, none⟩ (.int .i8 (max x s))).drew.heap[q11]? = some (.cells #[.string wh, .int .i8 s, .slice po ps.length pc] 124 (0, 0)) := (t5.block q11 (lt_of_heap HN.out.2) hne).trans HN.out.2
            exact ⟨⟨i + 1, by go_num, by omega, by rw [hup2.out, ← Hpo.out]; exact ⟨hD5, hQ5⟩⟩, by simp [intOf]; omega⟩
          · have hin : ps.length = i := by omega
            have hit' : ¬ (i : Int) < (ps.length : Int) := by omega
            subst hin
            have HN2 : Hid (Dx q4 q6 q7 sb #[.slice ao al.length ac, .map (some qp), .slice F.u.1 F.u.2.2.length F.u.2.1, .map (some qx)] #[.string z1, .float .f64 r1, m1] #[.string z2, .float .f64 r2, m2] (upk s M ps) w wr) := by have q := HN.out.1; rw [List.take_length] at q; exact q
            clear HN
            go_wp2_with fail
            exact ⟨⟨n + 1, by go_num, by omega, by rw [hs2.out]; exact HN2.out⟩, by simp [intOf]; omega⟩
    · have hkl : n = rs.length := by omega
      subst hkl
      have hlt' : ¬ (rs.length : Int) < (rs.length : Int) := by omega
      have HM2 : Hid (Dx q4 q6 q7 sb #[.slice ao al.length ac, .map (some qp), .slice F.u.1 F.u.2.2.length F.u.2.1, .map (some qx)] #[.string z1, .float .f64 r1, m1] #[.string z2, .float .f64 r2, m2] (sdl iso L (rs.map Rl.dat)) w wr) := by have q := HM.out; rw [List.take_of_length_le (by simp)] at q; exact q
      clear HM
      have hLn : Hid ((sdl iso L (rs.map Rl.dat)).length = al.length) := (sdl_len _ _ _).trans hLl.out
      generalize hMd : sdl iso L (rs.map Rl.dat) = M at *
      have HMd := hide' hMd
      clear hMd
      go_wp2_with fail
      go_loopw [14, 52] (fun pv kv wx => ∃ (k : Nat) (po : Option Addr) (pc : Nat), kv = .int .i64 (k : Int) ∧ pv = .slice po (resl M ex k).length pc ∧ k ≤ al.length ∧ Hid (Dx q4 q6 q7 sb #[.slice ao al.length ac, .map (some qp), .slice F.u.1 F.u.2.2.length F.u.2.1, .map (some qx)] #[.string z1, .float .f64 r1, m1] #[.string z2, .float .f64 r2, m2] M w wx ∧ I.RowI w.heap.size po pc (resl M ex k) wx)) (fun _ kv _ => al.length - (intOf kv).toNat)
      case atStart => exact ⟨0, none, 0, rfl, rfl, Nat.zero_le _, HM2.out, I.RowI.nil _ _⟩
      case round =>
        obtain ⟨k, po, pc, rfl, rfl, hk, HN⟩ := hrel
        clear HM2
        by_cases hkt : k < al.length
        · have hkt' : (k : Int) < (al.length : Int) := by omega
          obtain ⟨a, ha⟩ : ∃ a, al[k]? = some a := ⟨_, List.getElem?_eq_getElem hkt⟩
          obtain ⟨x, hx⟩ : ∃ x, M[k]? = some x := ⟨_, List.getElem?_eq_getElem (by rw [hLn.out]; exact hkt)⟩
          have e0 := HN.out.1.cell hx
          have hexk : Hid (ex k = isIn xs (z1, z2, a)) := by show _ = _; rw [Hex.out]; simp [List.getD, ha]
          have hrs := hide' (resl_succ M ex k)
          rw [hx] at hrs
          have hrl2 : Hid ((resl M ex k).length < 4398046511104) := by have := resl_len M ex k; show _ < _; omega
          have hok : X.okk (z1, z2, a) := HK.out a (List.mem_of_getElem? ha)
          have KT : Hid (∀ W', Below wr.heap.size wr W' → Dx q4 q6 q7 sb #[.slice ao al.length ac, .map (some qp), .slice F.u.1 F.u.2.2.length F.u.2.1, .map (some qx)] #[.string z1, .float .f64 r1, m1] #[.string z2, .float .f64 r2, m2] M w W') := fun W' b => HN.out.1.below b
          have RT : Hid (∀ W', Below wr.heap.size wr W' → I.RowI w.heap.size po pc (resl M ex k) W') := fun W' b => HN.out.2.below b
          have C70 : Hid (∀ W', Below wr.heap.size wr W' → Calls Try.prog 50 #[.agg #[.slice ao al.length ac, .map (some qp), .slice F.u.1 F.u.2.2.length F.u.2.1, .map (some qx)], .agg #[.string z1, .float .f64 r1, m1], .agg #[.string z2, .float .f64 r2, m2], .int .i64 (k : Int)] W' fun e w' => e = .returned (.agg #[.string z1, .string z2, .string a]) ∧ Below W'.heap.size W' w') := fun W' b => triple_is F ao ac al qp qx z1 z2 a r1 r2 m1 m2 k W' (HA.out.below (KT.out W' b).b) hac hal ha
          have C85 : Hid (∀ W', Below wr.heap.size wr W' → Calls Try.prog 71 #[.agg #[.slice ao al.length ac, .map (some qp), .slice F.u.1 F.u.2.2.length F.u.2.1, .map (some qx)], .agg #[.string z1, .string z2, .string a]] W' fun e w' => e = .returned (.bool (isIn xs (z1, z2, a))) ∧ Below W'.heap.size W' w') := fun W' b => excepted_is F ao ac al qp qx xs z1 z2 a W' (HX.out.below (KT.out W' b).b) hok
          have hd : Below wr.heap.size wr wr.drew := ⟨rfl, rfl, rfl, Nat.le_refl _, fun _ _ => rfl⟩
          generalize isIn xs (z1, z2, a) = xv at *
          rw [hexk.out] at hrs
          have Hrl := hide' (And.intro hrs hrl2)
          generalize hps : resl M ex k = ps at *
          have Hps := hide' hps
          clear hx ha hok HN hps hrs hrl2
          by_cases hx1 : x = 1
          · subst hx1
            go_wp2_with fail
            refine wp_region_held_drew (S := fun W' => Dx q4 q6 q7 sb #[.slice ao al.length ac, .map (some qp), .slice F.u.1 F.u.2.2.length F.u.2.1, .map (some qx)] #[.string z1, .float .f64 r1, m1] #[.string z2, .float .f64 r2, m2] M w W') (by kernel_rfl) (KT.out _ hd) (fun hHeld => ?_)
            refine wpAnyH_take (i := 0) (oi := { dst := some 57, op := Op.move (Operand.tmp 16), type := 62, pos := "reading.go:82", after := #[], guard := none }) (v := .int .i8 1) rfl (by kernel_rfl) (by kernel_rfl) (by kernel_rfl) (fun _ _ _ h => h) (Or.inl ⟨by kernel_rfl, fun w hSw => ?_⟩) (by assumption) ?_
            · clear hSw; go_simp
            (try simp only [Act.put, List.setIfInBounds_toArray, List.set_cons_zero, List.set_cons_succ])
            refine wpAnyH_take (i := 1) (oi := { dst := some 58, op := Op.binOp BinOp.eql 62 (Operand.tmp 57) (Operand.const (Value.int IntKind.i8 1)) 62, type := 4, pos := "reading.go:82", after := #[{ on := 0, ground := Ground.data }], guard := none }) (v := .bool true) rfl (by kernel_rfl) (by kernel_rfl) (by kernel_rfl) (fun _ _ _ h => h) (Or.inl ⟨by kernel_rfl, fun w hSw => ?_⟩) (by assumption) ?_
            · clear hSw; go_simp
            (try simp only [Act.put, List.setIfInBounds_toArray, List.set_cons_zero, List.set_cons_succ])
            refine wpAnyH_take (i := 2) (oi := { dst := some 59, op := Op.move (Operand.tmp 58), type := 4, pos := "reading.go:82", after := #[{ on := 1, ground := Ground.data }], guard := none }) (v := .bool true) rfl (by kernel_rfl) (by kernel_rfl) (by kernel_rfl) (fun _ _ _ h => h) (Or.inl ⟨by kernel_rfl, fun w hSw => ?_⟩) (by assumption) ?_
            · clear hSw; go_simp
            (try simp only [Act.put, List.setIfInBounds_toArray, List.set_cons_zero, List.set_cons_succ])
            refine wpAnyH_take (i := 3) (oi := { dst := some 60, op := Op.load 87 (Operand.tmp 4), type := 87, pos := "reading.go:82", after := #[{ on := 2, ground := Ground.guard }], guard := some (2, true) }) (v := .agg #[.slice ao al.length ac, .map (some qp), .slice F.u.1 F.u.2.2.length F.u.2.1, .map (some qx)]) rfl (by kernel_rfl) (by kernel_rfl) (by kernel_rfl) (fun _ _ _ h => h) (Or.inl ⟨by kernel_rfl, fun w hSw => ?_⟩) (by assumption) ?_
            · exact ex_row 87 _ rfl q4 rfl 87 _ (0, 0) _ hSw.h4 Try.underlying87 rfl (by kernel_rfl)
            (try simp only [Act.put, List.setIfInBounds_toArray, List.set_cons_zero, List.set_cons_succ])
            refine wpAnyH_take (i := 4) (oi := { dst := some 61, op := Op.load 87 (Operand.tmp 4), type := 87, pos := "reading.go:82", after := #[{ on := 2, ground := Ground.guard }], guard := some (2, true) }) (v := .agg #[.slice ao al.length ac, .map (some qp), .slice F.u.1 F.u.2.2.length F.u.2.1, .map (some qx)]) rfl (by kernel_rfl) (by kernel_rfl) (by kernel_rfl) (fun _ _ _ h => h) (Or.inl ⟨by kernel_rfl, fun w hSw => ?_⟩) (by assumption) ?_
            · exact ex_row 87 _ rfl q4 rfl 87 _ (0, 0) _ hSw.h4 Try.underlying87 rfl (by kernel_rfl)
            (try simp only [Act.put, List.setIfInBounds_toArray, List.set_cons_zero, List.set_cons_succ])
            refine wpAnyH_take (i := 5) (oi := { dst := some 62, op := Op.load 97 (Operand.tmp 6), type := 97, pos := "reading.go:82", after := #[{ on := 2, ground := Ground.guard }], guard := some (2, true) }) (v := .agg #[.string z1, .float .f64 r1, m1]) rfl (by kernel_rfl) (by kernel_rfl) (by kernel_rfl) (fun _ _ _ h => h) (Or.inl ⟨by kernel_rfl, fun w hSw => ?_⟩) (by assumption) ?_
            · exact ex_row 97 _ rfl q6 rfl 97 _ (0, 0) _ hSw.h6 Try.underlying97 rfl (by kernel_rfl)
            (try simp only [Act.put, List.setIfInBounds_toArray, List.set_cons_zero, List.set_cons_succ])
            refine wpAnyH_take (i := 6) (oi := { dst := some 63, op := Op.load 97 (Operand.tmp 7), type := 97, pos := "reading.go:82", after := #[{ on := 2, ground := Ground.guard }], guard := some (2, true) }) (v := .agg #[.string z2, .float .f64 r2, m2]) rfl (by kernel_rfl) (by kernel_rfl) (by kernel_rfl) (fun _ _ _ h => h) (Or.inl ⟨by kernel_rfl, fun w hSw => ?_⟩) (by assumption) ?_
            · exact ex_row 97 _ rfl q7 rfl 97 _ (0, 0) _ hSw.h7 Try.underlying97 rfl (by kernel_rfl)
            (try simp only [Act.put, List.setIfInBounds_toArray, List.set_cons_zero, List.set_cons_succ])
            refine wpAnyH_take (i := 7) (oi := { dst := some 64, op := Op.move (Operand.tmp 15), type := 3, pos := "reading.go:82", after := #[{ on := 2, ground := Ground.guard }], guard := some (2, true) }) (v := .int .i64 (k : Int)) rfl (by kernel_rfl) (by kernel_rfl) (by kernel_rfl) (fun _ _ _ h => h) (Or.inl ⟨by kernel_rfl, fun w hSw => ?_⟩) (by assumption) ?_
            · clear hSw; go_simp
            (try simp only [Act.put, List.setIfInBounds_toArray, List.set_cons_zero, List.set_cons_succ])
            refine wpAnyH_ready (rs := [8]) (by kernel_rfl) (by simp) ?_
            refine AllReadyH.cons (o := { dst := some 65, op := Op.call { callee := Callee.value (Operand.func 50), args := #[Operand.tmp 61, Operand.tmp 62, Operand.tmp 63, Operand.tmp 64], argTypes := #[87, 97, 97, 3] }, type := 42, pos := "reading.go:82", after := #[{ on := 4, ground := Ground.data }, { on := 5, ground := Ground.data }, { on := 6, ground := Ground.data }, { on := 7, ground := Ground.data }, { on := 2, ground := Ground.chain }, { on := 2, ground := Ground.guard }], guard := some (2, true) }) rfl (fun K hK => ?_) AllReadyH.nil
            go_simp
            refine (C70.out _ hd).mono ?_
            rintro e x1 ⟨rfl, t1⟩
            have d1 : Below wr.heap.size wr x1 := hd.trans (t1.mono hd.size)
            clear t1
            (try dsimp only)
            refine hK.out _ _ (KT.out _ d1) (fun hHeld => ?_)
            clear hK K
            (try simp only [Act.put, List.setIfInBounds_toArray, List.set_cons_zero, List.set_cons_succ])
            refine wpAnyH_ready (rs := [9]) (by kernel_rfl) (by simp) ?_
            refine AllReadyH.cons (o := { dst := some 66, op := Op.call { callee := Callee.value (Operand.func 71), args := #[Operand.tmp 60, Operand.tmp 65], argTypes := #[87, 42] }, type := 4, pos := "reading.go:82", after := #[{ on := 3, ground := Ground.data }, { on := 8, ground := Ground.data }, { on := 8, ground := Ground.chain }, { on := 2, ground := Ground.guard }], guard := some (2, true) }) rfl (fun K hK => ?_) AllReadyH.nil
            go_simp
            refine (C85.out _ d1).mono ?_
            rintro e x2 ⟨rfl, t2⟩
            have d2 : Below wr.heap.size wr x2 := d1.trans (t2.mono d1.size)
            clear t2
            (try dsimp only)
            refine hK.out _ _ (KT.out _ d2) (fun hHeld => ?_)
            clear hK K
            (try simp only [Act.put, List.setIfInBounds_toArray, List.set_cons_zero, List.set_cons_succ])
            refine wpAnyH_take (i := 10) (oi := { dst := some 67, op := Op.unOp UnOp.not 4 (Operand.tmp 66), type := 4, pos := "reading.go:82", after := #[{ on := 9, ground := Ground.data }, { on := 2, ground := Ground.guard }], guard := some (2, true) }) (v := .bool (!xv)) rfl (by kernel_rfl) (by kernel_rfl) (by kernel_rfl) (fun _ _ _ h => h) (Or.inl ⟨by kernel_rfl, fun w hSw => ?_⟩) (by assumption) ?_
            · clear hSw; go_simp
            (try simp only [Act.put, List.setIfInBounds_toArray, List.set_cons_zero, List.set_cons_succ])
            refine wpAnyH_take (i := 11) (oi := { dst := some 68, op := Op.pick (Operand.tmp 59) (Operand.tmp 67) (Operand.const (Value.bool false)), type := 4, pos := "reading.go:82", after := #[{ on := 2, ground := Ground.data }, { on := 10, ground := Ground.data }], guard := none }) (v := .bool (!xv)) rfl (by kernel_rfl) (by kernel_rfl) (by kernel_rfl) (fun _ _ _ h => h) (Or.inl ⟨by kernel_rfl, fun w hSw => ?_⟩) (by assumption) ?_
            · clear hSw; go_simp
            (try simp only [Act.put, List.setIfInBounds_toArray, List.set_cons_zero, List.set_cons_succ])
            refine wpAnyH_done (by kernel_rfl) ?_ _
            have RT5 := hide' (RT.out _ d2)
            have KT5 := hide' (KT.out _ d2)
            have hB5 : Hid (w.heap.size ≤ x2.heap.size) := KT5.out.b.size
            clear hHeld RT KT C70 C85 hd d1 d2 e0
            cases xv with
            | true =>
              have hr2 : Hid (resl M ex (k + 1) = ps) := by have q := Hrl.out.1.out; show _ = _; rw [q]; simp
              go_wp2_with fail
              exact ⟨⟨k + 1, po, pc, by go_num, by rw [hr2.out], by omega, by rw [hr2.out]; exact ⟨KT5.out, RT5.out⟩⟩, by simp [intOf]; omega⟩
            | false =>
              have hr2 : Hid (resl M ex (k + 1) = ps ++ [(k : Int)]) := by have q := Hrl.out.1.out; show _ = _; rw [q]; simp
              have hb2 : Hid (ps.length < 4398046511104) := Hrl.out.2.out
              go_wp2_with (at_builtin; refine I.wpList_app1 x2 rfl _ _ rfl w.heap.size po pc ps (k : Int) _ 1 rfl RT5.out rfl hb2.out hB5.out ?_; intro g cg w5 hr5 ht5 ho5 hl5; have G5 := hide' (And.intro hr5 ht5); clear hr5 ht5 ho5 hl5)
              have kd : ∀ j, I.At po j → ∃ cur, x2.heap[j]? = some (.cells cur 3 (0, 0)) := fun j r => Pl.kindI RT5.out r
              have hD5 := KT5.out.turn G5.out.2 (fun r => by obtain ⟨cur, q⟩ := kd _ r; exact cells_ne KT5.out.h4 q (by decide) rfl) (fun r => by obtain ⟨cur, q⟩ := kd _ r; exact cells_ne KT5.out.h6 q (by decide) rfl) (fun r => by obtain ⟨cur, q⟩ := kd _ r; exact cells_ne KT5.out.h7 q (by decide) rfl) (fun r => by obtain ⟨cur, q⟩ := kd _ r; exact cells_ne KT5.out.hs q (by decide) rfl) (fun j r => (RT5.out.lt j r).1)
              exact ⟨⟨k + 1, some ⟨g, 0, none⟩, cg, by go_num, by rw [hr2.out, List.length_append]; rfl, by omega, by rw [hr2.out]; exact ⟨hD5, G5.out.1⟩⟩, by simp [intOf]; omega⟩
          · have hr2 : Hid (resl M ex (k + 1) = ps) := by have q := Hrl.out.1.out; show _ = _; rw [q]; simp [hx1]
            go_wp2_with fail
            refine wp_region_held_drew (S := fun W' => Dx q4 q6 q7 sb #[.slice ao al.length ac, .map (some qp), .slice F.u.1 F.u.2.2.length F.u.2.1, .map (some qx)] #[.string z1, .float .f64 r1, m1] #[.string z2, .float .f64 r2, m2] M w W') (by kernel_rfl) (KT.out _ hd) (fun hHeld => ?_)
            refine wpAnyH_take (i := 0) (oi := { dst := some 57, op := Op.move (Operand.tmp 16), type := 62, pos := "reading.go:82", after := #[], guard := none }) (v := .int .i8 x) rfl (by kernel_rfl) (by kernel_rfl) (by kernel_rfl) (fun _ _ _ h => h) (Or.inl ⟨by kernel_rfl, fun w hSw => ?_⟩) (by assumption) ?_
            · clear hSw; go_simp
            (try simp only [Act.put, List.setIfInBounds_toArray, List.set_cons_zero, List.set_cons_succ])
            refine wpAnyH_take (i := 1) (oi := { dst := some 58, op := Op.binOp BinOp.eql 62 (Operand.tmp 57) (Operand.const (Value.int IntKind.i8 1)) 62, type := 4, pos := "reading.go:82", after := #[{ on := 0, ground := Ground.data }], guard := none }) (v := .bool false) rfl (by kernel_rfl) (by kernel_rfl) (by kernel_rfl) (fun _ _ _ h => h) (Or.inl ⟨by kernel_rfl, fun w hSw => ?_⟩) (by assumption) ?_
            · clear hSw; go_simp
            (try simp only [Act.put, List.setIfInBounds_toArray, List.set_cons_zero, List.set_cons_succ])
            refine wpAnyH_take (i := 2) (oi := { dst := some 59, op := Op.move (Operand.tmp 58), type := 4, pos := "reading.go:82", after := #[{ on := 1, ground := Ground.data }], guard := none }) (v := .bool false) rfl (by kernel_rfl) (by kernel_rfl) (by kernel_rfl) (fun _ _ _ h => h) (Or.inl ⟨by kernel_rfl, fun w hSw => ?_⟩) (by assumption) ?_
            · clear hSw; go_simp
            (try simp only [Act.put, List.setIfInBounds_toArray, List.set_cons_zero, List.set_cons_succ])
            refine wpAnyH_take (i := 3) (oi := { dst := some 60, op := Op.load 87 (Operand.tmp 4), type := 87, pos := "reading.go:82", after := #[{ on := 2, ground := Ground.guard }], guard := some (2, true) }) (v := undef) rfl (by kernel_rfl) (by kernel_rfl) (by kernel_rfl) (fun _ _ _ h => h) (Or.inr ⟨by kernel_rfl, rfl⟩) (by assumption) ?_
            (try simp only [Act.put, List.setIfInBounds_toArray, List.set_cons_zero, List.set_cons_succ])
            refine wpAnyH_take (i := 4) (oi := { dst := some 61, op := Op.load 87 (Operand.tmp 4), type := 87, pos := "reading.go:82", after := #[{ on := 2, ground := Ground.guard }], guard := some (2, true) }) (v := undef) rfl (by kernel_rfl) (by kernel_rfl) (by kernel_rfl) (fun _ _ _ h => h) (Or.inr ⟨by kernel_rfl, rfl⟩) (by assumption) ?_
            (try simp only [Act.put, List.setIfInBounds_toArray, List.set_cons_zero, List.set_cons_succ])
            refine wpAnyH_take (i := 5) (oi := { dst := some 62, op := Op.load 97 (Operand.tmp 6), type := 97, pos := "reading.go:82", after := #[{ on := 2, ground := Ground.guard }], guard := some (2, true) }) (v := undef) rfl (by kernel_rfl) (by kernel_rfl) (by kernel_rfl) (fun _ _ _ h => h) (Or.inr ⟨by kernel_rfl, rfl⟩) (by assumption) ?_
            (try simp only [Act.put, List.setIfInBounds_toArray, List.set_cons_zero, List.set_cons_succ])
            refine wpAnyH_take (i := 6) (oi := { dst := some 63, op := Op.load 97 (Operand.tmp 7), type := 97, pos := "reading.go:82", after := #[{ on := 2, ground := Ground.guard }], guard := some (2, true) }) (v := undef) rfl (by kernel_rfl) (by kernel_rfl) (by kernel_rfl) (fun _ _ _ h => h) (Or.inr ⟨by kernel_rfl, rfl⟩) (by assumption) ?_
            (try simp only [Act.put, List.setIfInBounds_toArray, List.set_cons_zero, List.set_cons_succ])
            refine wpAnyH_take (i := 7) (oi := { dst := some 64, op := Op.move (Operand.tmp 15), type := 3, pos := "reading.go:82", after := #[{ on := 2, ground := Ground.guard }], guard := some (2, true) }) (v := undef) rfl (by kernel_rfl) (by kernel_rfl) (by kernel_rfl) (fun _ _ _ h => h) (Or.inr ⟨by kernel_rfl, rfl⟩) (by assumption) ?_
            (try simp only [Act.put, List.setIfInBounds_toArray, List.set_cons_zero, List.set_cons_succ])
            refine wpAnyH_take (i := 8) (oi := { dst := some 65, op := Op.call { callee := Callee.value (Operand.func 50), args := #[Operand.tmp 61, Operand.tmp 62, Operand.tmp 63, Operand.tmp 64], argTypes := #[87, 97, 97, 3] }, type := 42, pos := "reading.go:82", after := #[{ on := 4, ground := Ground.data }, { on := 5, ground := Ground.data }, { on := 6, ground := Ground.data }, { on := 7, ground := Ground.data }, { on := 2, ground := Ground.chain }, { on := 2, ground := Ground.guard }], guard := some (2, true) }) (v := undef) rfl (by kernel_rfl) (by kernel_rfl) (by kernel_rfl) (fun _ _ _ h => h) (Or.inr ⟨by kernel_rfl, rfl⟩) (by assumption) ?_
            (try simp only [Act.put, List.setIfInBounds_toArray, List.set_cons_zero, List.set_cons_succ])
            refine wpAnyH_take (i := 9) (oi := { dst := some 66, op := Op.call { callee := Callee.value (Operand.func 71), args := #[Operand.tmp 60, Operand.tmp 65], argTypes := #[87, 42] }, type := 4, pos := "reading.go:82", after := #[{ on := 3, ground := Ground.data }, { on := 8, ground := Ground.data }, { on := 8, ground := Ground.chain }, { on := 2, ground := Ground.guard }], guard := some (2, true) }) (v := undef) rfl (by kernel_rfl) (by kernel_rfl) (by kernel_rfl) (fun _ _ _ h => h) (Or.inr ⟨by kernel_rfl, rfl⟩) (by assumption) ?_
            (try simp only [Act.put, List.setIfInBounds_toArray, List.set_cons_zero, List.set_cons_succ])
            refine wpAnyH_take (i := 10) (oi := { dst := some 67, op := Op.unOp UnOp.not 4 (Operand.tmp 66), type := 4, pos := "reading.go:82", after := #[{ on := 9, ground := Ground.data }, { on := 2, ground := Ground.guard }], guard := some (2, true) }) (v := undef) rfl (by kernel_rfl) (by kernel_rfl) (by kernel_rfl) (fun _ _ _ h => h) (Or.inr ⟨by kernel_rfl, rfl⟩) (by assumption) ?_
            (try simp only [Act.put, List.setIfInBounds_toArray, List.set_cons_zero, List.set_cons_succ])
            refine wpAnyH_take (i := 11) (oi := { dst := some 68, op := Op.pick (Operand.tmp 59) (Operand.tmp 67) (Operand.const (Value.bool false)), type := 4, pos := "reading.go:82", after := #[{ on := 2, ground := Ground.data }, { on := 10, ground := Ground.data }], guard := none }) (v := .bool false) rfl (by kernel_rfl) (by kernel_rfl) (by kernel_rfl) (fun _ _ _ h => h) (Or.inl ⟨by kernel_rfl, fun w hSw => ?_⟩) (by assumption) ?_
            · clear hSw; go_simp
            (try simp only [Act.put, List.setIfInBounds_toArray, List.set_cons_zero, List.set_cons_succ])
            refine wpAnyH_done (by kernel_rfl) ?_ _
            have RT5 := hide' (RT.out _ hd)
            have KT5 := hide' (KT.out _ hd)
            clear hHeld RT KT C70 C85 hd e0
            go_wp2_with fail
            exact ⟨⟨k + 1, po, pc, by go_num, by rw [hr2.out], by omega, by rw [hr2.out]; exact ⟨KT5.out, RT5.out⟩⟩, by simp [intOf]; omega⟩
        · have hkl : k = al.length := by omega
          subst hkl
          have hkt' : ¬ (al.length : Int) < (al.length : Int) := by omega
          have KK : Hid (AloIs M ex al.length w (.returned (.slice po (resl M ex al.length).length pc)) wr) := ⟨po, pc, rfl, HN.out.2, HN.out.1.b⟩
          clear HN
          go_wp2_with fail
          go_ret
          rw [HMd.out]
          exact KK.out
end U
end Go.Proofs.Ytollaamlnddhcaa
set_option linter.unusedVariables false
set_option linter.unusedSimpArgs false
namespace Go.Proofs.Ytollaamlnddhcaa
open Go.RowKit Go.Maps
namespace U
/-- only blocks of parties and readings are turned -/
def Soft (T : Nat → Prop) (V : World) : Prop := ∀ j, T j → ∃ c t, V.heap[j]? = some (.cells c t (0, 0)) ∧ (t = 97 ∨ t = 87)
theorem soft_no (V : World) : Soft (fun _ => False) V := fun _ q => q.elim
theorem soft_at {V : World} {b t : Nat} {c : Array Value} (h : V.heap[b]? = some (.cells c t (0, 0))) (ht : t = 97 ∨ t = 87) : Soft (fun j => j = b) V := fun j e => ⟨c, t, by rw [e]; exact h, ht⟩
/-- three calls, by what they tell -/
structure Cx (w : World) (pv : Value) (ts to : ByteArray) (sv : Value) (J1 J2 J3 : Value → World → Prop) : Prop where
  s1 : ∀ v V V' T, J1 v V → Turn T V V' → Soft T V → J1 v V'
  s2 : ∀ v V V' T, J2 v V → Turn T V V' → Soft T V → J2 v V'
  s3 : ∀ v V V' T, J3 v V → Turn T V V' → Soft T V → J3 v V'
  c1 : ∀ V, Below w.heap.size w V → Calls Try.prog 73 #[pv, .string ts] V fun e w' => ∃ v, e = .returned v ∧ J1 v w' ∧ Below V.heap.size V w'
  c2 : ∀ V, Below w.heap.size w V → Calls Try.prog 74 #[pv, .string to] V fun e w' => ∃ v, e = .returned v ∧ J2 v w' ∧ Below V.heap.size V w'
  c3 : ∀ V, Below w.heap.size w V → Calls Try.prog 42 #[pv, sv] V fun e w' => ∃ v, e = .returned v ∧ J3 v w' ∧ Below V.heap.size V w'
  f1 : ∀ v V, J1 v V → ∃ z r mo, v = .agg #[.string z, .float .f64 r, .map mo]
  f2 : ∀ v V, J2 v V → ∃ z r mo, v = .agg #[.string z, .float .f64 r, .map mo]
  f3 : ∀ v V, J3 v V → ∃ ao n ac p uo ul uc x, v = .agg #[.slice ao n ac, .map p, .slice uo ul uc, .map x]
def ops56 : Array Oper := #[{ dst := some 12, op := Op.load 28 (Operand.tmp 4), type := 28, pos := "reading.go:26", after := #[], guard := none }, { dst := some 13, op := Op.move (Operand.tmp 1), type := 9, pos := "reading.go:26", after := #[], guard := none }, { dst := some 14, op := Op.call { callee := Callee.value (Operand.func 73), args := #[Operand.tmp 12, Operand.tmp 13], argTypes := #[28, 9] }, type := 97, pos := "reading.go:26", after := #[{ on := 0, ground := Ground.data }, { on := 1, ground := Ground.data }], guard := none }, { dst := some 15, op := Op.load 28 (Operand.tmp 4), type := 28, pos := "reading.go:26", after := #[], guard := none }, { dst := some 16, op := Op.move (Operand.tmp 2), type := 9, pos := "reading.go:26", after := #[], guard := none }, { dst := some 17, op := Op.call { callee := Callee.value (Operand.func 74), args := #[Operand.tmp 15, Operand.tmp 16], argTypes := #[28, 9] }, type := 97, pos := "reading.go:26", after := #[{ on := 3, ground := Ground.data }, { on := 4, ground := Ground.data }, { on := 2, ground := Ground.chain }], guard := none }, { dst := some 18, op := Op.load 28 (Operand.tmp 4), type := 28, pos := "reading.go:26", after := #[], guard := none }, { dst := some 19, op := Op.move (Operand.tmp 3), type := 22, pos := "reading.go:26", after := #[], guard := none }, { dst := some 20, op := Op.call { callee := Callee.value (Operand.func 42), args := #[Operand.tmp 18, Operand.tmp 19], argTypes := #[28, 22] }, type := 87, pos := "reading.go:26", after := #[{ on := 6, ground := Ground.data }, { on := 7, ground := Ground.data }, { on := 5, ground := Ground.chain }], guard := none }, { dst := some 9, op := Op.alloc 97, type := 0, pos := "reading.go:26", after := #[], guard := none }, { dst := some 10, op := Op.alloc 97, type := 0, pos := "reading.go:26", after := #[], guard := none }, { dst := some 11, op := Op.alloc 87, type := 0, pos := "reading.go:26", after := #[], guard := none }, { dst := none, op := Op.store 97 (Operand.tmp 9) (Operand.tmp 14), type := 0, pos := "reading.go:26", after := #[{ on := 9, ground := Ground.data }, { on := 2, ground := Ground.data }, { on := 8, ground := Ground.chain }, { on := 0, ground := Ground.phase }, { on := 1, ground := Ground.phase }, { on := 2, ground := Ground.phase }, { on := 3, ground := Ground.textOnly Departure.lateStores }, { on := 4, ground := Ground.textOnly Departure.lateStores }, { on := 5, ground := Ground.textOnly Departure.lateStoresUnsure }, { on := 6, ground := Ground.textOnly Departure.lateStores }, { on := 7, ground := Ground.textOnly Departure.lateStores }, { on := 8, ground := Ground.textOnly Departure.lateStoresUnsure }, { on := 9, ground := Ground.phase }, { on := 10, ground := Ground.phase }, { on := 11, ground := Ground.phase }], guard := none }, { dst := none, op := Op.store 97 (Operand.tmp 10) (Operand.tmp 17), type := 0, pos := "reading.go:26", after := #[{ on := 10, ground := Ground.data }, { on := 5, ground := Ground.data }, { on := 12, ground := Ground.chain }, { on := 0, ground := Ground.phase }, { on := 1, ground := Ground.phase }, { on := 2, ground := Ground.phase }, { on := 3, ground := Ground.phase }, { on := 4, ground := Ground.phase }, { on := 5, ground := Ground.phase }, { on := 6, ground := Ground.textOnly Departure.lateStores }, { on := 7, ground := Ground.textOnly Departure.lateStores }, { on := 8, ground := Ground.textOnly Departure.lateStoresUnsure }, { on := 9, ground := Ground.phase }, { on := 10, ground := Ground.phase }, { on := 11, ground := Ground.phase }, { on := 12, ground := Ground.phase }], guard := none }, { dst := none, op := Op.store 87 (Operand.tmp 11) (Operand.tmp 20), type := 0, pos := "reading.go:26", after := #[{ on := 11, ground := Ground.data }, { on := 8, ground := Ground.data }, { on := 13, ground := Ground.chain }, { on := 0, ground := Ground.phase }, { on := 1, ground := Ground.phase }, { on := 2, ground := Ground.phase }, { on := 3, ground := Ground.phase }, { on := 4, ground := Ground.phase }, { on := 5, ground := Ground.phase }, { on := 6, ground := Ground.phase }, { on := 7, ground := Ground.phase }, { on := 8, ground := Ground.phase }, { on := 9, ground := Ground.phase }, { on := 10, ground := Ground.phase }, { on := 11, ground := Ground.phase }, { on := 12, ground := Ground.phase }, { on := 13, ground := Ground.phase }], guard := none }]
set_option maxRecDepth 100000 in
set_option maxHeartbeats 4000000 in
theorem L3_abc {w : World} {q4 : Nat} {pol : Array Value} {ts to : ByteArray} {sv : Value} {J1 J2 J3 : Value → World → Prop} {Q : Exit → Act → World → Prop} (X : Cx w (.agg pol) ts to sv J1 J2 J3) (HQ : ∀ z1 r1 o1 z2 r2 o2 xo xn xc xp uo ul uc xx b9 b10 b11 V, J1 (.agg #[.string z1, .float .f64 r1, .map o1]) V → J2 (.agg #[.string z2, .float .f64 r2, .map o2]) V → J3 (.agg #[.slice xo xn xc, .map xp, .slice uo ul uc, .map xx]) V → V.heap[b9]? = some (.cells #[.string z1, .float .f64 r1, .map o1] 97 (0, 0)) → V.heap[b10]? = some (.cells #[.string z2, .float .f64 r2, .map o2] 97 (0, 0)) → V.heap[b11]? = some (.cells #[.slice xo xn xc, .map xp, .slice uo ul uc, .map xx] 87 (0, 0)) → Below w.heap.size w V → Q .normal { tmps := #[.agg pol, .string ts, .string to, sv, .pointer (some ⟨q4, 0, none⟩), undef, undef, undef, .slice none 0 0, .pointer (some ⟨b9, 0, none⟩), .pointer (some ⟨b10, 0, none⟩), .pointer (some ⟨b11, 0, none⟩), .agg pol, .string ts, .agg #[.string z1, .float .f64 r1, .map o1], .agg pol, .string to, .agg #[.string z2, .float .f64 r2, .map o2], .agg pol, sv, .agg #[.slice xo xn xc, .map xp, .slice uo ul uc, .map xx], undef, undef, undef, undef, undef, undef, undef], defers := [] } V) (v14 v17 v20 : Value) (b9 b10 b11 : Nat) (V : World) (hB : Below w.heap.size w V) (hS : V.heap[q4]? = some (.cells pol 28 (0, 0))) (j1 : J1 v14 V) (j2 : J2 v17 V) (j3 : J3 v20 V) (z9 : V.heap[b9]? = some (.cells #[.string ⟨#[]⟩, .float .f64 0, .map none] 97 (0, 0))) (l9 : w.heap.size ≤ b9) (z10 : V.heap[b10]? = some (.cells #[.string ⟨#[]⟩, .float .f64 0, .map none] 97 (0, 0))) (l10 : w.heap.size ≤ b10) (z11 : V.heap[b11]? = some (.cells #[.slice none 0 0, .map none, .slice none 0 0, .map none] 87 (0, 0))) (l11 : w.heap.size ≤ b11) (ne : b9 ≠ b10) : wpAnyH Try.prog .any ops56 Q (fun V => V.heap[q4]? = some (.cells pol 28 (0, 0))) 3 #[true, true, true, true, true, true, true, true, true, true, true, true, false, false, false] { tmps := #[.agg pol, .string ts, .string to, sv, .pointer (some ⟨q4, 0, none⟩), undef, undef, undef, .slice none 0 0, .pointer (some ⟨b9, 0, none⟩), .pointer (some ⟨b10, 0, none⟩), .pointer (some ⟨b11, 0, none⟩), .agg pol, .string ts, v14, .agg pol, .string to, v17, .agg pol, sv, v20, undef, undef, undef, undef, undef, undef, undef], defers := [] } V := by
  obtain ⟨p1, r1, o1, rfl⟩ := X.f1 _ _ j1
  obtain ⟨p2, r2, o2, rfl⟩ := X.f2 _ _ j2
  obtain ⟨xo, xn, xc, xp, uo, ul, uc, xx, rfl⟩ := X.f3 _ _ j3
  have hsf : ∀ (a : Addr) (k : FloatKind) (b : Nat) (m : Mode) (w : World), (store a (.float k b) m).run Try.prog w = stored Try.prog w a (.float k b) m := fun a k b m w => run_store Try.prog w a _ m rfl
  have n911 : b9 ≠ b11 := cells_ne z9 z11 (by decide)
  have n1011 : b10 ≠ b11 := cells_ne z10 z11 (by decide)
  have n94 : q4 ≠ b9 := cells_ne hS z9 (by decide)
  have n104 : q4 ≠ b10 := cells_ne hS z10 (by decide)
  have n114 : q4 ≠ b11 := cells_ne hS z11 (by decide)
  have D : Hid ((Below w.heap.size w V ∧ V.heap[q4]? = some (.cells pol 28 (0, 0)) ∧ J1 (.agg #[.string p1, .float .f64 r1, .map o1]) V ∧ J2 (.agg #[.string p2, .float .f64 r2, .map o2]) V ∧ J3 (.agg #[.slice xo xn xc, .map xp, .slice uo ul uc, .map xx]) V) ∧ V.heap[b9]? = some (.cells #[.string ⟨#[]⟩, .float .f64 0, .map none] 97 (0, 0)) ∧ V.heap[b10]? = some (.cells #[.string ⟨#[]⟩, .float .f64 0, .map none] 97 (0, 0)) ∧ V.heap[b11]? = some (.cells #[.slice none 0 0, .map none, .slice none 0 0, .map none] 87 (0, 0))) := ⟨⟨hB, hS, j1, j2, j3⟩, z9, z10, z11⟩
  clear hB hS j1 j2 j3 z9 z10 z11
  have SS1 := hide' (sto3 D.out.2.1)
  obtain ⟨a10, c10⟩ := SS1.out.c0
  have g10 := SS1.out.f0
  obtain ⟨a11, c11⟩ := SS1.out.c1 (.string p1)
  have g11 := SS1.out.f1 (.string p1)
  obtain ⟨a12, c12⟩ := SS1.out.c2 (.string p1) (.float .f64 r1)
  have g12 := SS1.out.f2 (.string p1) (.float .f64 r1)
  have tH1 := hide' (SS1.out.fin (.string p1) (.float .f64 r1) (.map o1))
  have tT1 := hide' (SS1.out.tt (.string p1) (.float .f64 r1) (.map o1))
  clear SS1
  refine wpAnyH_ready (rs := [12]) (by kernel_rfl) (by simp) ?_
  refine AllReadyH.cons (o := { dst := none, op := Op.store 97 (Operand.tmp 9) (Operand.tmp 14), type := 0, pos := "reading.go:26", after := #[{ on := 9, ground := Ground.data }, { on := 2, ground := Ground.data }, { on := 8, ground := Ground.chain }, { on := 0, ground := Ground.phase }, { on := 1, ground := Ground.phase }, { on := 2, ground := Ground.phase }, { on := 3, ground := Ground.textOnly Departure.lateStores }, { on := 4, ground := Ground.textOnly Departure.lateStores }, { on := 5, ground := Ground.textOnly Departure.lateStoresUnsure }, { on := 6, ground := Ground.textOnly Departure.lateStores }, { on := 7, ground := Ground.textOnly Departure.lateStores }, { on := 8, ground := Ground.textOnly Departure.lateStoresUnsure }, { on := 9, ground := Ground.phase }, { on := 10, ground := Ground.phase }, { on := 11, ground := Ground.phase }], guard := none }) rfl (fun K hK => ?_) AllReadyH.nil
  go_simp
  generalize (((V.setCell ⟨b9, 0, none⟩ (.string p1)).setCell ⟨b9, 1, none⟩ (.float .f64 r1)).setCell ⟨b9, 2, none⟩ (.map o1)) = V1 at *
  clear c10 g10 c11 g11 c12 g12
  have D1 : Hid ((Below w.heap.size w V1 ∧ V1.heap[q4]? = some (.cells pol 28 (0, 0)) ∧ J1 (.agg #[.string p1, .float .f64 r1, .map o1]) V1 ∧ J2 (.agg #[.string p2, .float .f64 r2, .map o2]) V1 ∧ J3 (.agg #[.slice xo xn xc, .map xp, .slice uo ul uc, .map xx]) V1) ∧ V1.heap[b9]? = some (.cells #[.string p1, .float .f64 r1, .map o1] 97 (0, 0)) ∧ V1.heap[b10]? = some (.cells #[.string ⟨#[]⟩, .float .f64 0, .map none] 97 (0, 0)) ∧ V1.heap[b11]? = some (.cells #[.slice none 0 0, .map none, .slice none 0 0, .map none] 87 (0, 0))) := ⟨⟨D.out.1.1.trans (below_own tT1.out (fun j e => by rw [e]; exact l9) D.out.1.1.size), (tT1.out.block _ (lt_of_heap D.out.1.2.1) n94).trans D.out.1.2.1, X.s1 _ _ _ _ D.out.1.2.2.1 tT1.out (soft_at D.out.2.1 (.inl rfl)), X.s2 _ _ _ _ D.out.1.2.2.2.1 tT1.out (soft_at D.out.2.1 (.inl rfl)), X.s3 _ _ _ _ D.out.1.2.2.2.2 tT1.out (soft_at D.out.2.1 (.inl rfl))⟩, tH1.out, (tT1.out.block _ (lt_of_heap D.out.2.2.1) (Ne.symm ne)).trans D.out.2.2.1, (tT1.out.block _ (lt_of_heap D.out.2.2.2) (Ne.symm n911)).trans D.out.2.2.2⟩
  refine hK.out _ _ D1.out.1.2.1 (fun hHeld => ?_)
  clear hK K hHeld D tH1 tT1
  (try simp only [Act.put, List.setIfInBounds_toArray, List.set_cons_zero, List.set_cons_succ])
  have SS2 := hide' (sto3 D1.out.2.2.1)
  obtain ⟨a20, c20⟩ := SS2.out.c0
  have g20 := SS2.out.f0
  obtain ⟨a21, c21⟩ := SS2.out.c1 (.string p2)
  have g21 := SS2.out.f1 (.string p2)
  obtain ⟨a22, c22⟩ := SS2.out.c2 (.string p2) (.float .f64 r2)
  have g22 := SS2.out.f2 (.string p2) (.float .f64 r2)
  have tH2 := hide' (SS2.out.fin (.string p2) (.float .f64 r2) (.map o2))
  have tT2 := hide' (SS2.out.tt (.string p2) (.float .f64 r2) (.map o2))
  clear SS2
  refine wpAnyH_ready (rs := [13]) (by kernel_rfl) (by simp) ?_
  refine AllReadyH.cons (o := { dst := none, op := Op.store 97 (Operand.tmp 10) (Operand.tmp 17), type := 0, pos := "reading.go:26", after := #[{ on := 10, ground := Ground.data }, { on := 5, ground := Ground.data }, { on := 12, ground := Ground.chain }, { on := 0, ground := Ground.phase }, { on := 1, ground := Ground.phase }, { on := 2, ground := Ground.phase }, { on := 3, ground := Ground.phase }, { on := 4, ground := Ground.phase }, { on := 5, ground := Ground.phase }, { on := 6, ground := Ground.textOnly Departure.lateStores }, { on := 7, ground := Ground.textOnly Departure.lateStores }, { on := 8, ground := Ground.textOnly Departure.lateStoresUnsure }, { on := 9, ground := Ground.phase }, { on := 10, ground := Ground.phase }, { on := 11, ground := Ground.phase }, { on := 12, ground := Ground.phase }], guard := none }) rfl (fun K hK => ?_) AllReadyH.nil
  go_simp
  generalize (((V1.setCell ⟨b10, 0, none⟩ (.string p2)).setCell ⟨b10, 1, none⟩ (.float .f64 r2)).setCell ⟨b10, 2, none⟩ (.map o2)) = V2 at *
  clear c20 g20 c21 g21 c22 g22
  have D2 : Hid ((Below w.heap.size w V2 ∧ V2.heap[q4]? = some (.cells pol 28 (0, 0)) ∧ J1 (.agg #[.string p1, .float .f64 r1, .map o1]) V2 ∧ J2 (.agg #[.string p2, .float .f64 r2, .map o2]) V2 ∧ J3 (.agg #[.slice xo xn xc, .map xp, .slice uo ul uc, .map xx]) V2) ∧ V2.heap[b9]? = some (.cells #[.string p1, .float .f64 r1, .map o1] 97 (0, 0)) ∧ V2.heap[b10]? = some (.cells #[.string p2, .float .f64 r2, .map o2] 97 (0, 0)) ∧ V2.heap[b11]? = some (.cells #[.slice none 0 0, .map none, .slice none 0 0, .map none] 87 (0, 0))) := ⟨⟨D1.out.1.1.trans (below_own tT2.out (fun j e => by rw [e]; exact l10) D1.out.1.1.size), (tT2.out.block _ (lt_of_heap D1.out.1.2.1) n104).trans D1.out.1.2.1, X.s1 _ _ _ _ D1.out.1.2.2.1 tT2.out (soft_at D1.out.2.2.1 (.inl rfl)), X.s2 _ _ _ _ D1.out.1.2.2.2.1 tT2.out (soft_at D1.out.2.2.1 (.inl rfl)), X.s3 _ _ _ _ D1.out.1.2.2.2.2 tT2.out (soft_at D1.out.2.2.1 (.inl rfl))⟩, (tT2.out.block _ (lt_of_heap D1.out.2.1) ne).trans D1.out.2.1, tH2.out, (tT2.out.block _ (lt_of_heap D1.out.2.2.2) (Ne.symm n1011)).trans D1.out.2.2.2⟩
  refine hK.out _ _ D2.out.1.2.1 (fun hHeld => ?_)
  clear hK K hHeld D1 tH2 tT2
  (try simp only [Act.put, List.setIfInBounds_toArray, List.set_cons_zero, List.set_cons_succ])
  have SS3 := hide' (sto4 D2.out.2.2.2)
  obtain ⟨a30, c30⟩ := SS3.out.c0
  have g30 := SS3.out.f0
  obtain ⟨a31, c31⟩ := SS3.out.c1 (.slice xo xn xc)
  have g31 := SS3.out.f1 (.slice xo xn xc)
  obtain ⟨a32, c32⟩ := SS3.out.c2 (.slice xo xn xc) (.map xp)
  have g32 := SS3.out.f2 (.slice xo xn xc) (.map xp)
  obtain ⟨a33, c33⟩ := SS3.out.c3 (.slice xo xn xc) (.map xp) (.slice uo ul uc)
  have g33 := SS3.out.f3 (.slice xo xn xc) (.map xp) (.slice uo ul uc)
  have tH3 := hide' (SS3.out.fin (.slice xo xn xc) (.map xp) (.slice uo ul uc) (.map xx))
  have tT3 := hide' (SS3.out.tt (.slice xo xn xc) (.map xp) (.slice uo ul uc) (.map xx))
  clear SS3
  refine wpAnyH_ready (rs := [14]) (by kernel_rfl) (by simp) ?_
  refine AllReadyH.cons (o := { dst := none, op := Op.store 87 (Operand.tmp 11) (Operand.tmp 20), type := 0, pos := "reading.go:26", after := #[{ on := 11, ground := Ground.data }, { on := 8, ground := Ground.data }, { on := 13, ground := Ground.chain }, { on := 0, ground := Ground.phase }, { on := 1, ground := Ground.phase }, { on := 2, ground := Ground.phase }, { on := 3, ground := Ground.phase }, { on := 4, ground := Ground.phase }, { on := 5, ground := Ground.phase }, { on := 6, ground := Ground.phase }, { on := 7, ground := Ground.phase }, { on := 8, ground := Ground.phase }, { on := 9, ground := Ground.phase }, { on := 10, ground := Ground.phase }, { on := 11, ground := Ground.phase }, { on := 12, ground := Ground.phase }, { on := 13, ground := Ground.phase }], guard := none }) rfl (fun K hK => ?_) AllReadyH.nil
  go_simp
  generalize ((((V2.setCell ⟨b11, 0, none⟩ (.slice xo xn xc)).setCell ⟨b11, 1, none⟩ (.map xp)).setCell ⟨b11, 2, none⟩ (.slice uo ul uc)).setCell ⟨b11, 3, none⟩ (.map xx)) = V3 at *
  clear c30 g30 c31 g31 c32 g32 c33 g33
  have D3 : Hid ((Below w.heap.size w V3 ∧ V3.heap[q4]? = some (.cells pol 28 (0, 0)) ∧ J1 (.agg #[.string p1, .float .f64 r1, .map o1]) V3 ∧ J2 (.agg #[.string p2, .float .f64 r2, .map o2]) V3 ∧ J3 (.agg #[.slice xo xn xc, .map xp, .slice uo ul uc, .map xx]) V3) ∧ V3.heap[b9]? = some (.cells #[.string p1, .float .f64 r1, .map o1] 97 (0, 0)) ∧ V3.heap[b10]? = some (.cells #[.string p2, .float .f64 r2, .map o2] 97 (0, 0)) ∧ V3.heap[b11]? = some (.cells #[.slice xo xn xc, .map xp, .slice uo ul uc, .map xx] 87 (0, 0))) := ⟨⟨D2.out.1.1.trans (below_own tT3.out (fun j e => by rw [e]; exact l11) D2.out.1.1.size), (tT3.out.block _ (lt_of_heap D2.out.1.2.1) n114).trans D2.out.1.2.1, X.s1 _ _ _ _ D2.out.1.2.2.1 tT3.out (soft_at D2.out.2.2.2 (.inr rfl)), X.s2 _ _ _ _ D2.out.1.2.2.2.1 tT3.out (soft_at D2.out.2.2.2 (.inr rfl)), X.s3 _ _ _ _ D2.out.1.2.2.2.2 tT3.out (soft_at D2.out.2.2.2 (.inr rfl))⟩, (tT3.out.block _ (lt_of_heap D2.out.2.1) n911).trans D2.out.2.1, (tT3.out.block _ (lt_of_heap D2.out.2.2.1) n1011).trans D2.out.2.2.1, tH3.out⟩
  refine hK.out _ _ D3.out.1.2.1 (fun hHeld => ?_)
  clear hK K hHeld D2 tH3 tT3
  (try simp only [Act.put, List.setIfInBounds_toArray, List.set_cons_zero, List.set_cons_succ])
  refine wpAnyH_done (by kernel_rfl) ?_ _
  exact HQ _ _ _ _ _ _ _ _ _ _ _ _ _ _ _ _ _ _ D3.out.1.2.2.1 D3.out.1.2.2.2.1 D3.out.1.2.2.2.2 D3.out.2.1 D3.out.2.2.1 D3.out.2.2.2 D3.out.1.1
set_option maxRecDepth 100000 in
set_option maxHeartbeats 4000000 in
theorem L3_ab {w : World} {q4 : Nat} {pol : Array Value} {ts to : ByteArray} {sv : Value} {J1 J2 J3 : Value → World → Prop} {Q : Exit → Act → World → Prop} (X : Cx w (.agg pol) ts to sv J1 J2 J3) (HQ : ∀ z1 r1 o1 z2 r2 o2 xo xn xc xp uo ul uc xx b9 b10 b11 V, J1 (.agg #[.string z1, .float .f64 r1, .map o1]) V → J2 (.agg #[.string z2, .float .f64 r2, .map o2]) V → J3 (.agg #[.slice xo xn xc, .map xp, .slice uo ul uc, .map xx]) V → V.heap[b9]? = some (.cells #[.string z1, .float .f64 r1, .map o1] 97 (0, 0)) → V.heap[b10]? = some (.cells #[.string z2, .float .f64 r2, .map o2] 97 (0, 0)) → V.heap[b11]? = some (.cells #[.slice xo xn xc, .map xp, .slice uo ul uc, .map xx] 87 (0, 0)) → Below w.heap.size w V → Q .normal { tmps := #[.agg pol, .string ts, .string to, sv, .pointer (some ⟨q4, 0, none⟩), undef, undef, undef, .slice none 0 0, .pointer (some ⟨b9, 0, none⟩), .pointer (some ⟨b10, 0, none⟩), .pointer (some ⟨b11, 0, none⟩), .agg pol, .string ts, .agg #[.string z1, .float .f64 r1, .map o1], .agg pol, .string to, .agg #[.string z2, .float .f64 r2, .map o2], .agg pol, sv, .agg #[.slice xo xn xc, .map xp, .slice uo ul uc, .map xx], undef, undef, undef, undef, undef, undef, undef], defers := [] } V) (v14 v17 v20 : Value) (b9 b10 : Nat) (V : World) (hB : Below w.heap.size w V) (hS : V.heap[q4]? = some (.cells pol 28 (0, 0))) (j1 : J1 v14 V) (j2 : J2 v17 V) (j3 : J3 v20 V) (z9 : V.heap[b9]? = some (.cells #[.string ⟨#[]⟩, .float .f64 0, .map none] 97 (0, 0))) (l9 : w.heap.size ≤ b9) (z10 : V.heap[b10]? = some (.cells #[.string ⟨#[]⟩, .float .f64 0, .map none] 97 (0, 0))) (l10 : w.heap.size ≤ b10) (ne : b9 ≠ b10) : wpAnyH Try.prog .any ops56 Q (fun V => V.heap[q4]? = some (.cells pol 28 (0, 0))) 4 #[true, true, true, true, true, true, true, true, true, true, true, false, false, false, false] { tmps := #[.agg pol, .string ts, .string to, sv, .pointer (some ⟨q4, 0, none⟩), undef, undef, undef, .slice none 0 0, .pointer (some ⟨b9, 0, none⟩), .pointer (some ⟨b10, 0, none⟩), undef, .agg pol, .string ts, v14, .agg pol, .string to, v17, .agg pol, sv, v20, undef, undef, undef, undef, undef, undef, undef], defers := [] } V := by
  refine wpAnyH_ready (rs := [11]) (by kernel_rfl) (by simp) ?_
  refine AllReadyH.cons (o := { dst := some 11, op := Op.alloc 87, type := 0, pos := "reading.go:26", after := #[], guard := none }) rfl (fun K hK => ?_) AllReadyH.nil
  go_simp
  have bn : Below V.heap.size V (V.alloc (.cells #[.slice none 0 0, .map none, .slice none 0 0, .map none] 87)) := (Below.refl _ _).alloc (Nat.le_refl _) _
  have hS1 := (bn.block _ (lt_of_heap hS)).trans hS
  refine hK.out _ _ hS1 (fun hHeld => ?_)
  clear hK K hHeld
  (try simp only [Act.put, List.setIfInBounds_toArray, List.set_cons_zero, List.set_cons_succ])
  exact L3_abc X HQ v14 v17 v20 b9 b10 V.heap.size (V.alloc (.cells #[.slice none 0 0, .map none, .slice none 0 0, .map none] 87)) (hB.trans (bn.mono hB.size)) hS1 (X.s1 _ _ _ _ j1 (turn_below (S := fun _ => False) bn) (soft_no _)) (X.s2 _ _ _ _ j2 (turn_below (S := fun _ => False) bn) (soft_no _)) (X.s3 _ _ _ _ j3 (turn_below (S := fun _ => False) bn) (soft_no _)) ((bn.block _ (lt_of_heap z9)).trans z9) l9 ((bn.block _ (lt_of_heap z10)).trans z10) l10 (heap_alloc_new V _) hB.size ne
set_option maxRecDepth 100000 in
set_option maxHeartbeats 4000000 in
theorem L3_ac {w : World} {q4 : Nat} {pol : Array Value} {ts to : ByteArray} {sv : Value} {J1 J2 J3 : Value → World → Prop} {Q : Exit → Act → World → Prop} (X : Cx w (.agg pol) ts to sv J1 J2 J3) (HQ : ∀ z1 r1 o1 z2 r2 o2 xo xn xc xp uo ul uc xx b9 b10 b11 V, J1 (.agg #[.string z1, .float .f64 r1, .map o1]) V → J2 (.agg #[.string z2, .float .f64 r2, .map o2]) V → J3 (.agg #[.slice xo xn xc, .map xp, .slice uo ul uc, .map xx]) V → V.heap[b9]? = some (.cells #[.string z1, .float .f64 r1, .map o1] 97 (0, 0)) → V.heap[b10]? = some (.cells #[.string z2, .float .f64 r2, .map o2] 97 (0, 0)) → V.heap[b11]? = some (.cells #[.slice xo xn xc, .map xp, .slice uo ul uc, .map xx] 87 (0, 0)) → Below w.heap.size w V → Q .normal { tmps := #[.agg pol, .string ts, .string to, sv, .pointer (some ⟨q4, 0, none⟩), undef, undef, undef, .slice none 0 0, .pointer (some ⟨b9, 0, none⟩), .pointer (some ⟨b10, 0, none⟩), .pointer (some ⟨b11, 0, none⟩), .agg pol, .string ts, .agg #[.string z1, .float .f64 r1, .map o1], .agg pol, .string to, .agg #[.string z2, .float .f64 r2, .map o2], .agg pol, sv, .agg #[.slice xo xn xc, .map xp, .slice uo ul uc, .map xx], undef, undef, undef, undef, undef, undef, undef], defers := [] } V) (v14 v17 v20 : Value) (b9 b11 : Nat) (V : World) (hB : Below w.heap.size w V) (hS : V.heap[q4]? = some (.cells pol 28 (0, 0))) (j1 : J1 v14 V) (j2 : J2 v17 V) (j3 : J3 v20 V) (z9 : V.heap[b9]? = some (.cells #[.string ⟨#[]⟩, .float .f64 0, .map none] 97 (0, 0))) (l9 : w.heap.size ≤ b9) (z11 : V.heap[b11]? = some (.cells #[.slice none 0 0, .map none, .slice none 0 0, .map none] 87 (0, 0))) (l11 : w.heap.size ≤ b11) : wpAnyH Try.prog .any ops56 Q (fun V => V.heap[q4]? = some (.cells pol 28 (0, 0))) 4 #[true, true, true, true, true, true, true, true, true, true, false, true, false, false, false] { tmps := #[.agg pol, .string ts, .string to, sv, .pointer (some ⟨q4, 0, none⟩), undef, undef, undef, .slice none 0 0, .pointer (some ⟨b9, 0, none⟩), undef, .pointer (some ⟨b11, 0, none⟩), .agg pol, .string ts, v14, .agg pol, .string to, v17, .agg pol, sv, v20, undef, undef, undef, undef, undef, undef, undef], defers := [] } V := by
  refine wpAnyH_ready (rs := [10]) (by kernel_rfl) (by simp) ?_
  refine AllReadyH.cons (o := { dst := some 10, op := Op.alloc 97, type := 0, pos := "reading.go:26", after := #[], guard := none }) rfl (fun K hK => ?_) AllReadyH.nil
  go_simp
  have bn : Below V.heap.size V (V.alloc (.cells #[.string ⟨#[]⟩, .float .f64 0, .map none] 97)) := (Below.refl _ _).alloc (Nat.le_refl _) _
  have hS1 := (bn.block _ (lt_of_heap hS)).trans hS
  refine hK.out _ _ hS1 (fun hHeld => ?_)
  clear hK K hHeld
  (try simp only [Act.put, List.setIfInBounds_toArray, List.set_cons_zero, List.set_cons_succ])
  exact L3_abc X HQ v14 v17 v20 b9 V.heap.size b11 (V.alloc (.cells #[.string ⟨#[]⟩, .float .f64 0, .map none] 97)) (hB.trans (bn.mono hB.size)) hS1 (X.s1 _ _ _ _ j1 (turn_below (S := fun _ => False) bn) (soft_no _)) (X.s2 _ _ _ _ j2 (turn_below (S := fun _ => False) bn) (soft_no _)) (X.s3 _ _ _ _ j3 (turn_below (S := fun _ => False) bn) (soft_no _)) ((bn.block _ (lt_of_heap z9)).trans z9) l9 (heap_alloc_new V _) hB.size ((bn.block _ (lt_of_heap z11)).trans z11) l11 (Nat.ne_of_lt (lt_of_heap z9))
set_option maxRecDepth 100000 in
set_option maxHeartbeats 4000000 in
theorem L3_bc {w : World} {q4 : Nat} {pol : Array Value} {ts to : ByteArray} {sv : Value} {J1 J2 J3 : Value → World → Prop} {Q : Exit → Act → World → Prop} (X : Cx w (.agg pol) ts to sv J1 J2 J3) (HQ : ∀ z1 r1 o1 z2 r2 o2 xo xn xc xp uo ul uc xx b9 b10 b11 V, J1 (.agg #[.string z1, .float .f64 r1, .map o1]) V → J2 (.agg #[.string z2, .float .f64 r2, .map o2]) V → J3 (.agg #[.slice xo xn xc, .map xp, .slice uo ul uc, .map xx]) V → V.heap[b9]? = some (.cells #[.string z1, .float .f64 r1, .map o1] 97 (0, 0)) → V.heap[b10]? = some (.cells #[.string z2, .float .f64 r2, .map o2] 97 (0, 0)) → V.heap[b11]? = some (.cells #[.slice xo xn xc, .map xp, .slice uo ul uc, .map xx] 87 (0, 0)) → Below w.heap.size w V → Q .normal { tmps := #[.agg pol, .string ts, .string to, sv, .pointer (some ⟨q4, 0, none⟩), undef, undef, undef, .slice none 0 0, .pointer (some ⟨b9, 0, none⟩), .pointer (some ⟨b10, 0, none⟩), .pointer (some ⟨b11, 0, none⟩), .agg pol, .string ts, .agg #[.string z1, .float .f64 r1, .map o1], .agg pol, .string to, .agg #[.string z2, .float .f64 r2, .map o2], .agg pol, sv, .agg #[.slice xo xn xc, .map xp, .slice uo ul uc, .map xx], undef, undef, undef, undef, undef, undef, undef], defers := [] } V) (v14 v17 v20 : Value) (b10 b11 : Nat) (V : World) (hB : Below w.heap.size w V) (hS : V.heap[q4]? = some (.cells pol 28 (0, 0))) (j1 : J1 v14 V) (j2 : J2 v17 V) (j3 : J3 v20 V) (z10 : V.heap[b10]? = some (.cells #[.string ⟨#[]⟩, .float .f64 0, .map none] 97 (0, 0))) (l10 : w.heap.size ≤ b10) (z11 : V.heap[b11]? = some (.cells #[.slice none 0 0, .map none, .slice none 0 0, .map none] 87 (0, 0))) (l11 : w.heap.size ≤ b11) : wpAnyH Try.prog .any ops56 Q (fun V => V.heap[q4]? = some (.cells pol 28 (0, 0))) 4 #[true, true, true, true, true, true, true, true, true, false, true, true, false, false, false] { tmps := #[.agg pol, .string ts, .string to, sv, .pointer (some ⟨q4, 0, none⟩), undef, undef, undef, .slice none 0 0, undef, .pointer (some ⟨b10, 0, none⟩), .pointer (some ⟨b11, 0, none⟩), .agg pol, .string ts, v14, .agg pol, .string to, v17, .agg pol, sv, v20, undef, undef, undef, undef, undef, undef, undef], defers := [] } V := by
  refine wpAnyH_ready (rs := [9]) (by kernel_rfl) (by simp) ?_
  refine AllReadyH.cons (o := { dst := some 9, op := Op.alloc 97, type := 0, pos := "reading.go:26", after := #[], guard := none }) rfl (fun K hK => ?_) AllReadyH.nil
  go_simp
  have bn : Below V.heap.size V (V.alloc (.cells #[.string ⟨#[]⟩, .float .f64 0, .map none] 97)) := (Below.refl _ _).alloc (Nat.le_refl _) _
  have hS1 := (bn.block _ (lt_of_heap hS)).trans hS
  refine hK.out _ _ hS1 (fun hHeld => ?_)
  clear hK K hHeld
  (try simp only [Act.put, List.setIfInBounds_toArray, List.set_cons_zero, List.set_cons_succ])
  exact L3_abc X HQ v14 v17 v20 V.heap.size b10 b11 (V.alloc (.cells #[.string ⟨#[]⟩, .float .f64 0, .map none] 97)) (hB.trans (bn.mono hB.size)) hS1 (X.s1 _ _ _ _ j1 (turn_below (S := fun _ => False) bn) (soft_no _)) (X.s2 _ _ _ _ j2 (turn_below (S := fun _ => False) bn) (soft_no _)) (X.s3 _ _ _ _ j3 (turn_below (S := fun _ => False) bn) (soft_no _)) (heap_alloc_new V _) hB.size ((bn.block _ (lt_of_heap z10)).trans z10) l10 ((bn.block _ (lt_of_heap z11)).trans z11) l11 (Nat.ne_of_gt (lt_of_heap z10))
set_option maxRecDepth 100000 in
set_option maxHeartbeats 4000000 in
theorem L3_a {w : World} {q4 : Nat} {pol : Array Value} {ts to : ByteArray} {sv : Value} {J1 J2 J3 : Value → World → Prop} {Q : Exit → Act → World → Prop} (X : Cx w (.agg pol) ts to sv J1 J2 J3) (HQ : ∀ z1 r1 o1 z2 r2 o2 xo xn xc xp uo ul uc xx b9 b10 b11 V, J1 (.agg #[.string z1, .float .f64 r1, .map o1]) V → J2 (.agg #[.string z2, .float .f64 r2, .map o2]) V → J3 (.agg #[.slice xo xn xc, .map xp, .slice uo ul uc, .map xx]) V → V.heap[b9]? = some (.cells #[.string z1, .float .f64 r1, .map o1] 97 (0, 0)) → V.heap[b10]? = some (.cells #[.string z2, .float .f64 r2, .map o2] 97 (0, 0)) → V.heap[b11]? = some (.cells #[.slice xo xn xc, .map xp, .slice uo ul uc, .map xx] 87 (0, 0)) → Below w.heap.size w V → Q .normal { tmps := #[.agg pol, .string ts, .string to, sv, .pointer (some ⟨q4, 0, none⟩), undef, undef, undef, .slice none 0 0, .pointer (some ⟨b9, 0, none⟩), .pointer (some ⟨b10, 0, none⟩), .pointer (some ⟨b11, 0, none⟩), .agg pol, .string ts, .agg #[.string z1, .float .f64 r1, .map o1], .agg pol, .string to, .agg #[.string z2, .float .f64 r2, .map o2], .agg pol, sv, .agg #[.slice xo xn xc, .map xp, .slice uo ul uc, .map xx], undef, undef, undef, undef, undef, undef, undef], defers := [] } V) (v14 v17 v20 : Value) (b9 : Nat) (V : World) (hB : Below w.heap.size w V) (hS : V.heap[q4]? = some (.cells pol 28 (0, 0))) (j1 : J1 v14 V) (j2 : J2 v17 V) (j3 : J3 v20 V) (z9 : V.heap[b9]? = some (.cells #[.string ⟨#[]⟩, .float .f64 0, .map none] 97 (0, 0))) (l9 : w.heap.size ≤ b9) : wpAnyH Try.prog .any ops56 Q (fun V => V.heap[q4]? = some (.cells pol 28 (0, 0))) 5 #[true, true, true, true, true, true, true, true, true, true, false, false, false, false, false] { tmps := #[.agg pol, .string ts, .string to, sv, .pointer (some ⟨q4, 0, none⟩), undef, undef, undef, .slice none 0 0, .pointer (some ⟨b9, 0, none⟩), undef, undef, .agg pol, .string ts, v14, .agg pol, .string to, v17, .agg pol, sv, v20, undef, undef, undef, undef, undef, undef, undef], defers := [] } V := by
  refine wpAnyH_ready (rs := [10, 11]) (by kernel_rfl) (by simp) ?_
  refine AllReadyH.cons (o := { dst := some 10, op := Op.alloc 97, type := 0, pos := "reading.go:26", after := #[], guard := none }) rfl (fun K hK => ?_) ?_
  · go_simp
    have bn : Below V.heap.size V (V.alloc (.cells #[.string ⟨#[]⟩, .float .f64 0, .map none] 97)) := (Below.refl _ _).alloc (Nat.le_refl _) _
    have hS1 := (bn.block _ (lt_of_heap hS)).trans hS
    refine hK.out _ _ hS1 (fun hHeld => ?_)
    clear hK K hHeld
    (try simp only [Act.put, List.setIfInBounds_toArray, List.set_cons_zero, List.set_cons_succ])
    exact L3_ab X HQ v14 v17 v20 b9 V.heap.size (V.alloc (.cells #[.string ⟨#[]⟩, .float .f64 0, .map none] 97)) (hB.trans (bn.mono hB.size)) hS1 (X.s1 _ _ _ _ j1 (turn_below (S := fun _ => False) bn) (soft_no _)) (X.s2 _ _ _ _ j2 (turn_below (S := fun _ => False) bn) (soft_no _)) (X.s3 _ _ _ _ j3 (turn_below (S := fun _ => False) bn) (soft_no _)) ((bn.block _ (lt_of_heap z9)).trans z9) l9 (heap_alloc_new V _) hB.size (Nat.ne_of_lt (lt_of_heap z9))
  refine AllReadyH.cons (o := { dst := some 11, op := Op.alloc 87, type := 0, pos := "reading.go:26", after := #[], guard := none }) rfl (fun K hK => ?_) AllReadyH.nil
  go_simp
  have bn : Below V.heap.size V (V.alloc (.cells #[.slice none 0 0, .map none, .slice none 0 0, .map none] 87)) := (Below.refl _ _).alloc (Nat.le_refl _) _
  have hS1 := (bn.block _ (lt_of_heap hS)).trans hS
  refine hK.out _ _ hS1 (fun hHeld => ?_)
  clear hK K hHeld
  (try simp only [Act.put, List.setIfInBounds_toArray, List.set_cons_zero, List.set_cons_succ])
  exact L3_ac X HQ v14 v17 v20 b9 V.heap.size (V.alloc (.cells #[.slice none 0 0, .map none, .slice none 0 0, .map none] 87)) (hB.trans (bn.mono hB.size)) hS1 (X.s1 _ _ _ _ j1 (turn_below (S := fun _ => False) bn) (soft_no _)) (X.s2 _ _ _ _ j2 (turn_below (S := fun _ => False) bn) (soft_no _)) (X.s3 _ _ _ _ j3 (turn_below (S := fun _ => False) bn) (soft_no _)) ((bn.block _ (lt_of_heap z9)).trans z9) l9 (heap_alloc_new V _) hB.size
set_option maxRecDepth 100000 in
set_option maxHeartbeats 4000000 in
theorem L3_b {w : World} {q4 : Nat} {pol : Array Value} {ts to : ByteArray} {sv : Value} {J1 J2 J3 : Value → World → Prop} {Q : Exit → Act → World → Prop} (X : Cx w (.agg pol) ts to sv J1 J2 J3) (HQ : ∀ z1 r1 o1 z2 r2 o2 xo xn xc xp uo ul uc xx b9 b10 b11 V, J1 (.agg #[.string z1, .float .f64 r1, .map o1]) V → J2 (.agg #[.string z2, .float .f64 r2, .map o2]) V → J3 (.agg #[.slice xo xn xc, .map xp, .slice uo ul uc, .map xx]) V → V.heap[b9]? = some (.cells #[.string z1, .float .f64 r1, .map o1] 97 (0, 0)) → V.heap[b10]? = some (.cells #[.string z2, .float .f64 r2, .map o2] 97 (0, 0)) → V.heap[b11]? = some (.cells #[.slice xo xn xc, .map xp, .slice uo ul uc, .map xx] 87 (0, 0)) → Below w.heap.size w V → Q .normal { tmps := #[.agg pol, .string ts, .string to, sv, .pointer (some ⟨q4, 0, none⟩), undef, undef, undef, .slice none 0 0, .pointer (some ⟨b9, 0, none⟩), .pointer (some ⟨b10, 0, none⟩), .pointer (some ⟨b11, 0, none⟩), .agg pol, .string ts, .agg #[.string z1, .float .f64 r1, .map o1], .agg pol, .string to, .agg #[.string z2, .float .f64 r2, .map o2], .agg pol, sv, .agg #[.slice xo xn xc, .map xp, .slice uo ul uc, .map xx], undef, undef, undef, undef, undef, undef, undef], defers := [] } V) (v14 v17 v20 : Value) (b10 : Nat) (V : World) (hB : Below w.heap.size w V) (hS : V.heap[q4]? = some (.cells pol 28 (0, 0))) (j1 : J1 v14 V) (j2 : J2 v17 V) (j3 : J3 v20 V) (z10 : V.heap[b10]? = some (.cells #[.string ⟨#[]⟩, .float .f64 0, .map none] 97 (0, 0))) (l10 : w.heap.size ≤ b10) : wpAnyH Try.prog .any ops56 Q (fun V => V.heap[q4]? = some (.cells pol 28 (0, 0))) 5 #[true, true, true, true, true, true, true, true, true, false, true, false, false, false, false] { tmps := #[.agg pol, .string ts, .string to, sv, .pointer (some ⟨q4, 0, none⟩), undef, undef, undef, .slice none 0 0, undef, .pointer (some ⟨b10, 0, none⟩), undef, .agg pol, .string ts, v14, .agg pol, .string to, v17, .agg pol, sv, v20, undef, undef, undef, undef, undef, undef, undef], defers := [] } V := by
  refine wpAnyH_ready (rs := [9, 11]) (by kernel_rfl) (by simp) ?_
  refine AllReadyH.cons (o := { dst := some 9, op := Op.alloc 97, type := 0, pos := "reading.go:26", after := #[], guard := none }) rfl (fun K hK => ?_) ?_
  · go_simp
    have bn : Below V.heap.size V (V.alloc (.cells #[.string ⟨#[]⟩, .float .f64 0, .map none] 97)) := (Below.refl _ _).alloc (Nat.le_refl _) _
    have hS1 := (bn.block _ (lt_of_heap hS)).trans hS
    refine hK.out _ _ hS1 (fun hHeld => ?_)
    clear hK K hHeld
    (try simp only [Act.put, List.setIfInBounds_toArray, List.set_cons_zero, List.set_cons_succ])
    exact L3_ab X HQ v14 v17 v20 V.heap.size b10 (V.alloc (.cells #[.string ⟨#[]⟩, .float .f64 0, .map none] 97)) (hB.trans (bn.mono hB.size)) hS1 (X.s1 _ _ _ _ j1 (turn_below (S := fun _ => False) bn) (soft_no _)) (X.s2 _ _ _ _ j2 (turn_below (S := fun _ => False) bn) (soft_no _)) (X.s3 _ _ _ _ j3 (turn_below (S := fun _ => False) bn) (soft_no _)) (heap_alloc_new V _) hB.size ((bn.block _ (lt_of_heap z10)).trans z10) l10 (Nat.ne_of_gt (lt_of_heap z10))
  refine AllReadyH.cons (o := { dst := some 11, op := Op.alloc 87, type := 0, pos := "reading.go:26", after := #[], guard := none }) rfl (fun K hK => ?_) AllReadyH.nil
  go_simp
  have bn : Below V.heap.size V (V.alloc (.cells #[.slice none 0 0, .map none, .slice none 0 0, .map none] 87)) := (Below.refl _ _).alloc (Nat.le_refl _) _
  have hS1 := (bn.block _ (lt_of_heap hS)).trans hS
  refine hK.out _ _ hS1 (fun hHeld => ?_)
  clear hK K hHeld
  (try simp only [Act.put, List.setIfInBounds_toArray, List.set_cons_zero, List.set_cons_succ])
  exact L3_bc X HQ v14 v17 v20 b10 V.heap.size (V.alloc (.cells #[.slice none 0 0, .map none, .slice none 0 0, .map none] 87)) (hB.trans (bn.mono hB.size)) hS1 (X.s1 _ _ _ _ j1 (turn_below (S := fun _ => False) bn) (soft_no _)) (X.s2 _ _ _ _ j2 (turn_below (S := fun _ => False) bn) (soft_no _)) (X.s3 _ _ _ _ j3 (turn_below (S := fun _ => False) bn) (soft_no _)) ((bn.block _ (lt_of_heap z10)).trans z10) l10 (heap_alloc_new V _) hB.size
set_option maxRecDepth 100000 in
set_option maxHeartbeats 4000000 in
theorem L3_c {w : World} {q4 : Nat} {pol : Array Value} {ts to : ByteArray} {sv : Value} {J1 J2 J3 : Value → World → Prop} {Q : Exit → Act → World → Prop} (X : Cx w (.agg pol) ts to sv J1 J2 J3) (HQ : ∀ z1 r1 o1 z2 r2 o2 xo xn xc xp uo ul uc xx b9 b10 b11 V, J1 (.agg #[.string z1, .float .f64 r1, .map o1]) V → J2 (.agg #[.string z2, .float .f64 r2, .map o2]) V → J3 (.agg #[.slice xo xn xc, .map xp, .slice uo ul uc, .map xx]) V → V.heap[b9]? = some (.cells #[.string z1, .float .f64 r1, .map o1] 97 (0, 0)) → V.heap[b10]? = some (.cells #[.string z2, .float .f64 r2, .map o2] 97 (0, 0)) → V.heap[b11]? = some (.cells #[.slice xo xn xc, .map xp, .slice uo ul uc, .map xx] 87 (0, 0)) → Below w.heap.size w V → Q .normal { tmps := #[.agg pol, .string ts, .string to, sv, .pointer (some ⟨q4, 0, none⟩), undef, undef, undef, .slice none 0 0, .pointer (some ⟨b9, 0, none⟩), .pointer (some ⟨b10, 0, none⟩), .pointer (some ⟨b11, 0, none⟩), .agg pol, .string ts, .agg #[.string z1, .float .f64 r1, .map o1], .agg pol, .string to, .agg #[.string z2, .float .f64 r2, .map o2], .agg pol, sv, .agg #[.slice xo xn xc, .map xp, .slice uo ul uc, .map xx], undef, undef, undef, undef, undef, undef, undef], defers := [] } V) (v14 v17 v20 : Value) (b11 : Nat) (V : World) (hB : Below w.heap.size w V) (hS : V.heap[q4]? = some (.cells pol 28 (0, 0))) (j1 : J1 v14 V) (j2 : J2 v17 V) (j3 : J3 v20 V) (z11 : V.heap[b11]? = some (.cells #[.slice none 0 0, .map none, .slice none 0 0, .map none] 87 (0, 0))) (l11 : w.heap.size ≤ b11) : wpAnyH Try.prog .any ops56 Q (fun V => V.heap[q4]? = some (.cells pol 28 (0, 0))) 5 #[true, true, true, true, true, true, true, true, true, false, false, true, false, false, false] { tmps := #[.agg pol, .string ts, .string to, sv, .pointer (some ⟨q4, 0, none⟩), undef, undef, undef, .slice none 0 0, undef, undef, .pointer (some ⟨b11, 0, none⟩), .agg pol, .string ts, v14, .agg pol, .string to, v17, .agg pol, sv, v20, undef, undef, undef, undef, undef, undef, undef], defers := [] } V := by
  refine wpAnyH_ready (rs := [9, 10]) (by kernel_rfl) (by simp) ?_
  refine AllReadyH.cons (o := { dst := some 9, op := Op.alloc 97, type := 0, pos := "reading.go:26", after := #[], guard := none }) rfl (fun K hK => ?_) ?_
  · go_simp
    have bn : Below V.heap.size V (V.alloc (.cells #[.string ⟨#[]⟩, .float .f64 0, .map none] 97)) := (Below.refl _ _).alloc (Nat.le_refl _) _
    have hS1 := (bn.block _ (lt_of_heap hS)).trans hS
    refine hK.out _ _ hS1 (fun hHeld => ?_)
    clear hK K hHeld
    (try simp only [Act.put, List.setIfInBounds_toArray, List.set_cons_zero, List.set_cons_succ])
    exact L3_ac X HQ v14 v17 v20 V.heap.size b11 (V.alloc (.cells #[.string ⟨#[]⟩, .float .f64 0, .map none] 97)) (hB.trans (bn.mono hB.size)) hS1 (X.s1 _ _ _ _ j1 (turn_below (S := fun _ => False) bn) (soft_no _)) (X.s2 _ _ _ _ j2 (turn_below (S := fun _ => False) bn) (soft_no _)) (X.s3 _ _ _ _ j3 (turn_below (S := fun _ => False) bn) (soft_no _)) (heap_alloc_new V _) hB.size ((bn.block _ (lt_of_heap z11)).trans z11) l11
  refine AllReadyH.cons (o := { dst := some 10, op := Op.alloc 97, type := 0, pos := "reading.go:26", after := #[], guard := none }) rfl (fun K hK => ?_) AllReadyH.nil
  go_simp
  have bn : Below V.heap.size V (V.alloc (.cells #[.string ⟨#[]⟩, .float .f64 0, .map none] 97)) := (Below.refl _ _).alloc (Nat.le_refl _) _
  have hS1 := (bn.block _ (lt_of_heap hS)).trans hS
  refine hK.out _ _ hS1 (fun hHeld => ?_)
  clear hK K hHeld
  (try simp only [Act.put, List.setIfInBounds_toArray, List.set_cons_zero, List.set_cons_succ])
  exact L3_bc X HQ v14 v17 v20 V.heap.size b11 (V.alloc (.cells #[.string ⟨#[]⟩, .float .f64 0, .map none] 97)) (hB.trans (bn.mono hB.size)) hS1 (X.s1 _ _ _ _ j1 (turn_below (S := fun _ => False) bn) (soft_no _)) (X.s2 _ _ _ _ j2 (turn_below (S := fun _ => False) bn) (soft_no _)) (X.s3 _ _ _ _ j3 (turn_below (S := fun _ => False) bn) (soft_no _)) (heap_alloc_new V _) hB.size ((bn.block _ (lt_of_heap z11)).trans z11) l11
set_option maxRecDepth 100000 in
set_option maxHeartbeats 4000000 in
theorem L3_0 {w : World} {q4 : Nat} {pol : Array Value} {ts to : ByteArray} {sv : Value} {J1 J2 J3 : Value → World → Prop} {Q : Exit → Act → World → Prop} (X : Cx w (.agg pol) ts to sv J1 J2 J3) (HQ : ∀ z1 r1 o1 z2 r2 o2 xo xn xc xp uo ul uc xx b9 b10 b11 V, J1 (.agg #[.string z1, .float .f64 r1, .map o1]) V → J2 (.agg #[.string z2, .float .f64 r2, .map o2]) V → J3 (.agg #[.slice xo xn xc, .map xp, .slice uo ul uc, .map xx]) V → V.heap[b9]? = some (.cells #[.string z1, .float .f64 r1, .map o1] 97 (0, 0)) → V.heap[b10]? = some (.cells #[.string z2, .float .f64 r2, .map o2] 97 (0, 0)) → V.heap[b11]? = some (.cells #[.slice xo xn xc, .map xp, .slice uo ul uc, .map xx] 87 (0, 0)) → Below w.heap.size w V → Q .normal { tmps := #[.agg pol, .string ts, .string to, sv, .pointer (some ⟨q4, 0, none⟩), undef, undef, undef, .slice none 0 0, .pointer (some ⟨b9, 0, none⟩), .pointer (some ⟨b10, 0, none⟩), .pointer (some ⟨b11, 0, none⟩), .agg pol, .string ts, .agg #[.string z1, .float .f64 r1, .map o1], .agg pol, .string to, .agg #[.string z2, .float .f64 r2, .map o2], .agg pol, sv, .agg #[.slice xo xn xc, .map xp, .slice uo ul uc, .map xx], undef, undef, undef, undef, undef, undef, undef], defers := [] } V) (v14 v17 v20 : Value) (V : World) (hB : Below w.heap.size w V) (hS : V.heap[q4]? = some (.cells pol 28 (0, 0))) (j1 : J1 v14 V) (j2 : J2 v17 V) (j3 : J3 v20 V) : wpAnyH Try.prog .any ops56 Q (fun V => V.heap[q4]? = some (.cells pol 28 (0, 0))) 6 #[true, true, true, true, true, true, true, true, true, false, false, false, false, false, false] { tmps := #[.agg pol, .string ts, .string to, sv, .pointer (some ⟨q4, 0, none⟩), undef, undef, undef, .slice none 0 0, undef, undef, undef, .agg pol, .string ts, v14, .agg pol, .string to, v17, .agg pol, sv, v20, undef, undef, undef, undef, undef, undef, undef], defers := [] } V := by
  refine wpAnyH_ready (rs := [9, 10, 11]) (by kernel_rfl) (by simp) ?_
  refine AllReadyH.cons (o := { dst := some 9, op := Op.alloc 97, type := 0, pos := "reading.go:26", after := #[], guard := none }) rfl (fun K hK => ?_) ?_
  · go_simp
    have bn : Below V.heap.size V (V.alloc (.cells #[.string ⟨#[]⟩, .float .f64 0, .map none] 97)) := (Below.refl _ _).alloc (Nat.le_refl _) _
    have hS1 := (bn.block _ (lt_of_heap hS)).trans hS
    refine hK.out _ _ hS1 (fun hHeld => ?_)
    clear hK K hHeld
    (try simp only [Act.put, List.setIfInBounds_toArray, List.set_cons_zero, List.set_cons_succ])
    exact L3_a X HQ v14 v17 v20 V.heap.size (V.alloc (.cells #[.string ⟨#[]⟩, .float .f64 0, .map none] 97)) (hB.trans (bn.mono hB.size)) hS1 (X.s1 _ _ _ _ j1 (turn_below (S := fun _ => False) bn) (soft_no _)) (X.s2 _ _ _ _ j2 (turn_below (S := fun _ => False) bn) (soft_no _)) (X.s3 _ _ _ _ j3 (turn_below (S := fun _ => False) bn) (soft_no _)) (heap_alloc_new V _) hB.size
  refine AllReadyH.cons (o := { dst := some 10, op := Op.alloc 97, type := 0, pos := "reading.go:26", after := #[], guard := none }) rfl (fun K hK => ?_) ?_
  · go_simp
    have bn : Below V.heap.size V (V.alloc (.cells #[.string ⟨#[]⟩, .float .f64 0, .map none] 97)) := (Below.refl _ _).alloc (Nat.le_refl _) _
    have hS1 := (bn.block _ (lt_of_heap hS)).trans hS
    refine hK.out _ _ hS1 (fun hHeld => ?_)
    clear hK K hHeld
    (try simp only [Act.put, List.setIfInBounds_toArray, List.set_cons_zero, List.set_cons_succ])
    exact L3_b X HQ v14 v17 v20 V.heap.size (V.alloc (.cells #[.string ⟨#[]⟩, .float .f64 0, .map none] 97)) (hB.trans (bn.mono hB.size)) hS1 (X.s1 _ _ _ _ j1 (turn_below (S := fun _ => False) bn) (soft_no _)) (X.s2 _ _ _ _ j2 (turn_below (S := fun _ => False) bn) (soft_no _)) (X.s3 _ _ _ _ j3 (turn_below (S := fun _ => False) bn) (soft_no _)) (heap_alloc_new V _) hB.size
  refine AllReadyH.cons (o := { dst := some 11, op := Op.alloc 87, type := 0, pos := "reading.go:26", after := #[], guard := none }) rfl (fun K hK => ?_) AllReadyH.nil
  go_simp
  have bn : Below V.heap.size V (V.alloc (.cells #[.slice none 0 0, .map none, .slice none 0 0, .map none] 87)) := (Below.refl _ _).alloc (Nat.le_refl _) _
  have hS1 := (bn.block _ (lt_of_heap hS)).trans hS
  refine hK.out _ _ hS1 (fun hHeld => ?_)
  clear hK K hHeld
  (try simp only [Act.put, List.setIfInBounds_toArray, List.set_cons_zero, List.set_cons_succ])
  exact L3_c X HQ v14 v17 v20 V.heap.size (V.alloc (.cells #[.slice none 0 0, .map none, .slice none 0 0, .map none] 87)) (hB.trans (bn.mono hB.size)) hS1 (X.s1 _ _ _ _ j1 (turn_below (S := fun _ => False) bn) (soft_no _)) (X.s2 _ _ _ _ j2 (turn_below (S := fun _ => False) bn) (soft_no _)) (X.s3 _ _ _ _ j3 (turn_below (S := fun _ => False) bn) (soft_no _)) (heap_alloc_new V _) hB.size
set_option maxRecDepth 100000 in
set_option maxHeartbeats 4000000 in
theorem L2_abc {w : World} {q4 : Nat} {pol : Array Value} {ts to : ByteArray} {sv : Value} {J1 J2 J3 : Value → World → Prop} {Q : Exit → Act → World → Prop} (X : Cx w (.agg pol) ts to sv J1 J2 J3) (HQ : ∀ z1 r1 o1 z2 r2 o2 xo xn xc xp uo ul uc xx b9 b10 b11 V, J1 (.agg #[.string z1, .float .f64 r1, .map o1]) V → J2 (.agg #[.string z2, .float .f64 r2, .map o2]) V → J3 (.agg #[.slice xo xn xc, .map xp, .slice uo ul uc, .map xx]) V → V.heap[b9]? = some (.cells #[.string z1, .float .f64 r1, .map o1] 97 (0, 0)) → V.heap[b10]? = some (.cells #[.string z2, .float .f64 r2, .map o2] 97 (0, 0)) → V.heap[b11]? = some (.cells #[.slice xo xn xc, .map xp, .slice uo ul uc, .map xx] 87 (0, 0)) → Below w.heap.size w V → Q .normal { tmps := #[.agg pol, .string ts, .string to, sv, .pointer (some ⟨q4, 0, none⟩), undef, undef, undef, .slice none 0 0, .pointer (some ⟨b9, 0, none⟩), .pointer (some ⟨b10, 0, none⟩), .pointer (some ⟨b11, 0, none⟩), .agg pol, .string ts, .agg #[.string z1, .float .f64 r1, .map o1], .agg pol, .string to, .agg #[.string z2, .float .f64 r2, .map o2], .agg pol, sv, .agg #[.slice xo xn xc, .map xp, .slice uo ul uc, .map xx], undef, undef, undef, undef, undef, undef, undef], defers := [] } V) (v14 v17 : Value) (b9 b10 b11 : Nat) (V : World) (hB : Below w.heap.size w V) (hS : V.heap[q4]? = some (.cells pol 28 (0, 0))) (j1 : J1 v14 V) (j2 : J2 v17 V) (z9 : V.heap[b9]? = some (.cells #[.string ⟨#[]⟩, .float .f64 0, .map none] 97 (0, 0))) (l9 : w.heap.size ≤ b9) (z10 : V.heap[b10]? = some (.cells #[.string ⟨#[]⟩, .float .f64 0, .map none] 97 (0, 0))) (l10 : w.heap.size ≤ b10) (z11 : V.heap[b11]? = some (.cells #[.slice none 0 0, .map none, .slice none 0 0, .map none] 87 (0, 0))) (l11 : w.heap.size ≤ b11) (ne : b9 ≠ b10) : wpAnyH Try.prog .any ops56 Q (fun V => V.heap[q4]? = some (.cells pol 28 (0, 0))) 4 #[true, true, true, true, true, true, true, true, false, true, true, true, false, false, false] { tmps := #[.agg pol, .string ts, .string to, sv, .pointer (some ⟨q4, 0, none⟩), undef, undef, undef, .slice none 0 0, .pointer (some ⟨b9, 0, none⟩), .pointer (some ⟨b10, 0, none⟩), .pointer (some ⟨b11, 0, none⟩), .agg pol, .string ts, v14, .agg pol, .string to, v17, .agg pol, sv, undef, undef, undef, undef, undef, undef, undef, undef], defers := [] } V := by
  refine wpAnyH_ready (rs := [8]) (by kernel_rfl) (by simp) ?_
  refine AllReadyH.cons (o := { dst := some 20, op := Op.call { callee := Callee.value (Operand.func 42), args := #[Operand.tmp 18, Operand.tmp 19], argTypes := #[28, 22] }, type := 87, pos := "reading.go:26", after := #[{ on := 6, ground := Ground.data }, { on := 7, ground := Ground.data }, { on := 5, ground := Ground.chain }], guard := none }) rfl (fun K hK => ?_) AllReadyH.nil
  go_simp
  refine (X.c3 V hB).mono ?_
  rintro e x1 ⟨v20, rfl, jn, bn⟩
  (try dsimp only)
  have hS1 := (bn.block _ (lt_of_heap hS)).trans hS
  refine hK.out _ _ hS1 (fun hHeld => ?_)
  clear hK K hHeld
  (try simp only [Act.put, List.setIfInBounds_toArray, List.set_cons_zero, List.set_cons_succ])
  exact L3_abc X HQ v14 v17 v20 b9 b10 b11 x1 (hB.trans (bn.mono hB.size)) hS1 (X.s1 _ _ _ _ j1 (turn_below (S := fun _ => False) bn) (soft_no _)) (X.s2 _ _ _ _ j2 (turn_below (S := fun _ => False) bn) (soft_no _)) jn ((bn.block _ (lt_of_heap z9)).trans z9) l9 ((bn.block _ (lt_of_heap z10)).trans z10) l10 ((bn.block _ (lt_of_heap z11)).trans z11) l11 ne
set_option maxRecDepth 100000 in
set_option maxHeartbeats 4000000 in
theorem L2_ab {w : World} {q4 : Nat} {pol : Array Value} {ts to : ByteArray} {sv : Value} {J1 J2 J3 : Value → World → Prop} {Q : Exit → Act → World → Prop} (X : Cx w (.agg pol) ts to sv J1 J2 J3) (HQ : ∀ z1 r1 o1 z2 r2 o2 xo xn xc xp uo ul uc xx b9 b10 b11 V, J1 (.agg #[.string z1, .float .f64 r1, .map o1]) V → J2 (.agg #[.string z2, .float .f64 r2, .map o2]) V → J3 (.agg #[.slice xo xn xc, .map xp, .slice uo ul uc, .map xx]) V → V.heap[b9]? = some (.cells #[.string z1, .float .f64 r1, .map o1] 97 (0, 0)) → V.heap[b10]? = some (.cells #[.string z2, .float .f64 r2, .map o2] 97 (0, 0)) → V.heap[b11]? = some (.cells #[.slice xo xn xc, .map xp, .slice uo ul uc, .map xx] 87 (0, 0)) → Below w.heap.size w V → Q .normal { tmps := #[.agg pol, .string ts, .string to, sv, .pointer (some ⟨q4, 0, none⟩), undef, undef, undef, .slice none 0 0, .pointer (some ⟨b9, 0, none⟩), .pointer (some ⟨b10, 0, none⟩), .pointer (some ⟨b11, 0, none⟩), .agg pol, .string ts, .agg #[.string z1, .float .f64 r1, .map o1], .agg pol, .string to, .agg #[.string z2, .float .f64 r2, .map o2], .agg pol, sv, .agg #[.slice xo xn xc, .map xp, .slice uo ul uc, .map xx], undef, undef, undef, undef, undef, undef, undef], defers := [] } V) (v14 v17 : Value) (b9 b10 : Nat) (V : World) (hB : Below w.heap.size w V) (hS : V.heap[q4]? = some (.cells pol 28 (0, 0))) (j1 : J1 v14 V) (j2 : J2 v17 V) (z9 : V.heap[b9]? = some (.cells #[.string ⟨#[]⟩, .float .f64 0, .map none] 97 (0, 0))) (l9 : w.heap.size ≤ b9) (z10 : V.heap[b10]? = some (.cells #[.string ⟨#[]⟩, .float .f64 0, .map none] 97 (0, 0))) (l10 : w.heap.size ≤ b10) (ne : b9 ≠ b10) : wpAnyH Try.prog .any ops56 Q (fun V => V.heap[q4]? = some (.cells pol 28 (0, 0))) 5 #[true, true, true, true, true, true, true, true, false, true, true, false, false, false, false] { tmps := #[.agg pol, .string ts, .string to, sv, .pointer (some ⟨q4, 0, none⟩), undef, undef, undef, .slice none 0 0, .pointer (some ⟨b9, 0, none⟩), .pointer (some ⟨b10, 0, none⟩), undef, .agg pol, .string ts, v14, .agg pol, .string to, v17, .agg pol, sv, undef, undef, undef, undef, undef, undef, undef, undef], defers := [] } V := by
  refine wpAnyH_ready (rs := [8, 11]) (by kernel_rfl) (by simp) ?_
  refine AllReadyH.cons (o := { dst := some 20, op := Op.call { callee := Callee.value (Operand.func 42), args := #[Operand.tmp 18, Operand.tmp 19], argTypes := #[28, 22] }, type := 87, pos := "reading.go:26", after := #[{ on := 6, ground := Ground.data }, { on := 7, ground := Ground.data }, { on := 5, ground := Ground.chain }], guard := none }) rfl (fun K hK => ?_) ?_
  · go_simp
    refine (X.c3 V hB).mono ?_
    rintro e x1 ⟨v20, rfl, jn, bn⟩
    (try dsimp only)
    have hS1 := (bn.block _ (lt_of_heap hS)).trans hS
    refine hK.out _ _ hS1 (fun hHeld => ?_)
    clear hK K hHeld
    (try simp only [Act.put, List.setIfInBounds_toArray, List.set_cons_zero, List.set_cons_succ])
    exact L3_ab X HQ v14 v17 v20 b9 b10 x1 (hB.trans (bn.mono hB.size)) hS1 (X.s1 _ _ _ _ j1 (turn_below (S := fun _ => False) bn) (soft_no _)) (X.s2 _ _ _ _ j2 (turn_below (S := fun _ => False) bn) (soft_no _)) jn ((bn.block _ (lt_of_heap z9)).trans z9) l9 ((bn.block _ (lt_of_heap z10)).trans z10) l10 ne
  refine AllReadyH.cons (o := { dst := some 11, op := Op.alloc 87, type := 0, pos := "reading.go:26", after := #[], guard := none }) rfl (fun K hK => ?_) AllReadyH.nil
  go_simp
  have bn : Below V.heap.size V (V.alloc (.cells #[.slice none 0 0, .map none, .slice none 0 0, .map none] 87)) := (Below.refl _ _).alloc (Nat.le_refl _) _
  have hS1 := (bn.block _ (lt_of_heap hS)).trans hS
  refine hK.out _ _ hS1 (fun hHeld => ?_)
  clear hK K hHeld
  (try simp only [Act.put, List.setIfInBounds_toArray, List.set_cons_zero, List.set_cons_succ])
  exact L2_abc X HQ v14 v17 b9 b10 V.heap.size (V.alloc (.cells #[.slice none 0 0, .map none, .slice none 0 0, .map none] 87)) (hB.trans (bn.mono hB.size)) hS1 (X.s1 _ _ _ _ j1 (turn_below (S := fun _ => False) bn) (soft_no _)) (X.s2 _ _ _ _ j2 (turn_below (S := fun _ => False) bn) (soft_no _)) ((bn.block _ (lt_of_heap z9)).trans z9) l9 ((bn.block _ (lt_of_heap z10)).trans z10) l10 (heap_alloc_new V _) hB.size ne
set_option maxRecDepth 100000 in
set_option maxHeartbeats 4000000 in
theorem L2_ac {w : World} {q4 : Nat} {pol : Array Value} {ts to : ByteArray} {sv : Value} {J1 J2 J3 : Value → World → Prop} {Q : Exit → Act → World → Prop} (X : Cx w (.agg pol) ts to sv J1 J2 J3) (HQ : ∀ z1 r1 o1 z2 r2 o2 xo xn xc xp uo ul uc xx b9 b10 b11 V, J1 (.agg #[.string z1, .float .f64 r1, .map o1]) V → J2 (.agg #[.string z2, .float .f64 r2, .map o2]) V → J3 (.agg #[.slice xo xn xc, .map xp, .slice uo ul uc, .map xx]) V → V.heap[b9]? = some (.cells #[.string z1, .float .f64 r1, .map o1] 97 (0, 0)) → V.heap[b10]? = some (.cells #[.string z2, .float .f64 r2, .map o2] 97 (0, 0)) → V.heap[b11]? = some (.cells #[.slice xo xn xc, .map xp, .slice uo ul uc, .map xx] 87 (0, 0)) → Below w.heap.size w V → Q .normal { tmps := #[.agg pol, .string ts, .string to, sv, .pointer (some ⟨q4, 0, none⟩), undef, undef, undef, .slice none 0 0, .pointer (some ⟨b9, 0, none⟩), .pointer (some ⟨b10, 0, none⟩), .pointer (some ⟨b11, 0, none⟩), .agg pol, .string ts, .agg #[.string z1, .float .f64 r1, .map o1], .agg pol, .string to, .agg #[.string z2, .float .f64 r2, .map o2], .agg pol, sv, .agg #[.slice xo xn xc, .map xp, .slice uo ul uc, .map xx], undef, undef, undef, undef, undef, undef, undef], defers := [] } V) (v14 v17 : Value) (b9 b11 : Nat) (V : World) (hB : Below w.heap.size w V) (hS : V.heap[q4]? = some (.cells pol 28 (0, 0))) (j1 : J1 v14 V) (j2 : J2 v17 V) (z9 : V.heap[b9]? = some (.cells #[.string ⟨#[]⟩, .float .f64 0, .map none] 97 (0, 0))) (l9 : w.heap.size ≤ b9) (z11 : V.heap[b11]? = some (.cells #[.slice none 0 0, .map none, .slice none 0 0, .map none] 87 (0, 0))) (l11 : w.heap.size ≤ b11) : wpAnyH Try.prog .any ops56 Q (fun V => V.heap[q4]? = some (.cells pol 28 (0, 0))) 5 #[true, true, true, true, true, true, true, true, false, true, false, true, false, false, false] { tmps := #[.agg pol, .string ts, .string to, sv, .pointer (some ⟨q4, 0, none⟩), undef, undef, undef, .slice none 0 0, .pointer (some ⟨b9, 0, none⟩), undef, .pointer (some ⟨b11, 0, none⟩), .agg pol, .string ts, v14, .agg pol, .string to, v17, .agg pol, sv, undef, undef, undef, undef, undef, undef, undef, undef], defers := [] } V := by
  refine wpAnyH_ready (rs := [8, 10]) (by kernel_rfl) (by simp) ?_
  refine AllReadyH.cons (o := { dst := some 20, op := Op.call { callee := Callee.value (Operand.func 42), args := #[Operand.tmp 18, Operand.tmp 19], argTypes := #[28, 22] }, type := 87, pos := "reading.go:26", after := #[{ on := 6, ground := Ground.data }, { on := 7, ground := Ground.data }, { on := 5, ground := Ground.chain }], guard := none }) rfl (fun K hK => ?_) ?_
  · go_simp
    refine (X.c3 V hB).mono ?_
    rintro e x1 ⟨v20, rfl, jn, bn⟩
    (try dsimp only)
    have hS1 := (bn.block _ (lt_of_heap hS)).trans hS
    refine hK.out _ _ hS1 (fun hHeld => ?_)
    clear hK K hHeld
    (try simp only [Act.put, List.setIfInBounds_toArray, List.set_cons_zero, List.set_cons_succ])
    exact L3_ac X HQ v14 v17 v20 b9 b11 x1 (hB.trans (bn.mono hB.size)) hS1 (X.s1 _ _ _ _ j1 (turn_below (S := fun _ => False) bn) (soft_no _)) (X.s2 _ _ _ _ j2 (turn_below (S := fun _ => False) bn) (soft_no _)) jn ((bn.block _ (lt_of_heap z9)).trans z9) l9 ((bn.block _ (lt_of_heap z11)).trans z11) l11
  refine AllReadyH.cons (o := { dst := some 10, op := Op.alloc 97, type := 0, pos := "reading.go:26", after := #[], guard := none }) rfl (fun K hK => ?_) AllReadyH.nil
  go_simp
  have bn : Below V.heap.size V (V.alloc (.cells #[.string ⟨#[]⟩, .float .f64 0, .map none] 97)) := (Below.refl _ _).alloc (Nat.le_refl _) _
  have hS1 := (bn.block _ (lt_of_heap hS)).trans hS
  refine hK.out _ _ hS1 (fun hHeld => ?_)
  clear hK K hHeld
  (try simp only [Act.put, List.setIfInBounds_toArray, List.set_cons_zero, List.set_cons_succ])
  exact L2_abc X HQ v14 v17 b9 V.heap.size b11 (V.alloc (.cells #[.string ⟨#[]⟩, .float .f64 0, .map none] 97)) (hB.trans (bn.mono hB.size)) hS1 (X.s1 _ _ _ _ j1 (turn_below (S := fun _ => False) bn) (soft_no _)) (X.s2 _ _ _ _ j2 (turn_below (S := fun _ => False) bn) (soft_no _)) ((bn.block _ (lt_of_heap z9)).trans z9) l9 (heap_alloc_new V _) hB.size ((bn.block _ (lt_of_heap z11)).trans z11) l11 (Nat.ne_of_lt (lt_of_heap z9))
set_option maxRecDepth 100000 in
set_option maxHeartbeats 4000000 in
theorem L2_bc {w : World} {q4 : Nat} {pol : Array Value} {ts to : ByteArray} {sv : Value} {J1 J2 J3 : Value → World → Prop} {Q : Exit → Act → World → Prop} (X : Cx w (.agg pol) ts to sv J1 J2 J3) (HQ : ∀ z1 r1 o1 z2 r2 o2 xo xn xc xp uo ul uc xx b9 b10 b11 V, J1 (.agg #[.string z1, .float .f64 r1, .map o1]) V → J2 (.agg #[.string z2, .float .f64 r2, .map o2]) V → J3 (.agg #[.slice xo xn xc, .map xp, .slice uo ul uc, .map xx]) V → V.heap[b9]? = some (.cells #[.string z1, .float .f64 r1, .map o1] 97 (0, 0)) → V.heap[b10]? = some (.cells #[.string z2, .float .f64 r2, .map o2] 97 (0, 0)) → V.heap[b11]? = some (.cells #[.slice xo xn xc, .map xp, .slice uo ul uc, .map xx] 87 (0, 0)) → Below w.heap.size w V → Q .normal { tmps := #[.agg pol, .string ts, .string to, sv, .pointer (some ⟨q4, 0, none⟩), undef, undef, undef, .slice none 0 0, .pointer (some ⟨b9, 0, none⟩), .pointer (some ⟨b10, 0, none⟩), .pointer (some ⟨b11, 0, none⟩), .agg pol, .string ts, .agg #[.string z1, .float .f64 r1, .map o1], .agg pol, .string to, .agg #[.string z2, .float .f64 r2, .map o2], .agg pol, sv, .agg #[.slice xo xn xc, .map xp, .slice uo ul uc, .map xx], undef, undef, undef, undef, undef, undef, undef], defers := [] } V) (v14 v17 : Value) (b10 b11 : Nat) (V : World) (hB : Below w.heap.size w V) (hS : V.heap[q4]? = some (.cells pol 28 (0, 0))) (j1 : J1 v14 V) (j2 : J2 v17 V) (z10 : V.heap[b10]? = some (.cells #[.string ⟨#[]⟩, .float .f64 0, .map none] 97 (0, 0))) (l10 : w.heap.size ≤ b10) (z11 : V.heap[b11]? = some (.cells #[.slice none 0 0, .map none, .slice none 0 0, .map none] 87 (0, 0))) (l11 : w.heap.size ≤ b11) : wpAnyH Try.prog .any ops56 Q (fun V => V.heap[q4]? = some (.cells pol 28 (0, 0))) 5 #[true, true, true, true, true, true, true, true, false, false, true, true, false, false, false] { tmps := #[.agg pol, .string ts, .string to, sv, .pointer (some ⟨q4, 0, none⟩), undef, undef, undef, .slice none 0 0, undef, .pointer (some ⟨b10, 0, none⟩), .pointer (some ⟨b11, 0, none⟩), .agg pol, .string ts, v14, .agg pol, .string to, v17, .agg pol, sv, undef, undef, undef, undef, undef, undef, undef, undef], defers := [] } V := by
  refine wpAnyH_ready (rs := [8, 9]) (by kernel_rfl) (by simp) ?_
  refine AllReadyH.cons (o := { dst := some 20, op := Op.call { callee := Callee.value (Operand.func 42), args := #[Operand.tmp 18, Operand.tmp 19], argTypes := #[28, 22] }, type := 87, pos := "reading.go:26", after := #[{ on := 6, ground := Ground.data }, { on := 7, ground := Ground.data }, { on := 5, ground := Ground.chain }], guard := none }) rfl (fun K hK => ?_) ?_
  · go_simp
    refine (X.c3 V hB).mono ?_
    rintro e x1 ⟨v20, rfl, jn, bn⟩
    (try dsimp only)
    have hS1 := (bn.block _ (lt_of_heap hS)).trans hS
    refine hK.out _ _ hS1 (fun hHeld => ?_)
    clear hK K hHeld
    (try simp only [Act.put, List.setIfInBounds_toArray, List.set_cons_zero, List.set_cons_succ])
    exact L3_bc X HQ v14 v17 v20 b10 b11 x1 (hB.trans (bn.mono hB.size)) hS1 (X.s1 _ _ _ _ j1 (turn_below (S := fun _ => False) bn) (soft_no _)) (X.s2 _ _ _ _ j2 (turn_below (S := fun _ => False) bn) (soft_no _)) jn ((bn.block _ (lt_of_heap z10)).trans z10) l10 ((bn.block _ (lt_of_heap z11)).trans z11) l11
  refine AllReadyH.cons (o := { dst := some 9, op := Op.alloc 97, type := 0, pos := "reading.go:26", after := #[], guard := none }) rfl (fun K hK => ?_) AllReadyH.nil
  go_simp
  have bn : Below V.heap.size V (V.alloc (.cells #[.string ⟨#[]⟩, .float .f64 0, .map none] 97)) := (Below.refl _ _).alloc (Nat.le_refl _) _
  have hS1 := (bn.block _ (lt_of_heap hS)).trans hS
  refine hK.out _ _ hS1 (fun hHeld => ?_)
  clear hK K hHeld
  (try simp only [Act.put, List.setIfInBounds_toArray, List.set_cons_zero, List.set_cons_succ])
  exact L2_abc X HQ v14 v17 V.heap.size b10 b11 (V.alloc (.cells #[.string ⟨#[]⟩, .float .f64 0, .map none] 97)) (hB.trans (bn.mono hB.size)) hS1 (X.s1 _ _ _ _ j1 (turn_below (S := fun _ => False) bn) (soft_no _)) (X.s2 _ _ _ _ j2 (turn_below (S := fun _ => False) bn) (soft_no _)) (heap_alloc_new V _) hB.size ((bn.block _ (lt_of_heap z10)).trans z10) l10 ((bn.block _ (lt_of_heap z11)).trans z11) l11 (Nat.ne_of_gt (lt_of_heap z10))
set_option maxRecDepth 100000 in
set_option maxHeartbeats 4000000 in
theorem L2_a {w : World} {q4 : Nat} {pol : Array Value} {ts to : ByteArray} {sv : Value} {J1 J2 J3 : Value → World → Prop} {Q : Exit → Act → World → Prop} (X : Cx w (.agg pol) ts to sv J1 J2 J3) (HQ : ∀ z1 r1 o1 z2 r2 o2 xo xn xc xp uo ul uc xx b9 b10 b11 V, J1 (.agg #[.string z1, .float .f64 r1, .map o1]) V → J2 (.agg #[.string z2, .float .f64 r2, .map o2]) V → J3 (.agg #[.slice xo xn xc, .map xp, .slice uo ul uc, .map xx]) V → V.heap[b9]? = some (.cells #[.string z1, .float .f64 r1, .map o1] 97 (0, 0)) → V.heap[b10]? = some (.cells #[.string z2, .float .f64 r2, .map o2] 97 (0, 0)) → V.heap[b11]? = some (.cells #[.slice xo xn xc, .map xp, .slice uo ul uc, .map xx] 87 (0, 0)) → Below w.heap.size w V → Q .normal { tmps := #[.agg pol, .string ts, .string to, sv, .pointer (some ⟨q4, 0, none⟩), undef, undef, undef, .slice none 0 0, .pointer (some ⟨b9, 0, none⟩), .pointer (some ⟨b10, 0, none⟩), .pointer (some ⟨b11, 0, none⟩), .agg pol, .string ts, .agg #[.string z1, .float .f64 r1, .map o1], .agg pol, .string to, .agg #[.string z2, .float .f64 r2, .map o2], .agg pol, sv, .agg #[.slice xo xn xc, .map xp, .slice uo ul uc, .map xx], undef, undef, undef, undef, undef, undef, undef], defers := [] } V) (v14 v17 : Value) (b9 : Nat) (V : World) (hB : Below w.heap.size w V) (hS : V.heap[q4]? = some (.cells pol 28 (0, 0))) (j1 : J1 v14 V) (j2 : J2 v17 V) (z9 : V.heap[b9]? = some (.cells #[.string ⟨#[]⟩, .float .f64 0, .map none] 97 (0, 0))) (l9 : w.heap.size ≤ b9) : wpAnyH Try.prog .any ops56 Q (fun V => V.heap[q4]? = some (.cells pol 28 (0, 0))) 6 #[true, true, true, true, true, true, true, true, false, true, false, false, false, false, false] { tmps := #[.agg pol, .string ts, .string to, sv, .pointer (some ⟨q4, 0, none⟩), undef, undef, undef, .slice none 0 0, .pointer (some ⟨b9, 0, none⟩), undef, undef, .agg pol, .string ts, v14, .agg pol, .string to, v17, .agg pol, sv, undef, undef, undef, undef, undef, undef, undef, undef], defers := [] } V := by
  refine wpAnyH_ready (rs := [8, 10, 11]) (by kernel_rfl) (by simp) ?_
  refine AllReadyH.cons (o := { dst := some 20, op := Op.call { callee := Callee.value (Operand.func 42), args := #[Operand.tmp 18, Operand.tmp 19], argTypes := #[28, 22] }, type := 87, pos := "reading.go:26", after := #[{ on := 6, ground := Ground.data }, { on := 7, ground := Ground.data }, { on := 5, ground := Ground.chain }], guard := none }) rfl (fun K hK => ?_) ?_
  · go_simp
    refine (X.c3 V hB).mono ?_
    rintro e x1 ⟨v20, rfl, jn, bn⟩
    (try dsimp only)
    have hS1 := (bn.block _ (lt_of_heap hS)).trans hS
    refine hK.out _ _ hS1 (fun hHeld => ?_)
    clear hK K hHeld
    (try simp only [Act.put, List.setIfInBounds_toArray, List.set_cons_zero, List.set_cons_succ])
    exact L3_a X HQ v14 v17 v20 b9 x1 (hB.trans (bn.mono hB.size)) hS1 (X.s1 _ _ _ _ j1 (turn_below (S := fun _ => False) bn) (soft_no _)) (X.s2 _ _ _ _ j2 (turn_below (S := fun _ => False) bn) (soft_no _)) jn ((bn.block _ (lt_of_heap z9)).trans z9) l9
  refine AllReadyH.cons (o := { dst := some 10, op := Op.alloc 97, type := 0, pos := "reading.go:26", after := #[], guard := none }) rfl (fun K hK => ?_) ?_
  · go_simp
    have bn : Below V.heap.size V (V.alloc (.cells #[.string ⟨#[]⟩, .float .f64 0, .map none] 97)) := (Below.refl _ _).alloc (Nat.le_refl _) _
    have hS1 := (bn.block _ (lt_of_heap hS)).trans hS
    refine hK.out _ _ hS1 (fun hHeld => ?_)
    clear hK K hHeld
    (try simp only [Act.put, List.setIfInBounds_toArray, List.set_cons_zero, List.set_cons_succ])
    exact L2_ab X HQ v14 v17 b9 V.heap.size (V.alloc (.cells #[.string ⟨#[]⟩, .float .f64 0, .map none] 97)) (hB.trans (bn.mono hB.size)) hS1 (X.s1 _ _ _ _ j1 (turn_below (S := fun _ => False) bn) (soft_no _)) (X.s2 _ _ _ _ j2 (turn_below (S := fun _ => False) bn) (soft_no _)) ((bn.block _ (lt_of_heap z9)).trans z9) l9 (heap_alloc_new V _) hB.size (Nat.ne_of_lt (lt_of_heap z9))
  refine AllReadyH.cons (o := { dst := some 11, op := Op.alloc 87, type := 0, pos := "reading.go:26", after := #[], guard := none }) rfl (fun K hK => ?_) AllReadyH.nil
  go_simp
  have bn : Below V.heap.size V (V.alloc (.cells #[.slice none 0 0, .map none, .slice none 0 0, .map none] 87)) := (Below.refl _ _).alloc (Nat.le_refl _) _
  have hS1 := (bn.block _ (lt_of_heap hS)).trans hS
  refine hK.out _ _ hS1 (fun hHeld => ?_)
  clear hK K hHeld
  (try simp only [Act.put, List.setIfInBounds_toArray, List.set_cons_zero, List.set_cons_succ])
  exact L2_ac X HQ v14 v17 b9 V.heap.size (V.alloc (.cells #[.slice none 0 0, .map none, .slice none 0 0, .map none] 87)) (hB.trans (bn.mono hB.size)) hS1 (X.s1 _ _ _ _ j1 (turn_below (S := fun _ => False) bn) (soft_no _)) (X.s2 _ _ _ _ j2 (turn_below (S := fun _ => False) bn) (soft_no _)) ((bn.block _ (lt_of_heap z9)).trans z9) l9 (heap_alloc_new V _) hB.size
set_option maxRecDepth 100000 in
set_option maxHeartbeats 4000000 in
theorem L2_b {w : World} {q4 : Nat} {pol : Array Value} {ts to : ByteArray} {sv : Value} {J1 J2 J3 : Value → World → Prop} {Q : Exit → Act → World → Prop} (X : Cx w (.agg pol) ts to sv J1 J2 J3) (HQ : ∀ z1 r1 o1 z2 r2 o2 xo xn xc xp uo ul uc xx b9 b10 b11 V, J1 (.agg #[.string z1, .float .f64 r1, .map o1]) V → J2 (.agg #[.string z2, .float .f64 r2, .map o2]) V → J3 (.agg #[.slice xo xn xc, .map xp, .slice uo ul uc, .map xx]) V → V.heap[b9]? = some (.cells #[.string z1, .float .f64 r1, .map o1] 97 (0, 0)) → V.heap[b10]? = some (.cells #[.string z2, .float .f64 r2, .map o2] 97 (0, 0)) → V.heap[b11]? = some (.cells #[.slice xo xn xc, .map xp, .slice uo ul uc, .map xx] 87 (0, 0)) → Below w.heap.size w V → Q .normal { tmps := #[.agg pol, .string ts, .string to, sv, .pointer (some ⟨q4, 0, none⟩), undef, undef, undef, .slice none 0 0, .pointer (some ⟨b9, 0, none⟩), .pointer (some ⟨b10, 0, none⟩), .pointer (some ⟨b11, 0, none⟩), .agg pol, .string ts, .agg #[.string z1, .float .f64 r1, .map o1], .agg pol, .string to, .agg #[.string z2, .float .f64 r2, .map o2], .agg pol, sv, .agg #[.slice xo xn xc, .map xp, .slice uo ul uc, .map xx], undef, undef, undef, undef, undef, undef, undef], defers := [] } V) (v14 v17 : Value) (b10 : Nat) (V : World) (hB : Below w.heap.size w V) (hS : V.heap[q4]? = some (.cells pol 28 (0, 0))) (j1 : J1 v14 V) (j2 : J2 v17 V) (z10 : V.heap[b10]? = some (.cells #[.string ⟨#[]⟩, .float .f64 0, .map none] 97 (0, 0))) (l10 : w.heap.size ≤ b10) : wpAnyH Try.prog .any ops56 Q (fun V => V.heap[q4]? = some (.cells pol 28 (0, 0))) 6 #[true, true, true, true, true, true, true, true, false, false, true, false, false, false, false] { tmps := #[.agg pol, .string ts, .string to, sv, .pointer (some ⟨q4, 0, none⟩), undef, undef, undef, .slice none 0 0, undef, .pointer (some ⟨b10, 0, none⟩), undef, .agg pol, .string ts, v14, .agg pol, .string to, v17, .agg pol, sv, undef, undef, undef, undef, undef, undef, undef, undef], defers := [] } V := by
  refine wpAnyH_ready (rs := [8, 9, 11]) (by kernel_rfl) (by simp) ?_
  refine AllReadyH.cons (o := { dst := some 20, op := Op.call { callee := Callee.value (Operand.func 42), args := #[Operand.tmp 18, Operand.tmp 19], argTypes := #[28, 22] }, type := 87, pos := "reading.go:26", after := #[{ on := 6, ground := Ground.data }, { on := 7, ground := Ground.data }, { on := 5, ground := Ground.chain }], guard := none }) rfl (fun K hK => ?_) ?_
  · go_simp
    refine (X.c3 V hB).mono ?_
    rintro e x1 ⟨v20, rfl, jn, bn⟩
    (try dsimp only)
    have hS1 := (bn.block _ (lt_of_heap hS)).trans hS
    refine hK.out _ _ hS1 (fun hHeld => ?_)
    clear hK K hHeld
    (try simp only [Act.put, List.setIfInBounds_toArray, List.set_cons_zero, List.set_cons_succ])
    exact L3_b X HQ v14 v17 v20 b10 x1 (hB.trans (bn.mono hB.size)) hS1 (X.s1 _ _ _ _ j1 (turn_below (S := fun _ => False) bn) (soft_no _)) (X.s2 _ _ _ _ j2 (turn_below (S := fun _ => False) bn) (soft_no _)) jn ((bn.block _ (lt_of_heap z10)).trans z10) l10
  refine AllReadyH.cons (o := { dst := some 9, op := Op.alloc 97, type := 0, pos := "reading.go:26", after := #[], guard := none }) rfl (fun K hK => ?_) ?_
  · go_simp
    have bn : Below V.heap.size V (V.alloc (.cells #[.string ⟨#[]⟩, .float .f64 0, .map none] 97)) := (Below.refl _ _).alloc (Nat.le_refl _) _
    have hS1 := (bn.block _ (lt_of_heap hS)).trans hS
    refine hK.out _ _ hS1 (fun hHeld => ?_)
    clear hK K hHeld
    (try simp only [Act.put, List.setIfInBounds_toArray, List.set_cons_zero, List.set_cons_succ])
    exact L2_ab X HQ v14 v17 V.heap.size b10 (V.alloc (.cells #[.string ⟨#[]⟩, .float .f64 0, .map none] 97)) (hB.trans (bn.mono hB.size)) hS1 (X.s1 _ _ _ _ j1 (turn_below (S := fun _ => False) bn) (soft_no _)) (X.s2 _ _ _ _ j2 (turn_below (S := fun _ => False) bn) (soft_no _)) (heap_alloc_new V _) hB.size ((bn.block _ (lt_of_heap z10)).trans z10) l10 (Nat.ne_of_gt (lt_of_heap z10))
  refine AllReadyH.cons (o := { dst := some 11, op := Op.alloc 87, type := 0, pos := "reading.go:26", after := #[], guard := none }) rfl (fun K hK => ?_) AllReadyH.nil
  go_simp
  have bn : Below V.heap.size V (V.alloc (.cells #[.slice none 0 0, .map none, .slice none 0 0, .map none] 87)) := (Below.refl _ _).alloc (Nat.le_refl _) _
  have hS1 := (bn.block _ (lt_of_heap hS)).trans hS
  refine hK.out _ _ hS1 (fun hHeld => ?_)
  clear hK K hHeld
  (try simp only [Act.put, List.setIfInBounds_toArray, List.set_cons_zero, List.set_cons_succ])
  exact L2_bc X HQ v14 v17 b10 V.heap.size (V.alloc (.cells #[.slice none 0 0, .map none, .slice none 0 0, .map none] 87)) (hB.trans (bn.mono hB.size)) hS1 (X.s1 _ _ _ _ j1 (turn_below (S := fun _ => False) bn) (soft_no _)) (X.s2 _ _ _ _ j2 (turn_below (S := fun _ => False) bn) (soft_no _)) ((bn.block _ (lt_of_heap z10)).trans z10) l10 (heap_alloc_new V _) hB.size
set_option maxRecDepth 100000 in
set_option maxHeartbeats 4000000 in
theorem L2_c {w : World} {q4 : Nat} {pol : Array Value} {ts to : ByteArray} {sv : Value} {J1 J2 J3 : Value → World → Prop} {Q : Exit → Act → World → Prop} (X : Cx w (.agg pol) ts to sv J1 J2 J3) (HQ : ∀ z1 r1 o1 z2 r2 o2 xo xn xc xp uo ul uc xx b9 b10 b11 V, J1 (.agg #[.string z1, .float .f64 r1, .map o1]) V → J2 (.agg #[.string z2, .float .f64 r2, .map o2]) V → J3 (.agg #[.slice xo xn xc, .map xp, .slice uo ul uc, .map xx]) V → V.heap[b9]? = some (.cells #[.string z1, .float .f64 r1, .map o1] 97 (0, 0)) → V.heap[b10]? = some (.cells #[.string z2, .float .f64 r2, .map o2] 97 (0, 0)) → V.heap[b11]? = some (.cells #[.slice xo xn xc, .map xp, .slice uo ul uc, .map xx] 87 (0, 0)) → Below w.heap.size w V → Q .normal { tmps := #[.agg pol, .string ts, .string to, sv, .pointer (some ⟨q4, 0, none⟩), undef, undef, undef, .slice none 0 0, .pointer (some ⟨b9, 0, none⟩), .pointer (some ⟨b10, 0, none⟩), .pointer (some ⟨b11, 0, none⟩), .agg pol, .string ts, .agg #[.string z1, .float .f64 r1, .map o1], .agg pol, .string to, .agg #[.string z2, .float .f64 r2, .map o2], .agg pol, sv, .agg #[.slice xo xn xc, .map xp, .slice uo ul uc, .map xx], undef, undef, undef, undef, undef, undef, undef], defers := [] } V) (v14 v17 : Value) (b11 : Nat) (V : World) (hB : Below w.heap.size w V) (hS : V.heap[q4]? = some (.cells pol 28 (0, 0))) (j1 : J1 v14 V) (j2 : J2 v17 V) (z11 : V.heap[b11]? = some (.cells #[.slice none 0 0, .map none, .slice none 0 0, .map none] 87 (0, 0))) (l11 : w.heap.size ≤ b11) : wpAnyH Try.prog .any ops56 Q (fun V => V.heap[q4]? = some (.cells pol 28 (0, 0))) 6 #[true, true, true, true, true, true, true, true, false, false, false, true, false, false, false] { tmps := #[.agg pol, .string ts, .string to, sv, .pointer (some ⟨q4, 0, none⟩), undef, undef, undef, .slice none 0 0, undef, undef, .pointer (some ⟨b11, 0, none⟩), .agg pol, .string ts, v14, .agg pol, .string to, v17, .agg pol, sv, undef, undef, undef, undef, undef, undef, undef, undef], defers := [] } V := by
  refine wpAnyH_ready (rs := [8, 9, 10]) (by kernel_rfl) (by simp) ?_
  refine AllReadyH.cons (o := { dst := some 20, op := Op.call { callee := Callee.value (Operand.func 42), args := #[Operand.tmp 18, Operand.tmp 19], argTypes := #[28, 22] }, type := 87, pos := "reading.go:26", after := #[{ on := 6, ground := Ground.data }, { on := 7, ground := Ground.data }, { on := 5, ground := Ground.chain }], guard := none }) rfl (fun K hK => ?_) ?_
  · go_simp
    refine (X.c3 V hB).mono ?_
    rintro e x1 ⟨v20, rfl, jn, bn⟩
    (try dsimp only)
    have hS1 := (bn.block _ (lt_of_heap hS)).trans hS
    refine hK.out _ _ hS1 (fun hHeld => ?_)
    clear hK K hHeld
    (try simp only [Act.put, List.setIfInBounds_toArray, List.set_cons_zero, List.set_cons_succ])
    exact L3_c X HQ v14 v17 v20 b11 x1 (hB.trans (bn.mono hB.size)) hS1 (X.s1 _ _ _ _ j1 (turn_below (S := fun _ => False) bn) (soft_no _)) (X.s2 _ _ _ _ j2 (turn_below (S := fun _ => False) bn) (soft_no _)) jn ((bn.block _ (lt_of_heap z11)).trans z11) l11
  refine AllReadyH.cons (o := { dst := some 9, op := Op.alloc 97, type := 0, pos := "reading.go:26", after := #[], guard := none }) rfl (fun K hK => ?_) ?_
  · go_simp
    have bn : Below V.heap.size V (V.alloc (.cells #[.string ⟨#[]⟩, .float .f64 0, .map none] 97)) := (Below.refl _ _).alloc (Nat.le_refl _) _
    have hS1 := (bn.block _ (lt_of_heap hS)).trans hS
    refine hK.out _ _ hS1 (fun hHeld => ?_)
    clear hK K hHeld
    (try simp only [Act.put, List.setIfInBounds_toArray, List.set_cons_zero, List.set_cons_succ])
    exact L2_ac X HQ v14 v17 V.heap.size b11 (V.alloc (.cells #[.string ⟨#[]⟩, .float .f64 0, .map none] 97)) (hB.trans (bn.mono hB.size)) hS1 (X.s1 _ _ _ _ j1 (turn_below (S := fun _ => False) bn) (soft_no _)) (X.s2 _ _ _ _ j2 (turn_below (S := fun _ => False) bn) (soft_no _)) (heap_alloc_new V _) hB.size ((bn.block _ (lt_of_heap z11)).trans z11) l11
  refine AllReadyH.cons (o := { dst := some 10, op := Op.alloc 97, type := 0, pos := "reading.go:26", after := #[], guard := none }) rfl (fun K hK => ?_) AllReadyH.nil
  go_simp
  have bn : Below V.heap.size V (V.alloc (.cells #[.string ⟨#[]⟩, .float .f64 0, .map none] 97)) := (Below.refl _ _).alloc (Nat.le_refl _) _
  have hS1 := (bn.block _ (lt_of_heap hS)).trans hS
  refine hK.out _ _ hS1 (fun hHeld => ?_)
  clear hK K hHeld
  (try simp only [Act.put, List.setIfInBounds_toArray, List.set_cons_zero, List.set_cons_succ])
  exact L2_bc X HQ v14 v17 V.heap.size b11 (V.alloc (.cells #[.string ⟨#[]⟩, .float .f64 0, .map none] 97)) (hB.trans (bn.mono hB.size)) hS1 (X.s1 _ _ _ _ j1 (turn_below (S := fun _ => False) bn) (soft_no _)) (X.s2 _ _ _ _ j2 (turn_below (S := fun _ => False) bn) (soft_no _)) (heap_alloc_new V _) hB.size ((bn.block _ (lt_of_heap z11)).trans z11) l11
set_option maxRecDepth 100000 in
set_option maxHeartbeats 4000000 in
theorem L2_0 {w : World} {q4 : Nat} {pol : Array Value} {ts to : ByteArray} {sv : Value} {J1 J2 J3 : Value → World → Prop} {Q : Exit → Act → World → Prop} (X : Cx w (.agg pol) ts to sv J1 J2 J3) (HQ : ∀ z1 r1 o1 z2 r2 o2 xo xn xc xp uo ul uc xx b9 b10 b11 V, J1 (.agg #[.string z1, .float .f64 r1, .map o1]) V → J2 (.agg #[.string z2, .float .f64 r2, .map o2]) V → J3 (.agg #[.slice xo xn xc, .map xp, .slice uo ul uc, .map xx]) V → V.heap[b9]? = some (.cells #[.string z1, .float .f64 r1, .map o1] 97 (0, 0)) → V.heap[b10]? = some (.cells #[.string z2, .float .f64 r2, .map o2] 97 (0, 0)) → V.heap[b11]? = some (.cells #[.slice xo xn xc, .map xp, .slice uo ul uc, .map xx] 87 (0, 0)) → Below w.heap.size w V → Q .normal { tmps := #[.agg pol, .string ts, .string to, sv, .pointer (some ⟨q4, 0, none⟩), undef, undef, undef, .slice none 0 0, .pointer (some ⟨b9, 0, none⟩), .pointer (some ⟨b10, 0, none⟩), .pointer (some ⟨b11, 0, none⟩), .agg pol, .string ts, .agg #[.string z1, .float .f64 r1, .map o1], .agg pol, .string to, .agg #[.string z2, .float .f64 r2, .map o2], .agg pol, sv, .agg #[.slice xo xn xc, .map xp, .slice uo ul uc, .map xx], undef, undef, undef, undef, undef, undef, undef], defers := [] } V) (v14 v17 : Value) (V : World) (hB : Below w.heap.size w V) (hS : V.heap[q4]? = some (.cells pol 28 (0, 0))) (j1 : J1 v14 V) (j2 : J2 v17 V) : wpAnyH Try.prog .any ops56 Q (fun V => V.heap[q4]? = some (.cells pol 28 (0, 0))) 7 #[true, true, true, true, true, true, true, true, false, false, false, false, false, false, false] { tmps := #[.agg pol, .string ts, .string to, sv, .pointer (some ⟨q4, 0, none⟩), undef, undef, undef, .slice none 0 0, undef, undef, undef, .agg pol, .string ts, v14, .agg pol, .string to, v17, .agg pol, sv, undef, undef, undef, undef, undef, undef, undef, undef], defers := [] } V := by
  refine wpAnyH_ready (rs := [8, 9, 10, 11]) (by kernel_rfl) (by simp) ?_
  refine AllReadyH.cons (o := { dst := some 20, op := Op.call { callee := Callee.value (Operand.func 42), args := #[Operand.tmp 18, Operand.tmp 19], argTypes := #[28, 22] }, type := 87, pos := "reading.go:26", after := #[{ on := 6, ground := Ground.data }, { on := 7, ground := Ground.data }, { on := 5, ground := Ground.chain }], guard := none }) rfl (fun K hK => ?_) ?_
  · go_simp
    refine (X.c3 V hB).mono ?_
    rintro e x1 ⟨v20, rfl, jn, bn⟩
    (try dsimp only)
    have hS1 := (bn.block _ (lt_of_heap hS)).trans hS
    refine hK.out _ _ hS1 (fun hHeld => ?_)
    clear hK K hHeld
    (try simp only [Act.put, List.setIfInBounds_toArray, List.set_cons_zero, List.set_cons_succ])
    exact L3_0 X HQ v14 v17 v20 x1 (hB.trans (bn.mono hB.size)) hS1 (X.s1 _ _ _ _ j1 (turn_below (S := fun _ => False) bn) (soft_no _)) (X.s2 _ _ _ _ j2 (turn_below (S := fun _ => False) bn) (soft_no _)) jn
  refine AllReadyH.cons (o := { dst := some 9, op := Op.alloc 97, type := 0, pos := "reading.go:26", after := #[], guard := none }) rfl (fun K hK => ?_) ?_
  · go_simp
    have bn : Below V.heap.size V (V.alloc (.cells #[.string ⟨#[]⟩, .float .f64 0, .map none] 97)) := (Below.refl _ _).alloc (Nat.le_refl _) _
    have hS1 := (bn.block _ (lt_of_heap hS)).trans hS
    refine hK.out _ _ hS1 (fun hHeld => ?_)
    clear hK K hHeld
    (try simp only [Act.put, List.setIfInBounds_toArray, List.set_cons_zero, List.set_cons_succ])
    exact L2_a X HQ v14 v17 V.heap.size (V.alloc (.cells #[.string ⟨#[]⟩, .float .f64 0, .map none] 97)) (hB.trans (bn.mono hB.size)) hS1 (X.s1 _ _ _ _ j1 (turn_below (S := fun _ => False) bn) (soft_no _)) (X.s2 _ _ _ _ j2 (turn_below (S := fun _ => False) bn) (soft_no _)) (heap_alloc_new V _) hB.size
  refine AllReadyH.cons (o := { dst := some 10, op := Op.alloc 97, type := 0, pos := "reading.go:26", after := #[], guard := none }) rfl (fun K hK => ?_) ?_
  · go_simp
    have bn : Below V.heap.size V (V.alloc (.cells #[.string ⟨#[]⟩, .float .f64 0, .map none] 97)) := (Below.refl _ _).alloc (Nat.le_refl _) _
    have hS1 := (bn.block _ (lt_of_heap hS)).trans hS
    refine hK.out _ _ hS1 (fun hHeld => ?_)
    clear hK K hHeld
    (try simp only [Act.put, List.setIfInBounds_toArray, List.set_cons_zero, List.set_cons_succ])
    exact L2_b X HQ v14 v17 V.heap.size (V.alloc (.cells #[.string ⟨#[]⟩, .float .f64 0, .map none] 97)) (hB.trans (bn.mono hB.size)) hS1 (X.s1 _ _ _ _ j1 (turn_below (S := fun _ => False) bn) (soft_no _)) (X.s2 _ _ _ _ j2 (turn_below (S := fun _ => False) bn) (soft_no _)) (heap_alloc_new V _) hB.size
  refine AllReadyH.cons (o := { dst := some 11, op := Op.alloc 87, type := 0, pos := "reading.go:26", after := #[], guard := none }) rfl (fun K hK => ?_) AllReadyH.nil
  go_simp
  have bn : Below V.heap.size V (V.alloc (.cells #[.slice none 0 0, .map none, .slice none 0 0, .map none] 87)) := (Below.refl _ _).alloc (Nat.le_refl _) _
  have hS1 := (bn.block _ (lt_of_heap hS)).trans hS
  refine hK.out _ _ hS1 (fun hHeld => ?_)
  clear hK K hHeld
  (try simp only [Act.put, List.setIfInBounds_toArray, List.set_cons_zero, List.set_cons_succ])
  exact L2_c X HQ v14 v17 V.heap.size (V.alloc (.cells #[.slice none 0 0, .map none, .slice none 0 0, .map none] 87)) (hB.trans (bn.mono hB.size)) hS1 (X.s1 _ _ _ _ j1 (turn_below (S := fun _ => False) bn) (soft_no _)) (X.s2 _ _ _ _ j2 (turn_below (S := fun _ => False) bn) (soft_no _)) (heap_alloc_new V _) hB.size
set_option maxRecDepth 100000 in
set_option maxHeartbeats 4000000 in
theorem L1_abc {w : World} {q4 : Nat} {pol : Array Value} {ts to : ByteArray} {sv : Value} {J1 J2 J3 : Value → World → Prop} {Q : Exit → Act → World → Prop} (X : Cx w (.agg pol) ts to sv J1 J2 J3) (HQ : ∀ z1 r1 o1 z2 r2 o2 xo xn xc xp uo ul uc xx b9 b10 b11 V, J1 (.agg #[.string z1, .float .f64 r1, .map o1]) V → J2 (.agg #[.string z2, .float .f64 r2, .map o2]) V → J3 (.agg #[.slice xo xn xc, .map xp, .slice uo ul uc, .map xx]) V → V.heap[b9]? = some (.cells #[.string z1, .float .f64 r1, .map o1] 97 (0, 0)) → V.heap[b10]? = some (.cells #[.string z2, .float .f64 r2, .map o2] 97 (0, 0)) → V.heap[b11]? = some (.cells #[.slice xo xn xc, .map xp, .slice uo ul uc, .map xx] 87 (0, 0)) → Below w.heap.size w V → Q .normal { tmps := #[.agg pol, .string ts, .string to, sv, .pointer (some ⟨q4, 0, none⟩), undef, undef, undef, .slice none 0 0, .pointer (some ⟨b9, 0, none⟩), .pointer (some ⟨b10, 0, none⟩), .pointer (some ⟨b11, 0, none⟩), .agg pol, .string ts, .agg #[.string z1, .float .f64 r1, .map o1], .agg pol, .string to, .agg #[.string z2, .float .f64 r2, .map o2], .agg pol, sv, .agg #[.slice xo xn xc, .map xp, .slice uo ul uc, .map xx], undef, undef, undef, undef, undef, undef, undef], defers := [] } V) (v14 : Value) (b9 b10 b11 : Nat) (V : World) (hB : Below w.heap.size w V) (hS : V.heap[q4]? = some (.cells pol 28 (0, 0))) (j1 : J1 v14 V) (z9 : V.heap[b9]? = some (.cells #[.string ⟨#[]⟩, .float .f64 0, .map none] 97 (0, 0))) (l9 : w.heap.size ≤ b9) (z10 : V.heap[b10]? = some (.cells #[.string ⟨#[]⟩, .float .f64 0, .map none] 97 (0, 0))) (l10 : w.heap.size ≤ b10) (z11 : V.heap[b11]? = some (.cells #[.slice none 0 0, .map none, .slice none 0 0, .map none] 87 (0, 0))) (l11 : w.heap.size ≤ b11) (ne : b9 ≠ b10) : wpAnyH Try.prog .any ops56 Q (fun V => V.heap[q4]? = some (.cells pol 28 (0, 0))) 5 #[true, true, true, true, true, false, true, true, false, true, true, true, false, false, false] { tmps := #[.agg pol, .string ts, .string to, sv, .pointer (some ⟨q4, 0, none⟩), undef, undef, undef, .slice none 0 0, .pointer (some ⟨b9, 0, none⟩), .pointer (some ⟨b10, 0, none⟩), .pointer (some ⟨b11, 0, none⟩), .agg pol, .string ts, v14, .agg pol, .string to, undef, .agg pol, sv, undef, undef, undef, undef, undef, undef, undef, undef], defers := [] } V := by
  refine wpAnyH_ready (rs := [5]) (by kernel_rfl) (by simp) ?_
  refine AllReadyH.cons (o := { dst := some 17, op := Op.call { callee := Callee.value (Operand.func 74), args := #[Operand.tmp 15, Operand.tmp 16], argTypes := #[28, 9] }, type := 97, pos := "reading.go:26", after := #[{ on := 3, ground := Ground.data }, { on := 4, ground := Ground.data }, { on := 2, ground := Ground.chain }], guard := none }) rfl (fun K hK => ?_) AllReadyH.nil
  go_simp
  refine (X.c2 V hB).mono ?_
  rintro e x1 ⟨v17, rfl, jn, bn⟩
  (try dsimp only)
  have hS1 := (bn.block _ (lt_of_heap hS)).trans hS
  refine hK.out _ _ hS1 (fun hHeld => ?_)
  clear hK K hHeld
  (try simp only [Act.put, List.setIfInBounds_toArray, List.set_cons_zero, List.set_cons_succ])
  exact L2_abc X HQ v14 v17 b9 b10 b11 x1 (hB.trans (bn.mono hB.size)) hS1 (X.s1 _ _ _ _ j1 (turn_below (S := fun _ => False) bn) (soft_no _)) jn ((bn.block _ (lt_of_heap z9)).trans z9) l9 ((bn.block _ (lt_of_heap z10)).trans z10) l10 ((bn.block _ (lt_of_heap z11)).trans z11) l11 ne
set_option maxRecDepth 100000 in
set_option maxHeartbeats 4000000 in
theorem L1_ab {w : World} {q4 : Nat} {pol : Array Value} {ts to : ByteArray} {sv : Value} {J1 J2 J3 : Value → World → Prop} {Q : Exit → Act → World → Prop} (X : Cx w (.agg pol) ts to sv J1 J2 J3) (HQ : ∀ z1 r1 o1 z2 r2 o2 xo xn xc xp uo ul uc xx b9 b10 b11 V, J1 (.agg #[.string z1, .float .f64 r1, .map o1]) V → J2 (.agg #[.string z2, .float .f64 r2, .map o2]) V → J3 (.agg #[.slice xo xn xc, .map xp, .slice uo ul uc, .map xx]) V → V.heap[b9]? = some (.cells #[.string z1, .float .f64 r1, .map o1] 97 (0, 0)) → V.heap[b10]? = some (.cells #[.string z2, .float .f64 r2, .map o2] 97 (0, 0)) → V.heap[b11]? = some (.cells #[.slice xo xn xc, .map xp, .slice uo ul uc, .map xx] 87 (0, 0)) → Below w.heap.size w V → Q .normal { tmps := #[.agg pol, .string ts, .string to, sv, .pointer (some ⟨q4, 0, none⟩), undef, undef, undef, .slice none 0 0, .pointer (some ⟨b9, 0, none⟩), .pointer (some ⟨b10, 0, none⟩), .pointer (some ⟨b11, 0, none⟩), .agg pol, .string ts, .agg #[.string z1, .float .f64 r1, .map o1], .agg pol, .string to, .agg #[.string z2, .float .f64 r2, .map o2], .agg pol, sv, .agg #[.slice xo xn xc, .map xp, .slice uo ul uc, .map xx], undef, undef, undef, undef, undef, undef, undef], defers := [] } V) (v14 : Value) (b9 b10 : Nat) (V : World) (hB : Below w.heap.size w V) (hS : V.heap[q4]? = some (.cells pol 28 (0, 0))) (j1 : J1 v14 V) (z9 : V.heap[b9]? = some (.cells #[.string ⟨#[]⟩, .float .f64 0, .map none] 97 (0, 0))) (l9 : w.heap.size ≤ b9) (z10 : V.heap[b10]? = some (.cells #[.string ⟨#[]⟩, .float .f64 0, .map none] 97 (0, 0))) (l10 : w.heap.size ≤ b10) (ne : b9 ≠ b10) : wpAnyH Try.prog .any ops56 Q (fun V => V.heap[q4]? = some (.cells pol 28 (0, 0))) 6 #[true, true, true, true, true, false, true, true, false, true, true, false, false, false, false] { tmps := #[.agg pol, .string ts, .string to, sv, .pointer (some ⟨q4, 0, none⟩), undef, undef, undef, .slice none 0 0, .pointer (some ⟨b9, 0, none⟩), .pointer (some ⟨b10, 0, none⟩), undef, .agg pol, .string ts, v14, .agg pol, .string to, undef, .agg pol, sv, undef, undef, undef, undef, undef, undef, undef, undef], defers := [] } V := by
  refine wpAnyH_ready (rs := [5, 11]) (by kernel_rfl) (by simp) ?_
  refine AllReadyH.cons (o := { dst := some 17, op := Op.call { callee := Callee.value (Operand.func 74), args := #[Operand.tmp 15, Operand.tmp 16], argTypes := #[28, 9] }, type := 97, pos := "reading.go:26", after := #[{ on := 3, ground := Ground.data }, { on := 4, ground := Ground.data }, { on := 2, ground := Ground.chain }], guard := none }) rfl (fun K hK => ?_) ?_
  · go_simp
    refine (X.c2 V hB).mono ?_
    rintro e x1 ⟨v17, rfl, jn, bn⟩
    (try dsimp only)
    have hS1 := (bn.block _ (lt_of_heap hS)).trans hS
    refine hK.out _ _ hS1 (fun hHeld => ?_)
    clear hK K hHeld
    (try simp only [Act.put, List.setIfInBounds_toArray, List.set_cons_zero, List.set_cons_succ])
    exact L2_ab X HQ v14 v17 b9 b10 x1 (hB.trans (bn.mono hB.size)) hS1 (X.s1 _ _ _ _ j1 (turn_below (S := fun _ => False) bn) (soft_no _)) jn ((bn.block _ (lt_of_heap z9)).trans z9) l9 ((bn.block _ (lt_of_heap z10)).trans z10) l10 ne
  refine AllReadyH.cons (o := { dst := some 11, op := Op.alloc 87, type := 0, pos := "reading.go:26", after := #[], guard := none }) rfl (fun K hK => ?_) AllReadyH.nil
  go_simp
  have bn : Below V.heap.size V (V.alloc (.cells #[.slice none 0 0, .map none, .slice none 0 0, .map none] 87)) := (Below.refl _ _).alloc (Nat.le_refl _) _
  have hS1 := (bn.block _ (lt_of_heap hS)).trans hS
  refine hK.out _ _ hS1 (fun hHeld => ?_)
  clear hK K hHeld
  (try simp only [Act.put, List.setIfInBounds_toArray, List.set_cons_zero, List.set_cons_succ])
  exact L1_abc X HQ v14 b9 b10 V.heap.size (V.alloc (.cells #[.slice none 0 0, .map none, .slice none 0 0, .map none] 87)) (hB.trans (bn.mono hB.size)) hS1 (X.s1 _ _ _ _ j1 (turn_below (S := fun _ => False) bn) (soft_no _)) ((bn.block _ (lt_of_heap z9)).trans z9) l9 ((bn.block _ (lt_of_heap z10)).trans z10) l10 (heap_alloc_new V _) hB.size ne
set_option maxRecDepth 100000 in
set_option maxHeartbeats 4000000 in
theorem L1_ac {w : World} {q4 : Nat} {pol : Array Value} {ts to : ByteArray} {sv : Value} {J1 J2 J3 : Value → World → Prop} {Q : Exit → Act → World → Prop} (X : Cx w (.agg pol) ts to sv J1 J2 J3) (HQ : ∀ z1 r1 o1 z2 r2 o2 xo xn xc xp uo ul uc xx b9 b10 b11 V, J1 (.agg #[.string z1, .float .f64 r1, .map o1]) V → J2 (.agg #[.string z2, .float .f64 r2, .map o2]) V → J3 (.agg #[.slice xo xn xc, .map xp, .slice uo ul uc, .map xx]) V → V.heap[b9]? = some (.cells #[.string z1, .float .f64 r1, .map o1] 97 (0, 0)) → V.heap[b10]? = some (.cells #[.string z2, .float .f64 r2, .map o2] 97 (0, 0)) → V.heap[b11]? = some (.cells #[.slice xo xn xc, .map xp, .slice uo ul uc, .map xx] 87 (0, 0)) → Below w.heap.size w V → Q .normal { tmps := #[.agg pol, .string ts, .string to, sv, .pointer (some ⟨q4, 0, none⟩), undef, undef, undef, .slice none 0 0, .pointer (some ⟨b9, 0, none⟩), .pointer (some ⟨b10, 0, none⟩), .pointer (some ⟨b11, 0, none⟩), .agg pol, .string ts, .agg #[.string z1, .float .f64 r1, .map o1], .agg pol, .string to, .agg #[.string z2, .float .f64 r2, .map o2], .agg pol, sv, .agg #[.slice xo xn xc, .map xp, .slice uo ul uc, .map xx], undef, undef, undef, undef, undef, undef, undef], defers := [] } V) (v14 : Value) (b9 b11 : Nat) (V : World) (hB : Below w.heap.size w V) (hS : V.heap[q4]? = some (.cells pol 28 (0, 0))) (j1 : J1 v14 V) (z9 : V.heap[b9]? = some (.cells #[.string ⟨#[]⟩, .float .f64 0, .map none] 97 (0, 0))) (l9 : w.heap.size ≤ b9) (z11 : V.heap[b11]? = some (.cells #[.slice none 0 0, .map none, .slice none 0 0, .map none] 87 (0, 0))) (l11 : w.heap.size ≤ b11) : wpAnyH Try.prog .any ops56 Q (fun V => V.heap[q4]? = some (.cells pol 28 (0, 0))) 6 #[true, true, true, true, true, false, true, true, false, true, false, true, false, false, false] { tmps := #[.agg pol, .string ts, .string to, sv, .pointer (some ⟨q4, 0, none⟩), undef, undef, undef, .slice none 0 0, .pointer (some ⟨b9, 0, none⟩), undef, .pointer (some ⟨b11, 0, none⟩), .agg pol, .string ts, v14, .agg pol, .string to, undef, .agg pol, sv, undef, undef, undef, undef, undef, undef, undef, undef], defers := [] } V := by
  refine wpAnyH_ready (rs := [5, 10]) (by kernel_rfl) (by simp) ?_
  refine AllReadyH.cons (o := { dst := some 17, op := Op.call { callee := Callee.value (Operand.func 74), args := #[Operand.tmp 15, Operand.tmp 16], argTypes := #[28, 9] }, type := 97, pos := "reading.go:26", after := #[{ on := 3, ground := Ground.data }, { on := 4, ground := Ground.data }, { on := 2, ground := Ground.chain }], guard := none }) rfl (fun K hK => ?_) ?_
  · go_simp
    refine (X.c2 V hB).mono ?_
    rintro e x1 ⟨v17, rfl, jn, bn⟩
    (try dsimp only)
    have hS1 := (bn.block _ (lt_of_heap hS)).trans hS
    refine hK.out _ _ hS1 (fun hHeld => ?_)
    clear hK K hHeld
    (try simp only [Act.put, List.setIfInBounds_toArray, List.set_cons_zero, List.set_cons_succ])
    exact L2_ac X HQ v14 v17 b9 b11 x1 (hB.trans (bn.mono hB.size)) hS1 (X.s1 _ _ _ _ j1 (turn_below (S := fun _ => False) bn) (soft_no _)) jn ((bn.block _ (lt_of_heap z9)).trans z9) l9 ((bn.block _ (lt_of_heap z11)).trans z11) l11
  refine AllReadyH.cons (o := { dst := some 10, op := Op.alloc 97, type := 0, pos := "reading.go:26", after := #[], guard := none }) rfl (fun K hK => ?_) AllReadyH.nil
  go_simp
  have bn : Below V.heap.size V (V.alloc (.cells #[.string ⟨#[]⟩, .float .f64 0, .map none] 97)) := (Below.refl _ _).alloc (Nat.le_refl _) _
  have hS1 := (bn.block _ (lt_of_heap hS)).trans hS
  refine hK.out _ _ hS1 (fun hHeld => ?_)
  clear hK K hHeld
  (try simp only [Act.put, List.setIfInBounds_toArray, List.set_cons_zero, List.set_cons_succ])
  exact L1_abc X HQ v14 b9 V.heap.size b11 (V.alloc (.cells #[.string ⟨#[]⟩, .float .f64 0, .map none] 97)) (hB.trans (bn.mono hB.size)) hS1 (X.s1 _ _ _ _ j1 (turn_below (S := fun _ => False) bn) (soft_no _)) ((bn.block _ (lt_of_heap z9)).trans z9) l9 (heap_alloc_new V _) hB.size ((bn.block _ (lt_of_heap z11)).trans z11) l11 (Nat.ne_of_lt (lt_of_heap z9))
set_option maxRecDepth 100000 in
set_option maxHeartbeats 4000000 in
theorem L1_bc {w : World} {q4 : Nat} {pol : Array Value} {ts to : ByteArray} {sv : Value} {J1 J2 J3 : Value → World → Prop} {Q : Exit → Act → World → Prop} (X : Cx w (.agg pol) ts to sv J1 J2 J3) (HQ : ∀ z1 r1 o1 z2 r2 o2 xo xn xc xp uo ul uc xx b9 b10 b11 V, J1 (.agg #[.string z1, .float .f64 r1, .map o1]) V → J2 (.agg #[.string z2, .float .f64 r2, .map o2]) V → J3 (.agg #[.slice xo xn xc, .map xp, .slice uo ul uc, .map xx]) V → V.heap[b9]? = some (.cells #[.string z1, .float .f64 r1, .map o1] 97 (0, 0)) → V.heap[b10]? = some (.cells #[.string z2, .float .f64 r2, .map o2] 97 (0, 0)) → V.heap[b11]? = some (.cells #[.slice xo xn xc, .map xp, .slice uo ul uc, .map xx] 87 (0, 0)) → Below w.heap.size w V → Q .normal { tmps := #[.agg pol, .string ts, .string to, sv, .pointer (some ⟨q4, 0, none⟩), undef, undef, undef, .slice none 0 0, .pointer (some ⟨b9, 0, none⟩), .pointer (some ⟨b10, 0, none⟩), .pointer (some ⟨b11, 0, none⟩), .agg pol, .string ts, .agg #[.string z1, .float .f64 r1, .map o1], .agg pol, .string to, .agg #[.string z2, .float .f64 r2, .map o2], .agg pol, sv, .agg #[.slice xo xn xc, .map xp, .slice uo ul uc, .map xx], undef, undef, undef, undef, undef, undef, undef], defers := [] } V) (v14 : Value) (b10 b11 : Nat) (V : World) (hB : Below w.heap.size w V) (hS : V.heap[q4]? = some (.cells pol 28 (0, 0))) (j1 : J1 v14 V) (z10 : V.heap[b10]? = some (.cells #[.string ⟨#[]⟩, .float .f64 0, .map none] 97 (0, 0))) (l10 : w.heap.size ≤ b10) (z11 : V.heap[b11]? = some (.cells #[.slice none 0 0, .map none, .slice none 0 0, .map none] 87 (0, 0))) (l11 : w.heap.size ≤ b11) : wpAnyH Try.prog .any ops56 Q (fun V => V.heap[q4]? = some (.cells pol 28 (0, 0))) 6 #[true, true, true, true, true, false, true, true, false, false, true, true, false, false, false] { tmps := #[.agg pol, .string ts, .string to, sv, .pointer (some ⟨q4, 0, none⟩), undef, undef, undef, .slice none 0 0, undef, .pointer (some ⟨b10, 0, none⟩), .pointer (some ⟨b11, 0, none⟩), .agg pol, .string ts, v14, .agg pol, .string to, undef, .agg pol, sv, undef, undef, undef, undef, undef, undef, undef, undef], defers := [] } V := by
  refine wpAnyH_ready (rs := [5, 9]) (by kernel_rfl) (by simp) ?_
  refine AllReadyH.cons (o := { dst := some 17, op := Op.call { callee := Callee.value (Operand.func 74), args := #[Operand.tmp 15, Operand.tmp 16], argTypes := #[28, 9] }, type := 97, pos := "reading.go:26", after := #[{ on := 3, ground := Ground.data }, { on := 4, ground := Ground.data }, { on := 2, ground := Ground.chain }], guard := none }) rfl (fun K hK => ?_) ?_
  · go_simp
    refine (X.c2 V hB).mono ?_
    rintro e x1 ⟨v17, rfl, jn, bn⟩
    (try dsimp only)
    have hS1 := (bn.block _ (lt_of_heap hS)).trans hS
    refine hK.out _ _ hS1 (fun hHeld => ?_)
    clear hK K hHeld
    (try simp only [Act.put, List.setIfInBounds_toArray, List.set_cons_zero, List.set_cons_succ])
    exact L2_bc X HQ v14 v17 b10 b11 x1 (hB.trans (bn.mono hB.size)) hS1 (X.s1 _ _ _ _ j1 (turn_below (S := fun _ => False) bn) (soft_no _)) jn ((bn.block _ (lt_of_heap z10)).trans z10) l10 ((bn.block _ (lt_of_heap z11)).trans z11) l11
  refine AllReadyH.cons (o := { dst := some 9, op := Op.alloc 97, type := 0, pos := "reading.go:26", after := #[], guard := none }) rfl (fun K hK => ?_) AllReadyH.nil
  go_simp
  have bn : Below V.heap.size V (V.alloc (.cells #[.string ⟨#[]⟩, .float .f64 0, .map none] 97)) := (Below.refl _ _).alloc (Nat.le_refl _) _
  have hS1 := (bn.block _ (lt_of_heap hS)).trans hS
  refine hK.out _ _ hS1 (fun hHeld => ?_)
  clear hK K hHeld
  (try simp only [Act.put, List.setIfInBounds_toArray, List.set_cons_zero, List.set_cons_succ])
  exact L1_abc X HQ v14 V.heap.size b10 b11 (V.alloc (.cells #[.string ⟨#[]⟩, .float .f64 0, .map none] 97)) (hB.trans (bn.mono hB.size)) hS1 (X.s1 _ _ _ _ j1 (turn_below (S := fun _ => False) bn) (soft_no _)) (heap_alloc_new V _) hB.size ((bn.block _ (lt_of_heap z10)).trans z10) l10 ((bn.block _ (lt_of_heap z11)).trans z11) l11 (Nat.ne_of_gt (lt_of_heap z10))
set_option maxRecDepth 100000 in
set_option maxHeartbeats 4000000 in
theorem L1_a {w : World} {q4 : Nat} {pol : Array Value} {ts to : ByteArray} {sv : Value} {J1 J2 J3 : Value → World → Prop} {Q : Exit → Act → World → Prop} (X : Cx w (.agg pol) ts to sv J1 J2 J3) (HQ : ∀ z1 r1 o1 z2 r2 o2 xo xn xc xp uo ul uc xx b9 b10 b11 V, J1 (.agg #[.string z1, .float .f64 r1, .map o1]) V → J2 (.agg #[.string z2, .float .f64 r2, .map o2]) V → J3 (.agg #[.slice xo xn xc, .map xp, .slice uo ul uc, .map xx]) V → V.heap[b9]? = some (.cells #[.string z1, .float .f64 r1, .map o1] 97 (0, 0)) → V.heap[b10]? = some (.cells #[.string z2, .float .f64 r2, .map o2] 97 (0, 0)) → V.heap[b11]? = some (.cells #[.slice xo xn xc, .map xp, .slice uo ul uc, .map xx] 87 (0, 0)) → Below w.heap.size w V → Q .normal { tmps := #[.agg pol, .string ts, .string to, sv, .pointer (some ⟨q4, 0, none⟩), undef, undef, undef, .slice none 0 0, .pointer (some ⟨b9, 0, none⟩), .pointer (some ⟨b10, 0, none⟩), .pointer (some ⟨b11, 0, none⟩), .agg pol, .string ts, .agg #[.string z1, .float .f64 r1, .map o1], .agg pol, .string to, .agg #[.string z2, .float .f64 r2, .map o2], .agg pol, sv, .agg #[.slice xo xn xc, .map xp, .slice uo ul uc, .map xx], undef, undef, undef, undef, undef, undef, undef], defers := [] } V) (v14 : Value) (b9 : Nat) (V : World) (hB : Below w.heap.size w V) (hS : V.heap[q4]? = some (.cells pol 28 (0, 0))) (j1 : J1 v14 V) (z9 : V.heap[b9]? = some (.cells #[.string ⟨#[]⟩, .float .f64 0, .map none] 97 (0, 0))) (l9 : w.heap.size ≤ b9) : wpAnyH Try.prog .any ops56 Q (fun V => V.heap[q4]? = some (.cells pol 28 (0, 0))) 7 #[true, true, true, true, true, false, true, true, false, true, false, false, false, false, false] { tmps := #[.agg pol, .string ts, .string to, sv, .pointer (some ⟨q4, 0, none⟩), undef, undef, undef, .slice none 0 0, .pointer (some ⟨b9, 0, none⟩), undef, undef, .agg pol, .string ts, v14, .agg pol, .string to, undef, .agg pol, sv, undef, undef, undef, undef, undef, undef, undef, undef], defers := [] } V := by
  refine wpAnyH_ready (rs := [5, 10, 11]) (by kernel_rfl) (by simp) ?_
  refine AllReadyH.cons (o := { dst := some 17, op := Op.call { callee := Callee.value (Operand.func 74), args := #[Operand.tmp 15, Operand.tmp 16], argTypes := #[28, 9] }, type := 97, pos := "reading.go:26", after := #[{ on := 3, ground := Ground.data }, { on := 4, ground := Ground.data }, { on := 2, ground := Ground.chain }], guard := none }) rfl (fun K hK => ?_) ?_
  · go_simp
    refine (X.c2 V hB).mono ?_
    rintro e x1 ⟨v17, rfl, jn, bn⟩
    (try dsimp only)
    have hS1 := (bn.block _ (lt_of_heap hS)).trans hS
    refine hK.out _ _ hS1 (fun hHeld => ?_)
    clear hK K hHeld
    (try simp only [Act.put, List.setIfInBounds_toArray, List.set_cons_zero, List.set_cons_succ])
    exact L2_a X HQ v14 v17 b9 x1 (hB.trans (bn.mono hB.size)) hS1 (X.s1 _ _ _ _ j1 (turn_below (S := fun _ => False) bn) (soft_no _)) jn ((bn.block _ (lt_of_heap z9)).trans z9) l9
  refine AllReadyH.cons (o := { dst := some 10, op := Op.alloc 97, type := 0, pos := "reading.go:26", after := #[], guard := none }) rfl (fun K hK => ?_) ?_
  · go_simp
    have bn : Below V.heap.size V (V.alloc (.cells #[.string ⟨#[]⟩, .float .f64 0, .map none] 97)) := (Below.refl _ _).alloc (Nat.le_refl _) _
    have hS1 := (bn.block _ (lt_of_heap hS)).trans hS
    refine hK.out _ _ hS1 (fun hHeld => ?_)
    clear hK K hHeld
    (try simp only [Act.put, List.setIfInBounds_toArray, List.set_cons_zero, List.set_cons_succ])
    exact L1_ab X HQ v14 b9 V.heap.size (V.alloc (.cells #[.string ⟨#[]⟩, .float .f64 0, .map none] 97)) (hB.trans (bn.mono hB.size)) hS1 (X.s1 _ _ _ _ j1 (turn_below (S := fun _ => False) bn) (soft_no _)) ((bn.block _ (lt_of_heap z9)).trans z9) l9 (heap_alloc_new V _) hB.size (Nat.ne_of_lt (lt_of_heap z9))
  refine AllReadyH.cons (o := { dst := some 11, op := Op.alloc 87, type := 0, pos := "reading.go:26", after := #[], guard := none }) rfl (fun K hK => ?_) AllReadyH.nil
  go_simp
  have bn : Below V.heap.size V (V.alloc (.cells #[.slice none 0 0, .map none, .slice none 0 0, .map none] 87)) := (Below.refl _ _).alloc (Nat.le_refl _) _
  have hS1 := (bn.block _ (lt_of_heap hS)).trans hS
  refine hK.out _ _ hS1 (fun hHeld => ?_)
  clear hK K hHeld
  (try simp only [Act.put, List.setIfInBounds_toArray, List.set_cons_zero, List.set_cons_succ])
  exact L1_ac X HQ v14 b9 V.heap.size (V.alloc (.cells #[.slice none 0 0, .map none, .slice none 0 0, .map none] 87)) (hB.trans (bn.mono hB.size)) hS1 (X.s1 _ _ _ _ j1 (turn_below (S := fun _ => False) bn) (soft_no _)) ((bn.block _ (lt_of_heap z9)).trans z9) l9 (heap_alloc_new V _) hB.size
set_option maxRecDepth 100000 in
set_option maxHeartbeats 4000000 in
theorem L1_b {w : World} {q4 : Nat} {pol : Array Value} {ts to : ByteArray} {sv : Value} {J1 J2 J3 : Value → World → Prop} {Q : Exit → Act → World → Prop} (X : Cx w (.agg pol) ts to sv J1 J2 J3) (HQ : ∀ z1 r1 o1 z2 r2 o2 xo xn xc xp uo ul uc xx b9 b10 b11 V, J1 (.agg #[.string z1, .float .f64 r1, .map o1]) V → J2 (.agg #[.string z2, .float .f64 r2, .map o2]) V → J3 (.agg #[.slice xo xn xc, .map xp, .slice uo ul uc, .map xx]) V → V.heap[b9]? = some (.cells #[.string z1, .float .f64 r1, .map o1] 97 (0, 0)) → V.heap[b10]? = some (.cells #[.string z2, .float .f64 r2, .map o2] 97 (0, 0)) → V.heap[b11]? = some (.cells #[.slice xo xn xc, .map xp, .slice uo ul uc, .map xx] 87 (0, 0)) → Below w.heap.size w V → Q .normal { tmps := #[.agg pol, .string ts, .string to, sv, .pointer (some ⟨q4, 0, none⟩), undef, undef, undef, .slice none 0 0, .pointer (some ⟨b9, 0, none⟩), .pointer (some ⟨b10, 0, none⟩), .pointer (some ⟨b11, 0, none⟩), .agg pol, .string ts, .agg #[.string z1, .float .f64 r1, .map o1], .agg pol, .string to, .agg #[.string z2, .float .f64 r2, .map o2], .agg pol, sv, .agg #[.slice xo xn xc, .map xp, .slice uo ul uc, .map xx], undef, undef, undef, undef, undef, undef, undef], defers := [] } V) (v14 : Value) (b10 : Nat) (V : World) (hB : Below w.heap.size w V) (hS : V.heap[q4]? = some (.cells pol 28 (0, 0))) (j1 : J1 v14 V) (z10 : V.heap[b10]? = some (.cells #[.string ⟨#[]⟩, .float .f64 0, .map none] 97 (0, 0))) (l10 : w.heap.size ≤ b10) : wpAnyH Try.prog .any ops56 Q (fun V => V.heap[q4]? = some (.cells pol 28 (0, 0))) 7 #[true, true, true, true, true, false, true, true, false, false, true, false, false, false, false] { tmps := #[.agg pol, .string ts, .string to, sv, .pointer (some ⟨q4, 0, none⟩), undef, undef, undef, .slice none 0 0, undef, .pointer (some ⟨b10, 0, none⟩), undef, .agg pol, .string ts, v14, .agg pol, .string to, undef, .agg pol, sv, undef, undef, undef, undef, undef, undef, undef, undef], defers := [] } V := by
  refine wpAnyH_ready (rs := [5, 9, 11]) (by kernel_rfl) (by simp) ?_
  refine AllReadyH.cons (o := { dst := some 17, op := Op.call { callee := Callee.value (Operand.func 74), args := #[Operand.tmp 15, Operand.tmp 16], argTypes := #[28, 9] }, type := 97, pos := "reading.go:26", after := #[{ on := 3, ground := Ground.data }, { on := 4, ground := Ground.data }, { on := 2, ground := Ground.chain }], guard := none }) rfl (fun K hK => ?_) ?_
  · go_simp
    refine (X.c2 V hB).mono ?_
    rintro e x1 ⟨v17, rfl, jn, bn⟩
    (try dsimp only)
    have hS1 := (bn.block _ (lt_of_heap hS)).trans hS
    refine hK.out _ _ hS1 (fun hHeld => ?_)
    clear hK K hHeld
    (try simp only [Act.put, List.setIfInBounds_toArray, List.set_cons_zero, List.set_cons_succ])
    exact L2_b X HQ v14 v17 b10 x1 (hB.trans (bn.mono hB.size)) hS1 (X.s1 _ _ _ _ j1 (turn_below (S := fun _ => False) bn) (soft_no _)) jn ((bn.block _ (lt_of_heap z10)).trans z10) l10
  refine AllReadyH.cons (o := { dst := some 9, op := Op.alloc 97, type := 0, pos := "reading.go:26", after := #[], guard := none }) rfl (fun K hK => ?_) ?_
  · go_simp
    have bn : Below V.heap.size V (V.alloc (.cells #[.string ⟨#[]⟩, .float .f64 0, .map none] 97)) := (Below.refl _ _).alloc (Nat.le_refl _) _
    have hS1 := (bn.block _ (lt_of_heap hS)).trans hS
    refine hK.out _ _ hS1 (fun hHeld => ?_)
    clear hK K hHeld
    (try simp only [Act.put, List.setIfInBounds_toArray, List.set_cons_zero, List.set_cons_succ])
    exact L1_ab X HQ v14 V.heap.size b10 (V.alloc (.cells #[.string ⟨#[]⟩, .float .f64 0, .map none] 97)) (hB.trans (bn.mono hB.size)) hS1 (X.s1 _ _ _ _ j1 (turn_below (S := fun _ => False) bn) (soft_no _)) (heap_alloc_new V _) hB.size ((bn.block _ (lt_of_heap z10)).trans z10) l10 (Nat.ne_of_gt (lt_of_heap z10))
  refine AllReadyH.cons (o := { dst := some 11, op := Op.alloc 87, type := 0, pos := "reading.go:26", after := #[], guard := none }) rfl (fun K hK => ?_) AllReadyH.nil
  go_simp
  have bn : Below V.heap.size V (V.alloc (.cells #[.slice none 0 0, .map none, .slice none 0 0, .map none] 87)) := (Below.refl _ _).alloc (Nat.le_refl _) _
  have hS1 := (bn.block _ (lt_of_heap hS)).trans hS
  refine hK.out _ _ hS1 (fun hHeld => ?_)
  clear hK K hHeld
  (try simp only [Act.put, List.setIfInBounds_toArray, List.set_cons_zero, List.set_cons_succ])
  exact L1_bc X HQ v14 b10 V.heap.size (V.alloc (.cells #[.slice none 0 0, .map none, .slice none 0 0, .map none] 87)) (hB.trans (bn.mono hB.size)) hS1 (X.s1 _ _ _ _ j1 (turn_below (S := fun _ => False) bn) (soft_no _)) ((bn.block _ (lt_of_heap z10)).trans z10) l10 (heap_alloc_new V _) hB.size
set_option maxRecDepth 100000 in
set_option maxHeartbeats 4000000 in
theorem L1_c {w : World} {q4 : Nat} {pol : Array Value} {ts to : ByteArray} {sv : Value} {J1 J2 J3 : Value → World → Prop} {Q : Exit → Act → World → Prop} (X : Cx w (.agg pol) ts to sv J1 J2 J3) (HQ : ∀ z1 r1 o1 z2 r2 o2 xo xn xc xp uo ul uc xx b9 b10 b11 V, J1 (.agg #[.string z1, .float .f64 r1, .map o1]) V → J2 (.agg #[.string z2, .float .f64 r2, .map o2]) V → J3 (.agg #[.slice xo xn xc, .map xp, .slice uo ul uc, .map xx]) V → V.heap[b9]? = some (.cells #[.string z1, .float .f64 r1, .map o1] 97 (0, 0)) → V.heap[b10]? = some (.cells #[.string z2, .float .f64 r2, .map o2] 97 (0, 0)) → V.heap[b11]? = some (.cells #[.slice xo xn xc, .map xp, .slice uo ul uc, .map xx] 87 (0, 0)) → Below w.heap.size w V → Q .normal { tmps := #[.agg pol, .string ts, .string to, sv, .pointer (some ⟨q4, 0, none⟩), undef, undef, undef, .slice none 0 0, .pointer (some ⟨b9, 0, none⟩), .pointer (some ⟨b10, 0, none⟩), .pointer (some ⟨b11, 0, none⟩), .agg pol, .string ts, .agg #[.string z1, .float .f64 r1, .map o1], .agg pol, .string to, .agg #[.string z2, .float .f64 r2, .map o2], .agg pol, sv, .agg #[.slice xo xn xc, .map xp, .slice uo ul uc, .map xx], undef, undef, undef, undef, undef, undef, undef], defers := [] } V) (v14 : Value) (b11 : Nat) (V : World) (hB : Below w.heap.size w V) (hS : V.heap[q4]? = some (.cells pol 28 (0, 0))) (j1 : J1 v14 V) (z11 : V.heap[b11]? = some (.cells #[.slice none 0 0, .map none, .slice none 0 0, .map none] 87 (0, 0))) (l11 : w.heap.size ≤ b11) : wpAnyH Try.prog .any ops56 Q (fun V => V.heap[q4]? = some (.cells pol 28 (0, 0))) 7 #[true, true, true, true, true, false, true, true, false, false, false, true, false, false, false] { tmps := #[.agg pol, .string ts, .string to, sv, .pointer (some ⟨q4, 0, none⟩), undef, undef, undef, .slice none 0 0, undef, undef, .pointer (some ⟨b11, 0, none⟩), .agg pol, .string ts, v14, .agg pol, .string to, undef, .agg pol, sv, undef, undef, undef, undef, undef, undef, undef, undef], defers := [] } V := by
  refine wpAnyH_ready (rs := [5, 9, 10]) (by kernel_rfl) (by simp) ?_
  refine AllReadyH.cons (o := { dst := some 17, op := Op.call { callee := Callee.value (Operand.func 74), args := #[Operand.tmp 15, Operand.tmp 16], argTypes := #[28, 9] }, type := 97, pos := "reading.go:26", after := #[{ on := 3, ground := Ground.data }, { on := 4, ground := Ground.data }, { on := 2, ground := Ground.chain }], guard := none }) rfl (fun K hK => ?_) ?_
  · go_simp
    refine (X.c2 V hB).mono ?_
    rintro e x1 ⟨v17, rfl, jn, bn⟩
    (try dsimp only)
    have hS1 := (bn.block _ (lt_of_heap hS)).trans hS
    refine hK.out _ _ hS1 (fun hHeld => ?_)
    clear hK K hHeld
    (try simp only [Act.put, List.setIfInBounds_toArray, List.set_cons_zero, List.set_cons_succ])
    exact L2_c X HQ v14 v17 b11 x1 (hB.trans (bn.mono hB.size)) hS1 (X.s1 _ _ _ _ j1 (turn_below (S := fun _ => False) bn) (soft_no _)) jn ((bn.block _ (lt_of_heap z11)).trans z11) l11
  refine AllReadyH.cons (o := { dst := some 9, op := Op.alloc 97, type := 0, pos := "reading.go:26", after := #[], guard := none }) rfl (fun K hK => ?_) ?_
  · go_simp
    have bn : Below V.heap.size V (V.alloc (.cells #[.string ⟨#[]⟩, .float .f64 0, .map none] 97)) := (Below.refl _ _).alloc (Nat.le_refl _) _
    have hS1 := (bn.block _ (lt_of_heap hS)).trans hS
    refine hK.out _ _ hS1 (fun hHeld => ?_)
    clear hK K hHeld
    (try simp only [Act.put, List.setIfInBounds_toArray, List.set_cons_zero, List.set_cons_succ])
    exact L1_ac X HQ v14 V.heap.size b11 (V.alloc (.cells #[.string ⟨#[]⟩, .float .f64 0, .map none] 97)) (hB.trans (bn.mono hB.size)) hS1 (X.s1 _ _ _ _ j1 (turn_below (S := fun _ => False) bn) (soft_no _)) (heap_alloc_new V _) hB.size ((bn.block _ (lt_of_heap z11)).trans z11) l11
  refine AllReadyH.cons (o := { dst := some 10, op := Op.alloc 97, type := 0, pos := "reading.go:26", after := #[], guard := none }) rfl (fun K hK => ?_) AllReadyH.nil
  go_simp
  have bn : Below V.heap.size V (V.alloc (.cells #[.string ⟨#[]⟩, .float .f64 0, .map none] 97)) := (Below.refl _ _).alloc (Nat.le_refl _) _
  have hS1 := (bn.block _ (lt_of_heap hS)).trans hS
  refine hK.out _ _ hS1 (fun hHeld => ?_)
  clear hK K hHeld
  (try simp only [Act.put, List.setIfInBounds_toArray, List.set_cons_zero, List.set_cons_succ])
  exact L1_bc X HQ v14 V.heap.size b11 (V.alloc (.cells #[.string ⟨#[]⟩, .float .f64 0, .map none] 97)) (hB.trans (bn.mono hB.size)) hS1 (X.s1 _ _ _ _ j1 (turn_below (S := fun _ => False) bn) (soft_no _)) (heap_alloc_new V _) hB.size ((bn.block _ (lt_of_heap z11)).trans z11) l11
set_option maxRecDepth 100000 in
set_option maxHeartbeats 4000000 in
theorem L1_0 {w : World} {q4 : Nat} {pol : Array Value} {ts to : ByteArray} {sv : Value} {J1 J2 J3 : Value → World → Prop} {Q : Exit → Act → World → Prop} (X : Cx w (.agg pol) ts to sv J1 J2 J3) (HQ : ∀ z1 r1 o1 z2 r2 o2 xo xn xc xp uo ul uc xx b9 b10 b11 V, J1 (.agg #[.string z1, .float .f64 r1, .map o1]) V → J2 (.agg #[.string z2, .float .f64 r2, .map o2]) V → J3 (.agg #[.slice xo xn xc, .map xp, .slice uo ul uc, .map xx]) V → V.heap[b9]? = some (.cells #[.string z1, .float .f64 r1, .map o1] 97 (0, 0)) → V.heap[b10]? = some (.cells #[.string z2, .float .f64 r2, .map o2] 97 (0, 0)) → V.heap[b11]? = some (.cells #[.slice xo xn xc, .map xp, .slice uo ul uc, .map xx] 87 (0, 0)) → Below w.heap.size w V → Q .normal { tmps := #[.agg pol, .string ts, .string to, sv, .pointer (some ⟨q4, 0, none⟩), undef, undef, undef, .slice none 0 0, .pointer (some ⟨b9, 0, none⟩), .pointer (some ⟨b10, 0, none⟩), .pointer (some ⟨b11, 0, none⟩), .agg pol, .string ts, .agg #[.string z1, .float .f64 r1, .map o1], .agg pol, .string to, .agg #[.string z2, .float .f64 r2, .map o2], .agg pol, sv, .agg #[.slice xo xn xc, .map xp, .slice uo ul uc, .map xx], undef, undef, undef, undef, undef, undef, undef], defers := [] } V) (v14 : Value) (V : World) (hB : Below w.heap.size w V) (hS : V.heap[q4]? = some (.cells pol 28 (0, 0))) (j1 : J1 v14 V) : wpAnyH Try.prog .any ops56 Q (fun V => V.heap[q4]? = some (.cells pol 28 (0, 0))) 8 #[true, true, true, true, true, false, true, true, false, false, false, false, false, false, false] { tmps := #[.agg pol, .string ts, .string to, sv, .pointer (some ⟨q4, 0, none⟩), undef, undef, undef, .slice none 0 0, undef, undef, undef, .agg pol, .string ts, v14, .agg pol, .string to, undef, .agg pol, sv, undef, undef, undef, undef, undef, undef, undef, undef], defers := [] } V := by
  refine wpAnyH_ready (rs := [5, 9, 10, 11]) (by kernel_rfl) (by simp) ?_
  refine AllReadyH.cons (o := { dst := some 17, op := Op.call { callee := Callee.value (Operand.func 74), args := #[Operand.tmp 15, Operand.tmp 16], argTypes := #[28, 9] }, type := 97, pos := "reading.go:26", after := #[{ on := 3, ground := Ground.data }, { on := 4, ground := Ground.data }, { on := 2, ground := Ground.chain }], guard := none }) rfl (fun K hK => ?_) ?_
  · go_simp
    refine (X.c2 V hB).mono ?_
    rintro e x1 ⟨v17, rfl, jn, bn⟩
    (try dsimp only)
    have hS1 := (bn.block _ (lt_of_heap hS)).trans hS
    refine hK.out _ _ hS1 (fun hHeld => ?_)
    clear hK K hHeld
    (try simp only [Act.put, List.setIfInBounds_toArray, List.set_cons_zero, List.set_cons_succ])
    exact L2_0 X HQ v14 v17 x1 (hB.trans (bn.mono hB.size)) hS1 (X.s1 _ _ _ _ j1 (turn_below (S := fun _ => False) bn) (soft_no _)) jn
  refine AllReadyH.cons (o := { dst := some 9, op := Op.alloc 97, type := 0, pos := "reading.go:26", after := #[], guard := none }) rfl (fun K hK => ?_) ?_
  · go_simp
    have bn : Below V.heap.size V (V.alloc (.cells #[.string ⟨#[]⟩, .float .f64 0, .map none] 97)) := (Below.refl _ _).alloc (Nat.le_refl _) _
    have hS1 := (bn.block _ (lt_of_heap hS)).trans hS
    refine hK.out _ _ hS1 (fun hHeld => ?_)
    clear hK K hHeld
    (try simp only [Act.put, List.setIfInBounds_toArray, List.set_cons_zero, List.set_cons_succ])
    exact L1_a X HQ v14 V.heap.size (V.alloc (.cells #[.string ⟨#[]⟩, .float .f64 0, .map none] 97)) (hB.trans (bn.mono hB.size)) hS1 (X.s1 _ _ _ _ j1 (turn_below (S := fun _ => False) bn) (soft_no _)) (heap_alloc_new V _) hB.size
  refine AllReadyH.cons (o := { dst := some 10, op := Op.alloc 97, type := 0, pos := "reading.go:26", after := #[], guard := none }) rfl (fun K hK => ?_) ?_
  · go_simp
    have bn : Below V.heap.size V (V.alloc (.cells #[.string ⟨#[]⟩, .float .f64 0, .map none] 97)) := (Below.refl _ _).alloc (Nat.le_refl _) _
    have hS1 := (bn.block _ (lt_of_heap hS)).trans hS
    refine hK.out _ _ hS1 (fun hHeld => ?_)
    clear hK K hHeld
    (try simp only [Act.put, List.setIfInBounds_toArray, List.set_cons_zero, List.set_cons_succ])
    exact L1_b X HQ v14 V.heap.size (V.alloc (.cells #[.string ⟨#[]⟩, .float .f64 0, .map none] 97)) (hB.trans (bn.mono hB.size)) hS1 (X.s1 _ _ _ _ j1 (turn_below (S := fun _ => False) bn) (soft_no _)) (heap_alloc_new V _) hB.size
  refine AllReadyH.cons (o := { dst := some 11, op := Op.alloc 87, type := 0, pos := "reading.go:26", after := #[], guard := none }) rfl (fun K hK => ?_) AllReadyH.nil
  go_simp
  have bn : Below V.heap.size V (V.alloc (.cells #[.slice none 0 0, .map none, .slice none 0 0, .map none] 87)) := (Below.refl _ _).alloc (Nat.le_refl _) _
  have hS1 := (bn.block _ (lt_of_heap hS)).trans hS
  refine hK.out _ _ hS1 (fun hHeld => ?_)
  clear hK K hHeld
  (try simp only [Act.put, List.setIfInBounds_toArray, List.set_cons_zero, List.set_cons_succ])
  exact L1_c X HQ v14 V.heap.size (V.alloc (.cells #[.slice none 0 0, .map none, .slice none 0 0, .map none] 87)) (hB.trans (bn.mono hB.size)) hS1 (X.s1 _ _ _ _ j1 (turn_below (S := fun _ => False) bn) (soft_no _)) (heap_alloc_new V _) hB.size
set_option maxRecDepth 100000 in
set_option maxHeartbeats 4000000 in
theorem L0_abc {w : World} {q4 : Nat} {pol : Array Value} {ts to : ByteArray} {sv : Value} {J1 J2 J3 : Value → World → Prop} {Q : Exit → Act → World → Prop} (X : Cx w (.agg pol) ts to sv J1 J2 J3) (HQ : ∀ z1 r1 o1 z2 r2 o2 xo xn xc xp uo ul uc xx b9 b10 b11 V, J1 (.agg #[.string z1, .float .f64 r1, .map o1]) V → J2 (.agg #[.string z2, .float .f64 r2, .map o2]) V → J3 (.agg #[.slice xo xn xc, .map xp, .slice uo ul uc, .map xx]) V → V.heap[b9]? = some (.cells #[.string z1, .float .f64 r1, .map o1] 97 (0, 0)) → V.heap[b10]? = some (.cells #[.string z2, .float .f64 r2, .map o2] 97 (0, 0)) → V.heap[b11]? = some (.cells #[.slice xo xn xc, .map xp, .slice uo ul uc, .map xx] 87 (0, 0)) → Below w.heap.size w V → Q .normal { tmps := #[.agg pol, .string ts, .string to, sv, .pointer (some ⟨q4, 0, none⟩), undef, undef, undef, .slice none 0 0, .pointer (some ⟨b9, 0, none⟩), .pointer (some ⟨b10, 0, none⟩), .pointer (some ⟨b11, 0, none⟩), .agg pol, .string ts, .agg #[.string z1, .float .f64 r1, .map o1], .agg pol, .string to, .agg #[.string z2, .float .f64 r2, .map o2], .agg pol, sv, .agg #[.slice xo xn xc, .map xp, .slice uo ul uc, .map xx], undef, undef, undef, undef, undef, undef, undef], defers := [] } V) (b9 b10 b11 : Nat) (V : World) (hB : Below w.heap.size w V) (hS : V.heap[q4]? = some (.cells pol 28 (0, 0))) (z9 : V.heap[b9]? = some (.cells #[.string ⟨#[]⟩, .float .f64 0, .map none] 97 (0, 0))) (l9 : w.heap.size ≤ b9) (z10 : V.heap[b10]? = some (.cells #[.string ⟨#[]⟩, .float .f64 0, .map none] 97 (0, 0))) (l10 : w.heap.size ≤ b10) (z11 : V.heap[b11]? = some (.cells #[.slice none 0 0, .map none, .slice none 0 0, .map none] 87 (0, 0))) (l11 : w.heap.size ≤ b11) (ne : b9 ≠ b10) : wpAnyH Try.prog .any ops56 Q (fun V => V.heap[q4]? = some (.cells pol 28 (0, 0))) 6 #[true, true, false, true, true, false, true, true, false, true, true, true, false, false, false] { tmps := #[.agg pol, .string ts, .string to, sv, .pointer (some ⟨q4, 0, none⟩), undef, undef, undef, .slice none 0 0, .pointer (some ⟨b9, 0, none⟩), .pointer (some ⟨b10, 0, none⟩), .pointer (some ⟨b11, 0, none⟩), .agg pol, .string ts, undef, .agg pol, .string to, undef, .agg pol, sv, undef, undef, undef, undef, undef, undef, undef, undef], defers := [] } V := by
  refine wpAnyH_ready (rs := [2]) (by kernel_rfl) (by simp) ?_
  refine AllReadyH.cons (o := { dst := some 14, op := Op.call { callee := Callee.value (Operand.func 73), args := #[Operand.tmp 12, Operand.tmp 13], argTypes := #[28, 9] }, type := 97, pos := "reading.go:26", after := #[{ on := 0, ground := Ground.data }, { on := 1, ground := Ground.data }], guard := none }) rfl (fun K hK => ?_) AllReadyH.nil
  go_simp
  refine (X.c1 V hB).mono ?_
  rintro e x1 ⟨v14, rfl, jn, bn⟩
  (try dsimp only)
  have hS1 := (bn.block _ (lt_of_heap hS)).trans hS
  refine hK.out _ _ hS1 (fun hHeld => ?_)
  clear hK K hHeld
  (try simp only [Act.put, List.setIfInBounds_toArray, List.set_cons_zero, List.set_cons_succ])
  exact L1_abc X HQ v14 b9 b10 b11 x1 (hB.trans (bn.mono hB.size)) hS1 jn ((bn.block _ (lt_of_heap z9)).trans z9) l9 ((bn.block _ (lt_of_heap z10)).trans z10) l10 ((bn.block _ (lt_of_heap z11)).trans z11) l11 ne
set_option maxRecDepth 100000 in
set_option maxHeartbeats 4000000 in
theorem L0_ab {w : World} {q4 : Nat} {pol : Array Value} {ts to : ByteArray} {sv : Value} {J1 J2 J3 : Value → World → Prop} {Q : Exit → Act → World → Prop} (X : Cx w (.agg pol) ts to sv J1 J2 J3) (HQ : ∀ z1 r1 o1 z2 r2 o2 xo xn xc xp uo ul uc xx b9 b10 b11 V, J1 (.agg #[.string z1, .float .f64 r1, .map o1]) V → J2 (.agg #[.string z2, .float .f64 r2, .map o2]) V → J3 (.agg #[.slice xo xn xc, .map xp, .slice uo ul uc, .map xx]) V → V.heap[b9]? = some (.cells #[.string z1, .float .f64 r1, .map o1] 97 (0, 0)) → V.heap[b10]? = some (.cells #[.string z2, .float .f64 r2, .map o2] 97 (0, 0)) → V.heap[b11]? = some (.cells #[.slice xo xn xc, .map xp, .slice uo ul uc, .map xx] 87 (0, 0)) → Below w.heap.size w V → Q .normal { tmps := #[.agg pol, .string ts, .string to, sv, .pointer (some ⟨q4, 0, none⟩), undef, undef, undef, .slice none 0 0, .pointer (some ⟨b9, 0, none⟩), .pointer (some ⟨b10, 0, none⟩), .pointer (some ⟨b11, 0, none⟩), .agg pol, .string ts, .agg #[.string z1, .float .f64 r1, .map o1], .agg pol, .string to, .agg #[.string z2, .float .f64 r2, .map o2], .agg pol, sv, .agg #[.slice xo xn xc, .map xp, .slice uo ul uc, .map xx], undef, undef, undef, undef, undef, undef, undef], defers := [] } V) (b9 b10 : Nat) (V : World) (hB : Below w.heap.size w V) (hS : V.heap[q4]? = some (.cells pol 28 (0, 0))) (z9 : V.heap[b9]? = some (.cells #[.string ⟨#[]⟩, .float .f64 0, .map none] 97 (0, 0))) (l9 : w.heap.size ≤ b9) (z10 : V.heap[b10]? = some (.cells #[.string ⟨#[]⟩, .float .f64 0, .map none] 97 (0, 0))) (l10 : w.heap.size ≤ b10) (ne : b9 ≠ b10) : wpAnyH Try.prog .any ops56 Q (fun V => V.heap[q4]? = some (.cells pol 28 (0, 0))) 7 #[true, true, false, true, true, false, true, true, false, true, true, false, false, false, false] { tmps := #[.agg pol, .string ts, .string to, sv, .pointer (some ⟨q4, 0, none⟩), undef, undef, undef, .slice none 0 0, .pointer (some ⟨b9, 0, none⟩), .pointer (some ⟨b10, 0, none⟩), undef, .agg pol, .string ts, undef, .agg pol, .string to, undef, .agg pol, sv, undef, undef, undef, undef, undef, undef, undef, undef], defers := [] } V := by
  refine wpAnyH_ready (rs := [2, 11]) (by kernel_rfl) (by simp) ?_
  refine AllReadyH.cons (o := { dst := some 14, op := Op.call { callee := Callee.value (Operand.func 73), args := #[Operand.tmp 12, Operand.tmp 13], argTypes := #[28, 9] }, type := 97, pos := "reading.go:26", after := #[{ on := 0, ground := Ground.data }, { on := 1, ground := Ground.data }], guard := none }) rfl (fun K hK => ?_) ?_
  · go_simp
    refine (X.c1 V hB).mono ?_
    rintro e x1 ⟨v14, rfl, jn, bn⟩
    (try dsimp only)
    have hS1 := (bn.block _ (lt_of_heap hS)).trans hS
    refine hK.out _ _ hS1 (fun hHeld => ?_)
    clear hK K hHeld
    (try simp only [Act.put, List.setIfInBounds_toArray, List.set_cons_zero, List.set_cons_succ])
    exact L1_ab X HQ v14 b9 b10 x1 (hB.trans (bn.mono hB.size)) hS1 jn ((bn.block _ (lt_of_heap z9)).trans z9) l9 ((bn.block _ (lt_of_heap z10)).trans z10) l10 ne
  refine AllReadyH.cons (o := { dst := some 11, op := Op.alloc 87, type := 0, pos := "reading.go:26", after := #[], guard := none }) rfl (fun K hK => ?_) AllReadyH.nil
  go_simp
  have bn : Below V.heap.size V (V.alloc (.cells #[.slice none 0 0, .map none, .slice none 0 0, .map none] 87)) := (Below.refl _ _).alloc (Nat.le_refl _) _
  have hS1 := (bn.block _ (lt_of_heap hS)).trans hS
  refine hK.out _ _ hS1 (fun hHeld => ?_)
  clear hK K hHeld
  (try simp only [Act.put, List.setIfInBounds_toArray, List.set_cons_zero, List.set_cons_succ])
  exact L0_abc X HQ b9 b10 V.heap.size (V.alloc (.cells #[.slice none 0 0, .map none, .slice none 0 0, .map none] 87)) (hB.trans (bn.mono hB.size)) hS1 ((bn.block _ (lt_of_heap z9)).trans z9) l9 ((bn.block _ (lt_of_heap z10)).trans z10) l10 (heap_alloc_new V _) hB.size ne
set_option maxRecDepth 100000 in
set_option maxHeartbeats 4000000 in
theorem L0_ac {w : World} {q4 : Nat} {pol : Array Value} {ts to : ByteArray} {sv : Value} {J1 J2 J3 : Value → World → Prop} {Q : Exit → Act → World → Prop} (X : Cx w (.agg pol) ts to sv J1 J2 J3) (HQ : ∀ z1 r1 o1 z2 r2 o2 xo xn xc xp uo ul uc xx b9 b10 b11 V, J1 (.agg #[.string z1, .float .f64 r1, .map o1]) V → J2 (.agg #[.string z2, .float .f64 r2, .map o2]) V → J3 (.agg #[.slice xo xn xc, .map xp, .slice uo ul uc, .map xx]) V → V.heap[b9]? = some (.cells #[.string z1, .float .f64 r1, .map o1] 97 (0, 0)) → V.heap[b10]? = some (.cells #[.string z2, .float .f64 r2, .map o2] 97 (0, 0)) → V.heap[b11]? = some (.cells #[.slice xo xn xc, .map xp, .slice uo ul uc, .map xx] 87 (0, 0)) → Below w.heap.size w V → Q .normal { tmps := #[.agg pol, .string ts, .string to, sv, .pointer (some ⟨q4, 0, none⟩), undef, undef, undef, .slice none 0 0, .pointer (some ⟨b9, 0, none⟩), .pointer (some ⟨b10, 0, none⟩), .pointer (some ⟨b11, 0, none⟩), .agg pol, .string ts, .agg #[.string z1, .float .f64 r1, .map o1], .agg pol, .string to, .agg #[.string z2, .float .f64 r2, .map o2], .agg pol, sv, .agg #[.slice xo xn xc, .map xp, .slice uo ul uc, .map xx], undef, undef, undef, undef, undef, undef, undef], defers := [] } V) (b9 b11 : Nat) (V : World) (hB : Below w.heap.size w V) (hS : V.heap[q4]? = some (.cells pol 28 (0, 0))) (z9 : V.heap[b9]? = some (.cells #[.string ⟨#[]⟩, .float .f64 0, .map none] 97 (0, 0))) (l9 : w.heap.size ≤ b9) (z11 : V.heap[b11]? = some (.cells #[.slice none 0 0, .map none, .slice none 0 0, .map none] 87 (0, 0))) (l11 : w.heap.size ≤ b11) : wpAnyH Try.prog .any ops56 Q (fun V => V.heap[q4]? = some (.cells pol 28 (0, 0))) 7 #[true, true, false, true, true, false, true, true, false, true, false, true, false, false, false] { tmps := #[.agg pol, .string ts, .string to, sv, .pointer (some ⟨q4, 0, none⟩), undef, undef, undef, .slice none 0 0, .pointer (some ⟨b9, 0, none⟩), undef, .pointer (some ⟨b11, 0, none⟩), .agg pol, .string ts, undef, .agg pol, .string to, undef, .agg pol, sv, undef, undef, undef, undef, undef, undef, undef, undef], defers := [] } V := by
  refine wpAnyH_ready (rs := [2, 10]) (by kernel_rfl) (by simp) ?_
  refine AllReadyH.cons (o := { dst := some 14, op := Op.call { callee := Callee.value (Operand.func 73), args := #[Operand.tmp 12, Operand.tmp 13], argTypes := #[28, 9] }, type := 97, pos := "reading.go:26", after := #[{ on := 0, ground := Ground.data }, { on := 1, ground := Ground.data }], guard := none }) rfl (fun K hK => ?_) ?_
  · go_simp
    refine (X.c1 V hB).mono ?_
    rintro e x1 ⟨v14, rfl, jn, bn⟩
    (try dsimp only)
    have hS1 := (bn.block _ (lt_of_heap hS)).trans hS
    refine hK.out _ _ hS1 (fun hHeld => ?_)
    clear hK K hHeld
    (try simp only [Act.put, List.setIfInBounds_toArray, List.set_cons_zero, List.set_cons_succ])
    exact L1_ac X HQ v14 b9 b11 x1 (hB.trans (bn.mono hB.size)) hS1 jn ((bn.block _ (lt_of_heap z9)).trans z9) l9 ((bn.block _ (lt_of_heap z11)).trans z11) l11
  refine AllReadyH.cons (o := { dst := some 10, op := Op.alloc 97, type := 0, pos := "reading.go:26", after := #[], guard := none }) rfl (fun K hK => ?_) AllReadyH.nil
  go_simp
  have bn : Below V.heap.size V (V.alloc (.cells #[.string ⟨#[]⟩, .float .f64 0, .map none] 97)) := (Below.refl _ _).alloc (Nat.le_refl _) _
  have hS1 := (bn.block _ (lt_of_heap hS)).trans hS
  refine hK.out _ _ hS1 (fun hHeld => ?_)
  clear hK K hHeld
  (try simp only [Act.put, List.setIfInBounds_toArray, List.set_cons_zero, List.set_cons_succ])
  exact L0_abc X HQ b9 V.heap.size b11 (V.alloc (.cells #[.string ⟨#[]⟩, .float .f64 0, .map none] 97)) (hB.trans (bn.mono hB.size)) hS1 ((bn.block _ (lt_of_heap z9)).trans z9) l9 (heap_alloc_new V _) hB.size ((bn.block _ (lt_of_heap z11)).trans z11) l11 (Nat.ne_of_lt (lt_of_heap z9))
set_option maxRecDepth 100000 in
set_option maxHeartbeats 4000000 in
theorem L0_bc {w : World} {q4 : Nat} {pol : Array Value} {ts to : ByteArray} {sv : Value} {J1 J2 J3 : Value → World → Prop} {Q : Exit → Act → World → Prop} (X : Cx w (.agg pol) ts to sv J1 J2 J3) (HQ : ∀ z1 r1 o1 z2 r2 o2 xo xn xc xp uo ul uc xx b9 b10 b11 V, J1 (.agg #[.string z1, .float .f64 r1, .map o1]) V → J2 (.agg #[.string z2, .float .f64 r2, .map o2]) V → J3 (.agg #[.slice xo xn xc, .map xp, .slice uo ul uc, .map xx]) V → V.heap[b9]? = some (.cells #[.string z1, .float .f64 r1, .map o1] 97 (0, 0)) → V.heap[b10]? = some (.cells #[.string z2, .float .f64 r2, .map o2] 97 (0, 0)) → V.heap[b11]? = some (.cells #[.slice xo xn xc, .map xp, .slice uo ul uc, .map xx] 87 (0, 0)) → Below w.heap.size w V → Q .normal { tmps := #[.agg pol, .string ts, .string to, sv, .pointer (some ⟨q4, 0, none⟩), undef, undef, undef, .slice none 0 0, .pointer (some ⟨b9, 0, none⟩), .pointer (some ⟨b10, 0, none⟩), .pointer (some ⟨b11, 0, none⟩), .agg pol, .string ts, .agg #[.string z1, .float .f64 r1, .map o1], .agg pol, .string to, .agg #[.string z2, .float .f64 r2, .map o2], .agg pol, sv, .agg #[.slice xo xn xc, .map xp, .slice uo ul uc, .map xx], undef, undef, undef, undef, undef, undef, undef], defers := [] } V) (b10 b11 : Nat) (V : World) (hB : Below w.heap.size w V) (hS : V.heap[q4]? = some (.cells pol 28 (0, 0))) (z10 : V.heap[b10]? = some (.cells #[.string ⟨#[]⟩, .float .f64 0, .map none] 97 (0, 0))) (l10 : w.heap.size ≤ b10) (z11 : V.heap[b11]? = some (.cells #[.slice none 0 0, .map none, .slice none 0 0, .map none] 87 (0, 0))) (l11 : w.heap.size ≤ b11) : wpAnyH Try.prog .any ops56 Q (fun V => V.heap[q4]? = some (.cells pol 28 (0, 0))) 7 #[true, true, false, true, true, false, true, true, false, false, true, true, false, false, false] { tmps := #[.agg pol, .string ts, .string to, sv, .pointer (some ⟨q4, 0, none⟩), undef, undef, undef, .slice none 0 0, undef, .pointer (some ⟨b10, 0, none⟩), .pointer (some ⟨b11, 0, none⟩), .agg pol, .string ts, undef, .agg pol, .string to, undef, .agg pol, sv, undef, undef, undef, undef, undef, undef, undef, undef], defers := [] } V := by
  refine wpAnyH_ready (rs := [2, 9]) (by kernel_rfl) (by simp) ?_
  refine AllReadyH.cons (o := { dst := some 14, op := Op.call { callee := Callee.value (Operand.func 73), args := #[Operand.tmp 12, Operand.tmp 13], argTypes := #[28, 9] }, type := 97, pos := "reading.go:26", after := #[{ on := 0, ground := Ground.data }, { on := 1, ground := Ground.data }], guard := none }) rfl (fun K hK => ?_) ?_
  · go_simp
    refine (X.c1 V hB).mono ?_
    rintro e x1 ⟨v14, rfl, jn, bn⟩
    (try dsimp only)
    have hS1 := (bn.block _ (lt_of_heap hS)).trans hS
    refine hK.out _ _ hS1 (fun hHeld => ?_)
    clear hK K hHeld
    (try simp only [Act.put, List.setIfInBounds_toArray, List.set_cons_zero, List.set_cons_succ])
    exact L1_bc X HQ v14 b10 b11 x1 (hB.trans (bn.mono hB.size)) hS1 jn ((bn.block _ (lt_of_heap z10)).trans z10) l10 ((bn.block _ (lt_of_heap z11)).trans z11) l11
  refine AllReadyH.cons (o := { dst := some 9, op := Op.alloc 97, type := 0, pos := "reading.go:26", after := #[], guard := none }) rfl (fun K hK => ?_) AllReadyH.nil
  go_simp
  have bn : Below V.heap.size V (V.alloc (.cells #[.string ⟨#[]⟩, .float .f64 0, .map none] 97)) := (Below.refl _ _).alloc (Nat.le_refl _) _
  have hS1 := (bn.block _ (lt_of_heap hS)).trans hS
  refine hK.out _ _ hS1 (fun hHeld => ?_)
  clear hK K hHeld
  (try simp only [Act.put, List.setIfInBounds_toArray, List.set_cons_zero, List.set_cons_succ])
  exact L0_abc X HQ V.heap.size b10 b11 (V.alloc (.cells #[.string ⟨#[]⟩, .float .f64 0, .map none] 97)) (hB.trans (bn.mono hB.size)) hS1 (heap_alloc_new V _) hB.size ((bn.block _ (lt_of_heap z10)).trans z10) l10 ((bn.block _ (lt_of_heap z11)).trans z11) l11 (Nat.ne_of_gt (lt_of_heap z10))
set_option maxRecDepth 100000 in
set_option maxHeartbeats 4000000 in
theorem L0_a {w : World} {q4 : Nat} {pol : Array Value} {ts to : ByteArray} {sv : Value} {J1 J2 J3 : Value → World → Prop} {Q : Exit → Act → World → Prop} (X : Cx w (.agg pol) ts to sv J1 J2 J3) (HQ : ∀ z1 r1 o1 z2 r2 o2 xo xn xc xp uo ul uc xx b9 b10 b11 V, J1 (.agg #[.string z1, .float .f64 r1, .map o1]) V → J2 (.agg #[.string z2, .float .f64 r2, .map o2]) V → J3 (.agg #[.slice xo xn xc, .map xp, .slice uo ul uc, .map xx]) V → V.heap[b9]? = some (.cells #[.string z1, .float .f64 r1, .map o1] 97 (0, 0)) → V.heap[b10]? = some (.cells #[.string z2, .float .f64 r2, .map o2] 97 (0, 0)) → V.heap[b11]? = some (.cells #[.slice xo xn xc, .map xp, .slice uo ul uc, .map xx] 87 (0, 0)) → Below w.heap.size w V → Q .normal { tmps := #[.agg pol, .string ts, .string to, sv, .pointer (some ⟨q4, 0, none⟩), undef, undef, undef, .slice none 0 0, .pointer (some ⟨b9, 0, none⟩), .pointer (some ⟨b10, 0, none⟩), .pointer (some ⟨b11, 0, none⟩), .agg pol, .string ts, .agg #[.string z1, .float .f64 r1, .map o1], .agg pol, .string to, .agg #[.string z2, .float .f64 r2, .map o2], .agg pol, sv, .agg #[.slice xo xn xc, .map xp, .slice uo ul uc, .map xx], undef, undef, undef, undef, undef, undef, undef], defers := [] } V) (b9 : Nat) (V : World) (hB : Below w.heap.size w V) (hS : V.heap[q4]? = some (.cells pol 28 (0, 0))) (z9 : V.heap[b9]? = some (.cells #[.string ⟨#[]⟩, .float .f64 0, .map none] 97 (0, 0))) (l9 : w.heap.size ≤ b9) : wpAnyH Try.prog .any ops56 Q (fun V => V.heap[q4]? = some (.cells pol 28 (0, 0))) 8 #[true, true, false, true, true, false, true, true, false, true, false, false, false, false, false] { tmps := #[.agg pol, .string ts, .string to, sv, .pointer (some ⟨q4, 0, none⟩), undef, undef, undef, .slice none 0 0, .pointer (some ⟨b9, 0, none⟩), undef, undef, .agg pol, .string ts, undef, .agg pol, .string to, undef, .agg pol, sv, undef, undef, undef, undef, undef, undef, undef, undef], defers := [] } V := by
  refine wpAnyH_ready (rs := [2, 10, 11]) (by kernel_rfl) (by simp) ?_
  refine AllReadyH.cons (o := { dst := some 14, op := Op.call { callee := Callee.value (Operand.func 73), args := #[Operand.tmp 12, Operand.tmp 13], argTypes := #[28, 9] }, type := 97, pos := "reading.go:26", after := #[{ on := 0, ground := Ground.data }, { on := 1, ground := Ground.data }], guard := none }) rfl (fun K hK => ?_) ?_
  · go_simp
    refine (X.c1 V hB).mono ?_
    rintro e x1 ⟨v14, rfl, jn, bn⟩
    (try dsimp only)
    have hS1 := (bn.block _ (lt_of_heap hS)).trans hS
    refine hK.out _ _ hS1 (fun hHeld => ?_)
    clear hK K hHeld
    (try simp only [Act.put, List.setIfInBounds_toArray, List.set_cons_zero, List.set_cons_succ])
    exact L1_a X HQ v14 b9 x1 (hB.trans (bn.mono hB.size)) hS1 jn ((bn.block _ (lt_of_heap z9)).trans z9) l9
  refine AllReadyH.cons (o := { dst := some 10, op := Op.alloc 97, type := 0, pos := "reading.go:26", after := #[], guard := none }) rfl (fun K hK => ?_) ?_
  · go_simp
    have bn : Below V.heap.size V (V.alloc (.cells #[.string ⟨#[]⟩, .float .f64 0, .map none] 97)) := (Below.refl _ _).alloc (Nat.le_refl _) _
    have hS1 := (bn.block _ (lt_of_heap hS)).trans hS
    refine hK.out _ _ hS1 (fun hHeld => ?_)
    clear hK K hHeld
    (try simp only [Act.put, List.setIfInBounds_toArray, List.set_cons_zero, List.set_cons_succ])
    exact L0_ab X HQ b9 V.heap.size (V.alloc (.cells #[.string ⟨#[]⟩, .float .f64 0, .map none] 97)) (hB.trans (bn.mono hB.size)) hS1 ((bn.block _ (lt_of_heap z9)).trans z9) l9 (heap_alloc_new V _) hB.size (Nat.ne_of_lt (lt_of_heap z9))
  refine AllReadyH.cons (o := { dst := some 11, op := Op.alloc 87, type := 0, pos := "reading.go:26", after := #[], guard := none }) rfl (fun K hK => ?_) AllReadyH.nil
  go_simp
  have bn : Below V.heap.size V (V.alloc (.cells #[.slice none 0 0, .map none, .slice none 0 0, .map none] 87)) := (Below.refl _ _).alloc (Nat.le_refl _) _
  have hS1 := (bn.block _ (lt_of_heap hS)).trans hS
  refine hK.out _ _ hS1 (fun hHeld => ?_)
  clear hK K hHeld
  (try simp only [Act.put, List.setIfInBounds_toArray, List.set_cons_zero, List.set_cons_succ])
  exact L0_ac X HQ b9 V.heap.size (V.alloc (.cells #[.slice none 0 0, .map none, .slice none 0 0, .map none] 87)) (hB.trans (bn.mono hB.size)) hS1 ((bn.block _ (lt_of_heap z9)).trans z9) l9 (heap_alloc_new V _) hB.size
set_option maxRecDepth 100000 in
set_option maxHeartbeats 4000000 in
theorem L0_b {w : World} {q4 : Nat} {pol : Array Value} {ts to : ByteArray} {sv : Value} {J1 J2 J3 : Value → World → Prop} {Q : Exit → Act → World → Prop} (X : Cx w (.agg pol) ts to sv J1 J2 J3) (HQ : ∀ z1 r1 o1 z2 r2 o2 xo xn xc xp uo ul uc xx b9 b10 b11 V, J1 (.agg #[.string z1, .float .f64 r1, .map o1]) V → J2 (.agg #[.string z2, .float .f64 r2, .map o2]) V → J3 (.agg #[.slice xo xn xc, .map xp, .slice uo ul uc, .map xx]) V → V.heap[b9]? = some (.cells #[.string z1, .float .f64 r1, .map o1] 97 (0, 0)) → V.heap[b10]? = some (.cells #[.string z2, .float .f64 r2, .map o2] 97 (0, 0)) → V.heap[b11]? = some (.cells #[.slice xo xn xc, .map xp, .slice uo ul uc, .map xx] 87 (0, 0)) → Below w.heap.size w V → Q .normal { tmps := #[.agg pol, .string ts, .string to, sv, .pointer (some ⟨q4, 0, none⟩), undef, undef, undef, .slice none 0 0, .pointer (some ⟨b9, 0, none⟩), .pointer (some ⟨b10, 0, none⟩), .pointer (some ⟨b11, 0, none⟩), .agg pol, .string ts, .agg #[.string z1, .float .f64 r1, .map o1], .agg pol, .string to, .agg #[.string z2, .float .f64 r2, .map o2], .agg pol, sv, .agg #[.slice xo xn xc, .map xp, .slice uo ul uc, .map xx], undef, undef, undef, undef, undef, undef, undef], defers := [] } V) (b10 : Nat) (V : World) (hB : Below w.heap.size w V) (hS : V.heap[q4]? = some (.cells pol 28 (0, 0))) (z10 : V.heap[b10]? = some (.cells #[.string ⟨#[]⟩, .float .f64 0, .map none] 97 (0, 0))) (l10 : w.heap.size ≤ b10) : wpAnyH Try.prog .any ops56 Q (fun V => V.heap[q4]? = some (.cells pol 28 (0, 0))) 8 #[true, true, false, true, true, false, true, true, false, false, true, false, false, false, false] { tmps := #[.agg pol, .string ts, .string to, sv, .pointer (some ⟨q4, 0, none⟩), undef, undef, undef, .slice none 0 0, undef, .pointer (some ⟨b10, 0, none⟩), undef, .agg pol, .string ts, undef, .agg pol, .string to, undef, .agg pol, sv, undef, undef, undef, undef, undef, undef, undef, undef], defers := [] } V := by
  refine wpAnyH_ready (rs := [2, 9, 11]) (by kernel_rfl) (by simp) ?_
  refine AllReadyH.cons (o := { dst := some 14, op := Op.call { callee := Callee.value (Operand.func 73), args := #[Operand.tmp 12, Operand.tmp 13], argTypes := #[28, 9] }, type := 97, pos := "reading.go:26", after := #[{ on := 0, ground := Ground.data }, { on := 1, ground := Ground.data }], guard := none }) rfl (fun K hK => ?_) ?_
  · go_simp
    refine (X.c1 V hB).mono ?_
    rintro e x1 ⟨v14, rfl, jn, bn⟩
    (try dsimp only)
    have hS1 := (bn.block _ (lt_of_heap hS)).trans hS
    refine hK.out _ _ hS1 (fun hHeld => ?_)
    clear hK K hHeld
    (try simp only [Act.put, List.setIfInBounds_toArray, List.set_cons_zero, List.set_cons_succ])
    exact L1_b X HQ v14 b10 x1 (hB.trans (bn.mono hB.size)) hS1 jn ((bn.block _ (lt_of_heap z10)).trans z10) l10
  refine AllReadyH.cons (o := { dst := some 9, op := Op.alloc 97, type := 0, pos := "reading.go:26", after := #[], guard := none }) rfl (fun K hK => ?_) ?_
  · go_simp
    have bn : Below V.heap.size V (V.alloc (.cells #[.string ⟨#[]⟩, .float .f64 0, .map none] 97)) := (Below.refl _ _).alloc (Nat.le_refl _) _
    have hS1 := (bn.block _ (lt_of_heap hS)).trans hS
    refine hK.out _ _ hS1 (fun hHeld => ?_)
    clear hK K hHeld
    (try simp only [Act.put, List.setIfInBounds_toArray, List.set_cons_zero, List.set_cons_succ])
    exact L0_ab X HQ V.heap.size b10 (V.alloc (.cells #[.string ⟨#[]⟩, .float .f64 0, .map none] 97)) (hB.trans (bn.mono hB.size)) hS1 (heap_alloc_new V _) hB.size ((bn.block _ (lt_of_heap z10)).trans z10) l10 (Nat.ne_of_gt (lt_of_heap z10))
  refine AllReadyH.cons (o := { dst := some 11, op := Op.alloc 87, type := 0, pos := "reading.go:26", after := #[], guard := none }) rfl (fun K hK => ?_) AllReadyH.nil
  go_simp
  have bn : Below V.heap.size V (V.alloc (.cells #[.slice none 0 0, .map none, .slice none 0 0, .map none] 87)) := (Below.refl _ _).alloc (Nat.le_refl _) _
  have hS1 := (bn.block _ (lt_of_heap hS)).trans hS
  refine hK.out _ _ hS1 (fun hHeld => ?_)
  clear hK K hHeld
  (try simp only [Act.put, List.setIfInBounds_toArray, List.set_cons_zero, List.set_cons_succ])
  exact L0_bc X HQ b10 V.heap.size (V.alloc (.cells #[.slice none 0 0, .map none, .slice none 0 0, .map none] 87)) (hB.trans (bn.mono hB.size)) hS1 ((bn.block _ (lt_of_heap z10)).trans z10) l10 (heap_alloc_new V _) hB.size
set_option maxRecDepth 100000 in
set_option maxHeartbeats 4000000 in
theorem L0_c {w : World} {q4 : Nat} {pol : Array Value} {ts to : ByteArray} {sv : Value} {J1 J2 J3 : Value → World → Prop} {Q : Exit → Act → World → Prop} (X : Cx w (.agg pol) ts to sv J1 J2 J3) (HQ : ∀ z1 r1 o1 z2 r2 o2 xo xn xc xp uo ul uc xx b9 b10 b11 V, J1 (.agg #[.string z1, .float .f64 r1, .map o1]) V → J2 (.agg #[.string z2, .float .f64 r2, .map o2]) V → J3 (.agg #[.slice xo xn xc, .map xp, .slice uo ul uc, .map xx]) V → V.heap[b9]? = some (.cells #[.string z1, .float .f64 r1, .map o1] 97 (0, 0)) → V.heap[b10]? = some (.cells #[.string z2, .float .f64 r2, .map o2] 97 (0, 0)) → V.heap[b11]? = some (.cells #[.slice xo xn xc, .map xp, .slice uo ul uc, .map xx] 87 (0, 0)) → Below w.heap.size w V → Q .normal { tmps := #[.agg pol, .string ts, .string to, sv, .pointer (some ⟨q4, 0, none⟩), undef, undef, undef, .slice none 0 0, .pointer (some ⟨b9, 0, none⟩), .pointer (some ⟨b10, 0, none⟩), .pointer (some ⟨b11, 0, none⟩), .agg pol, .string ts, .agg #[.string z1, .float .f64 r1, .map o1], .agg pol, .string to, .agg #[.string z2, .float .f64 r2, .map o2], .agg pol, sv, .agg #[.slice xo xn xc, .map xp, .slice uo ul uc, .map xx], undef, undef, undef, undef, undef, undef, undef], defers := [] } V) (b11 : Nat) (V : World) (hB : Below w.heap.size w V) (hS : V.heap[q4]? = some (.cells pol 28 (0, 0))) (z11 : V.heap[b11]? = some (.cells #[.slice none 0 0, .map none, .slice none 0 0, .map none] 87 (0, 0))) (l11 : w.heap.size ≤ b11) : wpAnyH Try.prog .any ops56 Q (fun V => V.heap[q4]? = some (.cells pol 28 (0, 0))) 8 #[true, true, false, true, true, false, true, true, false, false, false, true, false, false, false] { tmps := #[.agg pol, .string ts, .string to, sv, .pointer (some ⟨q4, 0, none⟩), undef, undef, undef, .slice none 0 0, undef, undef, .pointer (some ⟨b11, 0, none⟩), .agg pol, .string ts, undef, .agg pol, .string to, undef, .agg pol, sv, undef, undef, undef, undef, undef, undef, undef, undef], defers := [] } V := by
  refine wpAnyH_ready (rs := [2, 9, 10]) (by kernel_rfl) (by simp) ?_
  refine AllReadyH.cons (o := { dst := some 14, op := Op.call { callee := Callee.value (Operand.func 73), args := #[Operand.tmp 12, Operand.tmp 13], argTypes := #[28, 9] }, type := 97, pos := "reading.go:26", after := #[{ on := 0, ground := Ground.data }, { on := 1, ground := Ground.data }], guard := none }) rfl (fun K hK => ?_) ?_
  · go_simp
    refine (X.c1 V hB).mono ?_
    rintro e x1 ⟨v14, rfl, jn, bn⟩
    (try dsimp only)
    have hS1 := (bn.block _ (lt_of_heap hS)).trans hS
    refine hK.out _ _ hS1 (fun hHeld => ?_)
    clear hK K hHeld
    (try simp only [Act.put, List.setIfInBounds_toArray, List.set_cons_zero, List.set_cons_succ])
    exact L1_c X HQ v14 b11 x1 (hB.trans (bn.mono hB.size)) hS1 jn ((bn.block _ (lt_of_heap z11)).trans z11) l11
  refine AllReadyH.cons (o := { dst := some 9, op := Op.alloc 97, type := 0, pos := "reading.go:26", after := #[], guard := none }) rfl (fun K hK => ?_) ?_
  · go_simp
    have bn : Below V.heap.size V (V.alloc (.cells #[.string ⟨#[]⟩, .float .f64 0, .map none] 97)) := (Below.refl _ _).alloc (Nat.le_refl _) _
    have hS1 := (bn.block _ (lt_of_heap hS)).trans hS
    refine hK.out _ _ hS1 (fun hHeld => ?_)
    clear hK K hHeld
    (try simp only [Act.put, List.setIfInBounds_toArray, List.set_cons_zero, List.set_cons_succ])
    exact L0_ac X HQ V.heap.size b11 (V.alloc (.cells #[.string ⟨#[]⟩, .float .f64 0, .map none] 97)) (hB.trans (bn.mono hB.size)) hS1 (heap_alloc_new V _) hB.size ((bn.block _ (lt_of_heap z11)).trans z11) l11
  refine AllReadyH.cons (o := { dst := some 10, op := Op.alloc 97, type := 0, pos := "reading.go:26", after := #[], guard := none }) rfl (fun K hK => ?_) AllReadyH.nil
  go_simp
  have bn : Below V.heap.size V (V.alloc (.cells #[.string ⟨#[]⟩, .float .f64 0, .map none] 97)) := (Below.refl _ _).alloc (Nat.le_refl _) _
  have hS1 := (bn.block _ (lt_of_heap hS)).trans hS
  refine hK.out _ _ hS1 (fun hHeld => ?_)
  clear hK K hHeld
  (try simp only [Act.put, List.setIfInBounds_toArray, List.set_cons_zero, List.set_cons_succ])
  exact L0_bc X HQ V.heap.size b11 (V.alloc (.cells #[.string ⟨#[]⟩, .float .f64 0, .map none] 97)) (hB.trans (bn.mono hB.size)) hS1 (heap_alloc_new V _) hB.size ((bn.block _ (lt_of_heap z11)).trans z11) l11
set_option maxRecDepth 100000 in
set_option maxHeartbeats 4000000 in
theorem L0_0 {w : World} {q4 : Nat} {pol : Array Value} {ts to : ByteArray} {sv : Value} {J1 J2 J3 : Value → World → Prop} {Q : Exit → Act → World → Prop} (X : Cx w (.agg pol) ts to sv J1 J2 J3) (HQ : ∀ z1 r1 o1 z2 r2 o2 xo xn xc xp uo ul uc xx b9 b10 b11 V, J1 (.agg #[.string z1, .float .f64 r1, .map o1]) V → J2 (.agg #[.string z2, .float .f64 r2, .map o2]) V → J3 (.agg #[.slice xo xn xc, .map xp, .slice uo ul uc, .map xx]) V → V.heap[b9]? = some (.cells #[.string z1, .float .f64 r1, .map o1] 97 (0, 0)) → V.heap[b10]? = some (.cells #[.string z2, .float .f64 r2, .map o2] 97 (0, 0)) → V.heap[b11]? = some (.cells #[.slice xo xn xc, .map xp, .slice uo ul uc, .map xx] 87 (0, 0)) → Below w.heap.size w V → Q .normal { tmps := #[.agg pol, .string ts, .string to, sv, .pointer (some ⟨q4, 0, none⟩), undef, undef, undef, .slice none 0 0, .pointer (some ⟨b9, 0, none⟩), .pointer (some ⟨b10, 0, none⟩), .pointer (some ⟨b11, 0, none⟩), .agg pol, .string ts, .agg #[.string z1, .float .f64 r1, .map o1], .agg pol, .string to, .agg #[.string z2, .float .f64 r2, .map o2], .agg pol, sv, .agg #[.slice xo xn xc, .map xp, .slice uo ul uc, .map xx], undef, undef, undef, undef, undef, undef, undef], defers := [] } V) (V : World) (hB : Below w.heap.size w V) (hS : V.heap[q4]? = some (.cells pol 28 (0, 0))) : wpAnyH Try.prog .any ops56 Q (fun V => V.heap[q4]? = some (.cells pol 28 (0, 0))) 9 #[true, true, false, true, true, false, true, true, false, false, false, false, false, false, false] { tmps := #[.agg pol, .string ts, .string to, sv, .pointer (some ⟨q4, 0, none⟩), undef, undef, undef, .slice none 0 0, undef, undef, undef, .agg pol, .string ts, undef, .agg pol, .string to, undef, .agg pol, sv, undef, undef, undef, undef, undef, undef, undef, undef], defers := [] } V := by
  refine wpAnyH_ready (rs := [2, 9, 10, 11]) (by kernel_rfl) (by simp) ?_
  refine AllReadyH.cons (o := { dst := some 14, op := Op.call { callee := Callee.value (Operand.func 73), args := #[Operand.tmp 12, Operand.tmp 13], argTypes := #[28, 9] }, type := 97, pos := "reading.go:26", after := #[{ on := 0, ground := Ground.data }, { on := 1, ground := Ground.data }], guard := none }) rfl (fun K hK => ?_) ?_
  · go_simp
    refine (X.c1 V hB).mono ?_
    rintro e x1 ⟨v14, rfl, jn, bn⟩
    (try dsimp only)
    have hS1 := (bn.block _ (lt_of_heap hS)).trans hS
    refine hK.out _ _ hS1 (fun hHeld => ?_)
    clear hK K hHeld
    (try simp only [Act.put, List.setIfInBounds_toArray, List.set_cons_zero, List.set_cons_succ])
    exact L1_0 X HQ v14 x1 (hB.trans (bn.mono hB.size)) hS1 jn
  refine AllReadyH.cons (o := { dst := some 9, op := Op.alloc 97, type := 0, pos := "reading.go:26", after := #[], guard := none }) rfl (fun K hK => ?_) ?_
  · go_simp
    have bn : Below V.heap.size V (V.alloc (.cells #[.string ⟨#[]⟩, .float .f64 0, .map none] 97)) := (Below.refl _ _).alloc (Nat.le_refl _) _
    have hS1 := (bn.block _ (lt_of_heap hS)).trans hS
    refine hK.out _ _ hS1 (fun hHeld => ?_)
    clear hK K hHeld
    (try simp only [Act.put, List.setIfInBounds_toArray, List.set_cons_zero, List.set_cons_succ])
    exact L0_a X HQ V.heap.size (V.alloc (.cells #[.string ⟨#[]⟩, .float .f64 0, .map none] 97)) (hB.trans (bn.mono hB.size)) hS1 (heap_alloc_new V _) hB.size
  refine AllReadyH.cons (o := { dst := some 10, op := Op.alloc 97, type := 0, pos := "reading.go:26", after := #[], guard := none }) rfl (fun K hK => ?_) ?_
  · go_simp
    have bn : Below V.heap.size V (V.alloc (.cells #[.string ⟨#[]⟩, .float .f64 0, .map none] 97)) := (Below.refl _ _).alloc (Nat.le_refl _) _
    have hS1 := (bn.block _ (lt_of_heap hS)).trans hS
    refine hK.out _ _ hS1 (fun hHeld => ?_)
    clear hK K hHeld
    (try simp only [Act.put, List.setIfInBounds_toArray, List.set_cons_zero, List.set_cons_succ])
    exact L0_b X HQ V.heap.size (V.alloc (.cells #[.string ⟨#[]⟩, .float .f64 0, .map none] 97)) (hB.trans (bn.mono hB.size)) hS1 (heap_alloc_new V _) hB.size
  refine AllReadyH.cons (o := { dst := some 11, op := Op.alloc 87, type := 0, pos := "reading.go:26", after := #[], guard := none }) rfl (fun K hK => ?_) AllReadyH.nil
  go_simp
  have bn : Below V.heap.size V (V.alloc (.cells #[.slice none 0 0, .map none, .slice none 0 0, .map none] 87)) := (Below.refl _ _).alloc (Nat.le_refl _) _
  have hS1 := (bn.block _ (lt_of_heap hS)).trans hS
  refine hK.out _ _ hS1 (fun hHeld => ?_)
  clear hK K hHeld
  (try simp only [Act.put, List.setIfInBounds_toArray, List.set_cons_zero, List.set_cons_succ])
  exact L0_c X HQ V.heap.size (V.alloc (.cells #[.slice none 0 0, .map none, .slice none 0 0, .map none] 87)) (hB.trans (bn.mono hB.size)) hS1 (heap_alloc_new V _) hB.size
end U
end Go.Proofs.Ytollaamlnddhcaa
set_option linter.unusedVariables false
set_option linter.unusedSimpArgs false
namespace Go.Proofs.Ytollaamlnddhcaa
open Go.RowKit Go.Maps
namespace U
theorem isIn_mem {α : Type} [DecidableEq α] {ms : List α} {k : α} : isIn ms k = true ↔ k ∈ ms := by simp [isIn]
theorem exc_isIn (xs : List X.K3) (t : X.K3) : exc xs t = isIn xs t := by
  rw [Bool.eq_iff_iff, isIn_mem]
  unfold exc exq
  rw [List.any_eq_true]
  constructor
  · rintro ⟨z, hz, h⟩
    simp only [Bool.and_eq_true, decide_eq_true_eq] at h
    have e : z = t := Prod.ext h.1.1 (Prod.ext h.1.2 h.2)
    exact e ▸ hz
  · intro h
    exact ⟨t, h, by simp⟩
theorem mem_pls (al l : List ByteArray) (z : Int) : z ∈ pls al l ↔ ∃ a ∈ l, ∃ i : Nat, al[i]? = some a ∧ z = (i : Int) := by
  unfold pls
  rw [List.mem_flatMap]
  constructor
  · rintro ⟨a, h1, h2⟩; exact ⟨a, h1, (Pl.mem_plc al a z).1 h2⟩
  · rintro ⟨a, h1, h2⟩; exact ⟨a, h1, (Pl.mem_plc al a z).2 h2⟩
/-- what is said of a place -/
def vl (iso : ByteArray → Bool) (k : Int) (x : Int) (ds : List (ByteArray × Int × List Int)) : Int := ds.foldl (fun m d => if (iso d.1 && d.2.2.contains k) = true then max m d.2.1 else m) x
theorem up1_at (s : Int) (l : List Int) (z : Int) (k : Nat) (hz : 0 ≤ z) : (up1 s l z)[k]? = l[k]?.map (fun x => if z = (k : Int) then max x s else x) := by
  unfold up1
  rw [List.getElem?_set]
  by_cases e : z.toNat = k
  · have e2 : z = (k : Int) := by omega
    subst e
    by_cases hl : z.toNat < l.length
    · have q : l[z.toNat]? = some l[z.toNat] := List.getElem?_eq_getElem hl
      simp [hl, q, List.getD, ← e2]
    · simp [hl]
  · have e2 : ¬ z = (k : Int) := by omega
    simp [e, e2]
theorem upk_at (s : Int) (l ks : List Int) (k : Nat) (hk : ∀ z ∈ ks, 0 ≤ z) : (upk s l ks)[k]? = l[k]?.map (fun x => if ks.contains (k : Int) = true then max x s else x) := by
  induction ks generalizing l with
  | nil => simp [upk]
  | cons z ks ih =>
    have e : upk s l (z :: ks) = upk s (up1 s l z) ks := rfl
    rw [e, ih _ (fun y hy => hk y (by simp [hy])), up1_at s l z k (hk z (by simp)), Option.map_map]
    congr 1
    funext x
    simp only [Function.comp, List.contains_cons]
    by_cases h1 : z = (k : Int)
    · subst h1
      by_cases h2 : ks.contains (k : Int) = true
      · simp [h2]
      · simp [h2]
    · have h3 : ((k : Int) == z) = false := by simp; omega
      simp [h1, h3]
theorem sdl_at (iso : ByteArray → Bool) (l : List Int) (ds : List (ByteArray × Int × List Int)) (k : Nat) (hk : ∀ d ∈ ds, ∀ z ∈ d.2.2, 0 ≤ z) : (sdl iso l ds)[k]? = l[k]?.map (fun x => vl iso (k : Int) x ds) := by
  induction ds generalizing l with
  | nil => simp [sdl, vl]
  | cons d ds ih =>
    have e : sdl iso l (d :: ds) = sdl iso (if iso d.1 then upk d.2.1 l d.2.2 else l) ds := rfl
    rw [e, ih _ (fun y hy => hk y (by simp [hy]))]
    cases hi : iso d.1 with
    | false =>
      have e2 : ∀ x, vl iso (k : Int) x (d :: ds) = vl iso (k : Int) x ds := fun x => by simp [vl, hi]
      simp [e2]
    | true =>
      have e2 : ∀ x, vl iso (k : Int) x (d :: ds) = vl iso (k : Int) (if d.2.2.contains (k : Int) = true then max x d.2.1 else x) ds := fun x => by simp [vl, hi]
      rw [if_pos rfl, upk_at _ _ _ _ (hk d (by simp)), Option.map_map]
      congr 1
      funext x
      rw [e2]
      rfl
def hit (iso : ByteArray → Bool) (k s : Int) (ds : List (ByteArray × Int × List Int)) : Bool := ds.any (fun d => iso d.1 && d.2.2.contains k && d.2.1 == s)
theorem vl_one (iso : ByteArray → Bool) (k x : Int) (ds : List (ByteArray × Int × List Int)) (hx : x = 0 ∨ x = 1 ∨ x = 2) (hs : ∀ d ∈ ds, d.2.1 = 1 ∨ d.2.1 = 2) : (vl iso k x ds == 1) = (!(x == 2) && !hit iso k 2 ds && (x == 1 || hit iso k 1 ds)) := by
  induction ds generalizing x with
  | nil => rcases hx with rfl | rfl | rfl <;> rfl
  | cons d ds ih =>
    have hc : ∀ s, hit iso k s (d :: ds) = ((iso d.1 && d.2.2.contains k && d.2.1 == s) || hit iso k s ds) := fun s => rfl
    have e : vl iso k x (d :: ds) = vl iso k (if (iso d.1 && d.2.2.contains k) = true then max x d.2.1 else x) ds := rfl
    have hs' : ∀ d ∈ ds, d.2.1 = 1 ∨ d.2.1 = 2 := fun y hy => hs y (by simp [hy])
    rw [e, hc, hc]
    generalize (iso d.1 && d.2.2.contains k) = b
    cases b with
    | false => rw [if_neg (by simp), ih x hx hs']; simp
    | true =>
      rw [if_pos rfl]
      have hd := hs d (by simp)
      generalize d.2.1 = s at *
      generalize hit iso k 2 ds = h2 at *
      generalize hit iso k 1 ds = h1 at *
      rcases hx with rfl | rfl | rfl <;> rcases hd with rfl | rfl
      all_goals (rw [ih _ (by decide) hs']; cases h1 <;> cases h2 <;> decide)
/-- the places, among some actions, of those that are allowed -/
def plw (F : Pf) (ts to : ByteArray) (al : List ByteArray) : List Int := ((List.range al.length).filter (fun k => alw F ts to (al.getD k ⟨#[]⟩))).map (fun i : Nat => (i : Int))
/-- what the party of a subject tells of a rule -/
def sbj (P : Po) (ts : ByteArray) (R : Ru) : Bool := match tru P.sl ts with | some t => isIn (N.clo (P.m.2.2 ++ P.i.2.2) ts) R.who && M.pass R.cd R.lv t | none => false
def obj (P : Po) (to s : ByteArray) : Bool := isIn P.ol to && isIn (N.clo (P.p.2.2 ++ P.w.2.2) to) s
theorem contains_pls {al : List ByteArray} {k : Nat} {a : ByteArray} (ha : al[k]? = some a) (rl : List ByteArray) : (pls al (acts al rl)).contains (k : Int) = (rl.isEmpty || isIn rl a) := by
  rw [Bool.eq_iff_iff, List.contains_iff_mem, mem_pls]
  constructor
  · rintro ⟨b, hb, i, hi, e⟩
    have e2 : k = i := by omega
    subst e2
    rw [ha] at hi
    cases hi
    unfold acts at hb
    split at hb
    · rename_i q; rw [q]; rfl
    · rw [isIn_yes hb]; simp
  · intro h
    refine ⟨a, ?_, k, ha, rfl⟩
    unfold acts
    split
    · exact List.mem_of_getElem? ha
    · rename_i q
      have e : rl.isEmpty = false := by cases rl with | nil => exact absurd rfl q | cons b r => rfl
      rw [e] at h
      exact isIn_mem.1 (by simpa using h)
theorem hit_any {al : List ByteArray} {is iso : ByteArray → Bool} {tr : Nat} (us : List Ru) {k : Nat} {a : ByteArray} (ha : al[k]? = some a) (dn : Bool) : hit iso (k : Int) (if dn then 2 else 1) (ruls al is tr us) = us.any (fun R => abt is tr R && (iso R.what && (R.rl.isEmpty || isIn R.rl a)) && (den R == dn)) := by
  unfold hit ruls
  rw [List.any_map, List.any_filter]
  congr 1
  funext R
  have e : (pls al (acts al R.rl)).contains (k : Int) = (R.rl.isEmpty || isIn R.rl a) := contains_pls ha R.rl
  have e3 : ((if den R then (2 : Int) else 1) == (if dn then 2 else 1)) = (den R == dn) := by cases den R <;> cases dn <;> rfl
  simp only [Function.comp, rul, e, e3]
  cases abt is tr R <;> simp
theorem res_plw {F : Pf} {ts to z1 z2 : ByteArray} {al : List ByteArray} {is iso : ByteArray → Bool} {tr : Nat} (h1 : ∀ R, abt is tr R = sbj F.po ts R) (h2 : ∀ s, iso s = obj F.po to s) (n1 : tru F.po.sl ts ≠ none → z1 = ts) (n2 : isIn F.po.ol to = true → z2 = to) (hsub : ∀ a ∈ al, isIn F.po.al a = true) : resl (sdl iso (List.replicate al.length 0) (ruls al is tr F.u.2.2)) (fun k => isIn F.x.2.2 (z1, z2, al.getD k ⟨#[]⟩)) al.length = plw F ts to al := by
  unfold resl plw
  congr 1
  apply List.filter_congr
  intro k hk
  rw [List.mem_range] at hk
  obtain ⟨a, ha⟩ : ∃ a, al[k]? = some a := ⟨_, List.getElem?_eq_getElem hk⟩
  have hga : al.getD k ⟨#[]⟩ = a := by simp [List.getD, ha]
  have hpos : ∀ d ∈ ruls al is tr F.u.2.2, ∀ z ∈ d.2.2, 0 ≤ z := by
    intro d hd z hz
    unfold ruls at hd
    rw [List.mem_map] at hd
    obtain ⟨R, _, rfl⟩ := hd
    obtain ⟨b, _, i, _, e⟩ := (mem_pls al _ z).1 hz
    omega
  have hsy : ∀ d ∈ ruls al is tr F.u.2.2, d.2.1 = 1 ∨ d.2.1 = 2 := by
    intro d hd
    unfold ruls at hd
    rw [List.mem_map] at hd
    obtain ⟨R, _, rfl⟩ := hd
    unfold rul
    cases den R
    · exact .inl rfl
    · exact .inr rfl
  rw [sdl_at iso _ _ k hpos, List.getElem?_replicate, if_pos hk, hga]
  have e1 := vl_one iso (k : Int) 0 (ruls al is tr F.u.2.2) (.inl rfl) hsy
  have t2 := hit_any (is := is) (iso := iso) (tr := tr) F.u.2.2 ha true
  have t1 := hit_any (is := is) (iso := iso) (tr := tr) F.u.2.2 ha false
  have sy : ∀ dn R, (abt is tr R && (iso R.what && (R.rl.isEmpty || isIn R.rl a)) && (den R == dn)) = rsay F ts to a dn R := by
    intro dn R
    unfold rsay mtc
    rw [h1 R, h2 R.what, hsub a (List.mem_of_getElem? ha)]
    unfold sbj obj
    cases tru F.po.sl ts <;> cases (R.rl.isEmpty || isIn R.rl a) <;> simp
  have t2' : hit iso (k : Int) 2 (ruls al is tr F.u.2.2) = rany F ts to a true F.u.2.2 := by
    have q : hit iso (k : Int) 2 (ruls al is tr F.u.2.2) = _ := t2
    rw [q]
    unfold rany
    congr 1
    funext R
    exact sy true R
  have t1' : hit iso (k : Int) 1 (ruls al is tr F.u.2.2) = rany F ts to a false F.u.2.2 := by
    have q : hit iso (k : Int) 1 (ruls al is tr F.u.2.2) = _ := t1
    rw [q]
    unfold rany
    congr 1
    funext R
    exact sy false R
  rw [t2', t1'] at e1
  have e2 : (Option.map (fun x => vl iso (k : Int) x (ruls al is tr F.u.2.2)) (some (0 : Int)) == some 1) = (!rany F ts to a true F.u.2.2 && rany F ts to a false F.u.2.2) := by
    have e3 : (Option.map (fun x => vl iso (k : Int) x (ruls al is tr F.u.2.2)) (some (0 : Int)) == some 1) = (vl iso (k : Int) 0 (ruls al is tr F.u.2.2) == 1) := rfl
    rw [e3, e1]
    rfl
  rw [e2]
  unfold alw
  rw [exc_isIn]
  cases hr : rany F ts to a false F.u.2.2 with
  | false => simp
  | true =>
    unfold rany at hr
    rw [List.any_eq_true] at hr
    obtain ⟨R, _, hR⟩ := hr
    unfold rsay mtc at hR
    have hR' := hR
    have m1 : z1 = ts := n1 (fun q => by rw [q] at hR; simp at hR)
    have m2 : z2 = to := n2 (by
      cases q : isIn F.po.ol to with
      | true => rfl
      | false => rw [q] at hR; simp at hR)
    rw [m1, m2]
    simp [ha]
end U
end Go.Proofs.Ytollaamlnddhcaa
set_option linter.unusedVariables false
set_option linter.unusedSimpArgs false
namespace Go.Proofs.Ytollaamlnddhcaa
open Go.RowKit Go.Maps
namespace U
/-- the party of a subject, wherever it lies -/
def PJ (qs : List K2) (z : ByteArray) (ok : Prop) (tt : Nat → Prop) (v : Value) (V : World) : Prop := (∃ nb ms t, v = .agg #[.string z, .float .f64 t, .map (some nb)] ∧ Nset nb ms V ∧ (∀ y, y ∈ ms ↔ y ∈ N.clo qs z) ∧ tt t) ∨ (v = .agg #[.string ⟨#[]⟩, .float .f64 0, .map none] ∧ ok)
theorem PJ.turn {qs : List K2} {z : ByteArray} {ok : Prop} {tt : Nat → Prop} {v : Value} {V V' : World} {T : Nat → Prop} (h : PJ qs z ok tt v V) (t : Turn T V V') (hs : Soft T V) : PJ qs z ok tt v V' := by
  rcases h with ⟨nb, ms, tr, h1, h2, h3⟩ | h
  · refine .inl ⟨nb, ms, tr, h1, h2.turn t (fun q => ?_), h3⟩
    obtain ⟨c, ty, k, _⟩ := hs nb q
    obtain ⟨n, D, _, hm, _⟩ := h2
    exact map_ne k hm rfl
  · exact .inr h
theorem PJ.form {qs : List K2} {z : ByteArray} {ok : Prop} {tt : Nat → Prop} {v : Value} {V : World} (h : PJ qs z ok tt v V) : ∃ z r mo, v = .agg #[.string z, .float .f64 r, .map mo] := by
  rcases h with ⟨nb, ms, tr, h1, _⟩ | ⟨h, _⟩
  · exact ⟨_, _, _, h1⟩
  · exact ⟨_, _, _, h⟩
/-- a reading, wherever it lies -/
def RJ (F : Pf) (ao : Option Addr) (ac : Nat) (al : List ByteArray) (v : Value) (V : World) : Prop := ∃ qp qx B f, v = .agg #[.slice ao al.length ac, .map (some qp), .slice F.u.1 F.u.2.2.length F.u.2.1, .map (some qx)] ∧ Pl.Lm qp B al f V ∧ X.Tset qx F.x.2.2 V
theorem RJ.turn {F : Pf} {ao : Option Addr} {ac : Nat} {al : List ByteArray} {v : Value} {V V' : World} {T : Nat → Prop} (h : RJ F ao ac al v V) (t : Turn T V V') (hs : Soft T V) : RJ F ao ac al v V' := by
  obtain ⟨qp, qx, B, f, h1, h2, h3⟩ := h
  refine ⟨qp, qx, B, f, h1, h2.turn t (fun q => ?_) (fun j r q => ?_), h3.turn t (fun q => ?_)⟩
  · obtain ⟨c, ty, k, _⟩ := hs _ q
    obtain ⟨D, hm, _⟩ := h2.map
    exact map_ne k hm rfl
  · obtain ⟨c, ty, k, hty⟩ := hs _ q
    obtain ⟨k', ⟨g, l, cc⟩, e1, e2⟩ := r
    obtain ⟨cur, kk⟩ := Pl.kindI (h2.each k' g l cc e1).2 ⟨_, rfl, rfl⟩
    have e3 : j = g := e2
    rw [e3] at k
    exact cells_ne kk k (by rcases hty with e | e <;> rw [e] <;> decide) rfl
  · obtain ⟨c, ty, k, _⟩ := hs _ q
    obtain ⟨n, D, _, hm, _⟩ := h3
    exact map_ne k hm rfl
/-- what 'is' of such a party tells -/
theorem PJ.is {qs : List K2} {z : ByteArray} {ok : Prop} {tt : Nat → Prop} {z1 : ByteArray} {r1 : Nat} {m1 : Option Nat} {V : World} (h : PJ qs z ok tt (.agg #[.string z1, .float .f64 r1, .map m1]) V) : ∃ is : ByteArray → Bool, IsOf z1 r1 (.map m1) is V ∧ ((z1 = z ∧ tt r1 ∧ ∀ s, is s = isIn (N.clo qs z) s) ∨ (z1 = ⟨#[]⟩ ∧ ok ∧ ∀ s, is s = false)) := by
  rcases h with ⟨nb, ms, t, h1, h2, h3, h4⟩ | ⟨h1, h2⟩
  · have e : z1 = z ∧ r1 = t ∧ m1 = some nb := by simpa using h1
    obtain ⟨rfl, rfl, rfl⟩ := e
    exact ⟨isIn ms, fun V' s hs b => is_any _ _ _ _ _ _ (h2.turn (turn_below (S := fun _ => False) b) id) hs, .inl ⟨rfl, h4, fun s => isIn_iff h3 s⟩⟩
  · have e : z1 = ⟨#[]⟩ ∧ r1 = 0 ∧ m1 = none := by simpa using h1
    obtain ⟨rfl, rfl, rfl⟩ := e
    exact ⟨fun _ => false, fun V' s hs b => is_none _ _ _ _ hs, .inr ⟨rfl, h2, fun s => rfl⟩⟩
theorem IsOf.below {z : ByteArray} {t : Nat} {mv : Value} {is : ByteArray → Bool} {w w' : World} (h : IsOf z t mv is w) (b : Below w.heap.size w w') : IsOf z t mv is w' := fun V s hs q => h V s hs (b.trans (q.mono b.size))
/-- what allowed tells -/
def AlwIs (F : Pf) (ts to : ByteArray) (al : List ByteArray) (w : World) (e : Ending) (w' : World) : Prop := ∃ po pc, e = .returned (.slice po (plw F ts to al).length pc) ∧ I.RowI w.heap.size po pc (plw F ts to al) w' ∧ Below w.heap.size w w'
theorem ruls_fine {al : List ByteArray} {is : ByteArray → Bool} {tr : Nat} {us : List Ru} {rs : List Rl} (h : rs.map Rl.dat = ruls al is tr us) (hal : al.length ≤ 1048576) (hu : ∀ R ∈ us, S.okk R.what ∧ R.rl.length ≤ 1048576) : rs.length ≤ us.length ∧ ∀ r ∈ rs, r.ps.length ≤ 4398046511104 ∧ S.okk r.wh ∧ ∀ k ∈ r.ps, ∃ i : Nat, k = (i : Int) ∧ i < al.length := by
  refine ⟨?_, fun r hr => ?_⟩
  · have e := congrArg List.length h
    rw [List.length_map] at e
    rw [e]
    unfold ruls
    rw [List.length_map]
    exact List.length_filter_le _ _
  · have hm : r.dat ∈ ruls al is tr us := by rw [← h]; exact List.mem_map_of_mem hr
    unfold ruls at hm
    rw [List.mem_map] at hm
    obtain ⟨R, hR, e⟩ := hm
    have hRu := hu R (List.mem_filter.1 hR).1
    have e1 : r.wh = R.what := (congrArg (fun d => d.1) e).symm
    have e2 : r.ps = pls al (acts al R.rl) := (congrArg (fun d => d.2.2) e).symm
    rw [e1, e2]
    refine ⟨?_, hRu.1, fun k hk => ?_⟩
    · have h1 := pls_len al (acts al R.rl)
      have h2 : (acts al R.rl).length ≤ 1048576 := by unfold acts; split <;> first | exact hal | exact hRu.2
      have h3 := Nat.mul_le_mul h2 hal
      omega
    · obtain ⟨a, _, i, hi, e⟩ := (mem_pls al _ k).1 hk
      exact ⟨i, e, (List.getElem?_eq_some_iff.1 hi).1⟩
set_option maxRecDepth 100000 in
set_option maxHeartbeats 4000000 in
theorem allowed_any (F : Pf) (ts to : ByteArray) (ao : Option Addr) (ac : Nat) (al : List ByteArray) (w : World) (h : F.In w) (hs : F.Small) (hps : F.po.Small) (hz : ts.size ≤ 1048576 ∧ to.size ≤ 1048576) (ha : S.Ints ao al w) (hac : al.length ≤ ac) (hal : al.length ≤ 1048576) (hak : ∀ a ∈ al, S.okk a) (hsub : ∀ a ∈ al, isIn F.po.al a = true) (hxk : ∀ t ∈ F.x.2.2, X.okk t) (hu : ∀ R ∈ F.u.2.2, S.okk R.who ∧ S.okk R.what ∧ ∀ a ∈ R.rl, S.okk a) : Calls Try.prog 52 #[.agg #[.slice F.a.1 F.a.2.2.length F.a.2.1, .slice F.s.1 F.s.2.2.length F.s.2.1, .slice F.r.1 F.r.2.2.length F.r.2.1, .slice F.o.1 F.o.2.2.length F.o.2.1, .slice F.g.1 F.g.2.2.length F.g.2.1, .slice F.m.1 F.m.2.2.length F.m.2.1, .slice F.i.1 F.i.2.2.length F.i.2.1, .slice F.p.1 F.p.2.2.length F.p.2.1, .slice F.w.1 F.w.2.2.length F.w.2.1, .slice F.u.1 F.u.2.2.length F.u.2.1, .slice F.x.1 F.x.2.2.length F.x.2.1], .string ts, .string to, .slice ao al.length ac] w fun e w' => AlwIs F ts to al w e w' := by
  have hPv : F.po.val = .agg #[.slice F.a.1 F.a.2.2.length F.a.2.1, .slice F.s.1 F.s.2.2.length F.s.2.1, .slice F.r.1 F.r.2.2.length F.r.2.1, .slice F.o.1 F.o.2.2.length F.o.2.1, .slice F.g.1 F.g.2.2.length F.g.2.1, .slice F.m.1 F.m.2.2.length F.m.2.1, .slice F.i.1 F.i.2.2.length F.i.2.1, .slice F.p.1 F.p.2.2.length F.p.2.1, .slice F.w.1 F.w.2.2.length F.w.2.1, .slice F.u.1 F.u.2.2.length F.u.2.1, .slice F.x.1 F.x.2.2.length F.x.2.1] := rfl
  have X : Cx w (.agg #[.slice F.a.1 F.a.2.2.length F.a.2.1, .slice F.s.1 F.s.2.2.length F.s.2.1, .slice F.r.1 F.r.2.2.length F.r.2.1, .slice F.o.1 F.o.2.2.length F.o.2.1, .slice F.g.1 F.g.2.2.length F.g.2.1, .slice F.m.1 F.m.2.2.length F.m.2.1, .slice F.i.1 F.i.2.2.length F.i.2.1, .slice F.p.1 F.p.2.2.length F.p.2.1, .slice F.w.1 F.w.2.2.length F.w.2.1, .slice F.u.1 F.u.2.2.length F.u.2.1, .slice F.x.1 F.x.2.2.length F.x.2.1]) ts to (.slice ao al.length ac) (PJ (F.po.m.2.2 ++ F.po.i.2.2) ts (tru F.po.sl ts = none) (fun t => tru F.po.sl ts = some t)) (PJ (F.po.p.2.2 ++ F.po.w.2.2) to (isIn F.po.ol to = false) (fun _ => isIn F.po.ol to = true)) (RJ F ao ac al) := by
    refine ⟨fun v V V' T j t s => j.turn t s, fun v V V' T j t s => j.turn t s, fun v V V' T j t s => j.turn t s, fun V b => ?_, fun V b => ?_, fun V b => ?_, fun v V j => j.form, fun v V j => j.form, fun v V j => ?_⟩
    · rw [← hPv]
      refine (subjectOf_any F.po ts V (h.below b).po hps hz.1).mono ?_
      rintro e w' (⟨t, h1, nb, ms, rfl, _, h3, h4, h5⟩ | ⟨h1, rfl, h5⟩)
      · exact ⟨_, rfl, .inl ⟨nb, ms, t, rfl, h3, h4, h1⟩, h5⟩
      · exact ⟨_, rfl, .inr ⟨rfl, h1⟩, h5⟩
    · rw [← hPv]
      refine (objectOf_any F.po to V (h.below b).po hps hz.2).mono ?_
      rintro e w' (⟨h1, nb, ms, rfl, _, h3, h4, h5⟩ | ⟨h1, rfl, h5⟩)
      · exact ⟨_, rfl, .inl ⟨nb, ms, 0, rfl, h3, h4, h1⟩, h5⟩
      · exact ⟨_, rfl, .inr ⟨rfl, h1⟩, h5⟩
    · refine (read_any F ao ac al V (h.below b) hs (ha.below b) hac hal hak hxk).mono ?_
      rintro e w' ⟨qp, qx, f, rfl, h1, h2, _, h5⟩
      exact ⟨_, rfl, ⟨qp, qx, _, f, rfl, h1, h2⟩, h5⟩
    · obtain ⟨qp, qx, B, f, rfl, _⟩ := j
      exact ⟨_, _, _, _, _, _, _, _, rfl⟩
  have HX := hide' X
  have H := hide' h
  have Hs := hide' hs
  have Hz := hide' hz
  have HA := hide' ha
  have HK := hide' hak
  have HS := hide' hsub
  have HU := hide' hu
  have hRl : Hid (∀ R ∈ F.u.2.2, S.okk R.what ∧ R.rl.length ≤ 1048576) := fun R hR => ⟨(hu R hR).2.1, (h.u.1.2 R hR).2.2⟩
  have hul : Hid (F.u.2.2.length ≤ 1048576) := hs.u
  have HP := hide' hPv
  clear X h hs hps hz ha hak hsub hu hPv hxk
  go_enter Try.func52, Try.ntmps52
  go_wp2_with fail
  have hq4 := heap_alloc_new w (.cells #[.slice F.a.1 F.a.2.2.length F.a.2.1, .slice F.s.1 F.s.2.2.length F.s.2.1, .slice F.r.1 F.r.2.2.length F.r.2.1, .slice F.o.1 F.o.2.2.length F.o.2.1, .slice F.g.1 F.g.2.2.length F.g.2.1, .slice F.m.1 F.m.2.2.length F.m.2.1, .slice F.i.1 F.i.2.2.length F.i.2.1, .slice F.p.1 F.p.2.2.length F.p.2.1, .slice F.w.1 F.w.2.2.length F.w.2.1, .slice F.u.1 F.u.2.2.length F.u.2.1, .slice F.x.1 F.x.2.2.length F.x.2.1] 28)
  have hbV : Below w.heap.size w (w.alloc (.cells #[.slice F.a.1 F.a.2.2.length F.a.2.1, .slice F.s.1 F.s.2.2.length F.s.2.1, .slice F.r.1 F.r.2.2.length F.r.2.1, .slice F.o.1 F.o.2.2.length F.o.2.1, .slice F.g.1 F.g.2.2.length F.g.2.1, .slice F.m.1 F.m.2.2.length F.m.2.1, .slice F.i.1 F.i.2.2.length F.i.2.1, .slice F.p.1 F.p.2.2.length F.p.2.1, .slice F.w.1 F.w.2.2.length F.w.2.1, .slice F.u.1 F.u.2.2.length F.u.2.1, .slice F.x.1 F.x.2.2.length F.x.2.1] 28)) := (Below.refl _ _).alloc (Nat.le_refl _) _
  generalize w.alloc (.cells #[.slice F.a.1 F.a.2.2.length F.a.2.1, .slice F.s.1 F.s.2.2.length F.s.2.1, .slice F.r.1 F.r.2.2.length F.r.2.1, .slice F.o.1 F.o.2.2.length F.o.2.1, .slice F.g.1 F.g.2.2.length F.g.2.1, .slice F.m.1 F.m.2.2.length F.m.2.1, .slice F.i.1 F.i.2.2.length F.i.2.1, .slice F.p.1 F.p.2.2.length F.p.2.1, .slice F.w.1 F.w.2.2.length F.w.2.1, .slice F.u.1 F.u.2.2.length F.u.2.1, .slice F.x.1 F.x.2.2.length F.x.2.1] 28) = V at *
  obtain ⟨q4, hq⟩ : ∃ q4, q4 = w.heap.size := ⟨_, rfl⟩
  rw [← hq] at hq4
  rw [← hq]
  clear hq
  have hdr : Below V.heap.size V V.drew := ⟨rfl, rfl, rfl, Nat.le_refl _, fun _ _ => rfl⟩
  refine wp_region_held_drew (S := fun V => V.heap[q4]? = some (.cells #[.slice F.a.1 F.a.2.2.length F.a.2.1, .slice F.s.1 F.s.2.2.length F.s.2.1, .slice F.r.1 F.r.2.2.length F.r.2.1, .slice F.o.1 F.o.2.2.length F.o.2.1, .slice F.g.1 F.g.2.2.length F.g.2.1, .slice F.m.1 F.m.2.2.length F.m.2.1, .slice F.i.1 F.i.2.2.length F.i.2.1, .slice F.p.1 F.p.2.2.length F.p.2.1, .slice F.w.1 F.w.2.2.length F.w.2.1, .slice F.u.1 F.u.2.2.length F.u.2.1, .slice F.x.1 F.x.2.2.length F.x.2.1] 28 (0, 0))) (by kernel_rfl) hq4 (fun hHeld => ?_)
  refine wpAnyH_take (i := 0) (oi := { dst := some 12, op := Op.load 28 (Operand.tmp 4), type := 28, pos := "reading.go:26", after := #[], guard := none }) (v := .agg #[.slice F.a.1 F.a.2.2.length F.a.2.1, .slice F.s.1 F.s.2.2.length F.s.2.1, .slice F.r.1 F.r.2.2.length F.r.2.1, .slice F.o.1 F.o.2.2.length F.o.2.1, .slice F.g.1 F.g.2.2.length F.g.2.1, .slice F.m.1 F.m.2.2.length F.m.2.1, .slice F.i.1 F.i.2.2.length F.i.2.1, .slice F.p.1 F.p.2.2.length F.p.2.1, .slice F.w.1 F.w.2.2.length F.w.2.1, .slice F.u.1 F.u.2.2.length F.u.2.1, .slice F.x.1 F.x.2.2.length F.x.2.1]) rfl (by kernel_rfl) (by kernel_rfl) (by kernel_rfl) (fun _ _ _ h => h) (Or.inl ⟨by kernel_rfl, fun w hSw => ?_⟩) (by assumption) ?_
  · exact ex_row 28 _ rfl q4 rfl 28 _ (0, 0) _ hSw Try.underlying28 rfl (by kernel_rfl)
  (try simp only [Act.put, List.setIfInBounds_toArray, List.set_cons_zero, List.set_cons_succ])
  refine wpAnyH_take (i := 1) (oi := { dst := some 13, op := Op.move (Operand.tmp 1), type := 9, pos := "reading.go:26", after := #[], guard := none }) (v := .string ts) rfl (by kernel_rfl) (by kernel_rfl) (by kernel_rfl) (fun _ _ _ h => h) (Or.inl ⟨by kernel_rfl, fun w hSw => ?_⟩) (by assumption) ?_
  · clear hSw; go_simp
  (try simp only [Act.put, List.setIfInBounds_toArray, List.set_cons_zero, List.set_cons_succ])
  refine wpAnyH_take (i := 3) (oi := { dst := some 15, op := Op.load 28 (Operand.tmp 4), type := 28, pos := "reading.go:26", after := #[], guard := none }) (v := .agg #[.slice F.a.1 F.a.2.2.length F.a.2.1, .slice F.s.1 F.s.2.2.length F.s.2.1, .slice F.r.1 F.r.2.2.length F.r.2.1, .slice F.o.1 F.o.2.2.length F.o.2.1, .slice F.g.1 F.g.2.2.length F.g.2.1, .slice F.m.1 F.m.2.2.length F.m.2.1, .slice F.i.1 F.i.2.2.length F.i.2.1, .slice F.p.1 F.p.2.2.length F.p.2.1, .slice F.w.1 F.w.2.2.length F.w.2.1, .slice F.u.1 F.u.2.2.length F.u.2.1, .slice F.x.1 F.x.2.2.length F.x.2.1]) rfl (by kernel_rfl) (by kernel_rfl) (by kernel_rfl) (fun _ _ _ h => h) (Or.inl ⟨by kernel_rfl, fun w hSw => ?_⟩) (by assumption) ?_
  · exact ex_row 28 _ rfl q4 rfl 28 _ (0, 0) _ hSw Try.underlying28 rfl (by kernel_rfl)
  (try simp only [Act.put, List.setIfInBounds_toArray, List.set_cons_zero, List.set_cons_succ])
  refine wpAnyH_take (i := 4) (oi := { dst := some 16, op := Op.move (Operand.tmp 2), type := 9, pos := "reading.go:26", after := #[], guard := none }) (v := .string to) rfl (by kernel_rfl) (by kernel_rfl) (by kernel_rfl) (fun _ _ _ h => h) (Or.inl ⟨by kernel_rfl, fun w hSw => ?_⟩) (by assumption) ?_
  · clear hSw; go_simp
  (try simp only [Act.put, List.setIfInBounds_toArray, List.set_cons_zero, List.set_cons_succ])
  refine wpAnyH_take (i := 6) (oi := { dst := some 18, op := Op.load 28 (Operand.tmp 4), type := 28, pos := "reading.go:26", after := #[], guard := none }) (v := .agg #[.slice F.a.1 F.a.2.2.length F.a.2.1, .slice F.s.1 F.s.2.2.length F.s.2.1, .slice F.r.1 F.r.2.2.length F.r.2.1, .slice F.o.1 F.o.2.2.length F.o.2.1, .slice F.g.1 F.g.2.2.length F.g.2.1, .slice F.m.1 F.m.2.2.length F.m.2.1, .slice F.i.1 F.i.2.2.length F.i.2.1, .slice F.p.1 F.p.2.2.length F.p.2.1, .slice F.w.1 F.w.2.2.length F.w.2.1, .slice F.u.1 F.u.2.2.length F.u.2.1, .slice F.x.1 F.x.2.2.length F.x.2.1]) rfl (by kernel_rfl) (by kernel_rfl) (by kernel_rfl) (fun _ _ _ h => h) (Or.inl ⟨by kernel_rfl, fun w hSw => ?_⟩) (by assumption) ?_
  · exact ex_row 28 _ rfl q4 rfl 28 _ (0, 0) _ hSw Try.underlying28 rfl (by kernel_rfl)
  (try simp only [Act.put, List.setIfInBounds_toArray, List.set_cons_zero, List.set_cons_succ])
  refine wpAnyH_take (i := 7) (oi := { dst := some 19, op := Op.move (Operand.tmp 3), type := 22, pos := "reading.go:26", after := #[], guard := none }) (v := .slice ao al.length ac) rfl (by kernel_rfl) (by kernel_rfl) (by kernel_rfl) (fun _ _ _ h => h) (Or.inl ⟨by kernel_rfl, fun w hSw => ?_⟩) (by assumption) ?_
  · clear hSw; go_simp
  (try simp only [Act.put, List.setIfInBounds_toArray, List.set_cons_zero, List.set_cons_succ])
  refine L0_0 HX.out ?_ V.drew (hbV.trans (hdr.mono hbV.size)) hq4
  clear hq4 hbV hdr hHeld V
  intro z1 r1 o1 z2 r2 o2 xo xn xc xp uo ul uc xx b9 b10 b11 V j1 j2 j3 h9 h10 h11 hB
  obtain ⟨qp, qx, B, f, e3, hL, hT⟩ := j3
  have e : xo = ao ∧ xn = al.length ∧ xc = ac ∧ xp = some qp ∧ uo = F.u.1 ∧ ul = F.u.2.2.length ∧ uc = F.u.2.1 ∧ xx = some qx := by simpa [and_assoc] using e3
  clear e3
  obtain ⟨rfl, rfl, rfl, rfl, rfl, rfl, rfl, rfl⟩ := e
  obtain ⟨is, hIs, hc1⟩ := j1.is
  obtain ⟨iso, hIo, hc2⟩ := j2.is
  have KT : Hid (∀ W', Below V.heap.size V W' → W'.heap[b9]? = some (.cells #[.string z1, .float .f64 r1, .map o1] 97 (0, 0)) ∧ W'.heap[b10]? = some (.cells #[.string z2, .float .f64 r2, .map o2] 97 (0, 0)) ∧ W'.heap[b11]? = some (.cells #[.slice xo al.length xc, .map (some qp), .slice F.u.1 F.u.2.2.length F.u.2.1, .map (some qx)] 87 (0, 0))) := fun W' b => ⟨(b.block _ (lt_of_heap h9)).trans h9, (b.block _ (lt_of_heap h10)).trans h10, (b.block _ (lt_of_heap h11)).trans h11⟩
  have BT : Hid (∀ W', Below V.heap.size V W' → Below w.heap.size w W') := fun W' b => hB.trans (b.mono hB.size)
  have hok : Hid (∀ a ∈ al, X.okk (z1, z2, a)) := fun a ha => by
    have q := HK.out a ha
    have m0 : (⟨#[]⟩ : ByteArray).size ≤ 1048576 := Nat.zero_le _
    have k1 : z1.size ≤ 1048576 := by rcases hc1 with ⟨e, _⟩ | ⟨e, _⟩ <;> rw [e]; all_goals (first | exact Hz.out.1 | exact m0)
    have k2 : z2.size ≤ 1048576 := by rcases hc2 with ⟨e, _⟩ | ⟨e, _⟩ <;> rw [e]; all_goals (first | exact Hz.out.2 | exact m0)
    exact ⟨okk_of k1, okk_of k2, q⟩
  have h1 : Hid (∀ R, abt is r1 R = sbj F.po ts R) := fun R => by
    unfold abt sbj
    rcases hc1 with ⟨_, e, q⟩ | ⟨_, e, q⟩
    · rw [e, q]
    · rw [e, q]; rfl
  have h2 : Hid (∀ s, iso s = obj F.po to s) := fun s => by
    unfold obj
    rcases hc2 with ⟨_, e, q⟩ | ⟨_, e, q⟩
    · rw [e, q]; rfl
    · rw [e, q]; rfl
  have n1 : Hid (tru F.po.sl ts ≠ none → z1 = ts) := fun q => hc1.elim (fun r => r.1) (fun r => absurd r.2.1 q)
  have n2 : Hid (isIn F.po.ol to = true → z2 = to) := fun q => hc2.elim (fun r => r.1) (fun r => by rw [r.2.1] at q; cases q)
  have C68 : Hid (∀ W', Below V.heap.size V W' → Calls Try.prog 48 #[.agg #[.slice xo al.length xc, .map (some qp), .slice F.u.1 F.u.2.2.length F.u.2.1, .map (some qx)], .agg #[.string z1, .float .f64 r1, .map o1]] W' fun e w' => AbIs al is r1 F.u.2.2 W' e w') := fun W' b => rabout_any F xo xc al qp qx B f z1 r1 (.map o1) is W' (H.out.below (BT.out W' b)) Hs.out (hL.below b) (HA.out.below (BT.out W' b)) hac hal HK.out (fun R hR => ⟨(HU.out R hR).1, (HU.out R hR).2.2⟩) (hIs.below b)
  have C69 : Hid (∀ W' B' ro rc rs, Below V.heap.size V W' → Rls B' ro rc rs W' → rs.map Rl.dat = ruls al is r1 F.u.2.2 → Calls Try.prog 49 #[.agg #[.slice xo al.length xc, .map (some qp), .slice F.u.1 F.u.2.2.length F.u.2.1, .map (some qx)], .slice ro rs.length rc, .agg #[.string z1, .float .f64 r1, .map o1], .agg #[.string z2, .float .f64 r2, .map o2]] W' fun e w' => AlwIs F ts to al W' e w') := fun W' B' ro rc rs b hR hd => by
    have fine := ruls_fine hd hal hRl.out
    refine (allowedR_any F xo xc al qp qx B' F.x.2.2 ro rc rs z1 z2 r1 r2 (.map o1) (.map o2) iso W' (HA.out.below (BT.out W' b)) hac hal (hT.below b) hok.out hR (Nat.le_trans fine.1 hul.out) fine.2 (hIo.below b)).mono ?_
    rintro e w' ⟨po, pc, rfl, k1, k2⟩
    rw [hd, res_plw h1.out h2.out n1.out n2.out HS.out] at k1 ⊢
    exact ⟨po, pc, rfl, k1, k2⟩
  have hd : Below V.heap.size V V.drew := ⟨rfl, rfl, rfl, Nat.le_refl _, fun _ _ => rfl⟩
  clear hc1 hc2 hIs hIo j1 j2 h9 h10 h11 hL hT hB h1 h2 n1 n2 hok HX HP H Hs Hz HA HK HS HU hRl
  simp only [Exit.then]
  go_wp2_with fail
  refine wp_region_held_drew (S := fun W' => W'.heap[b9]? = some (.cells #[.string z1, .float .f64 r1, .map o1] 97 (0, 0)) ∧ W'.heap[b10]? = some (.cells #[.string z2, .float .f64 r2, .map o2] 97 (0, 0)) ∧ W'.heap[b11]? = some (.cells #[.slice xo al.length xc, .map (some qp), .slice F.u.1 F.u.2.2.length F.u.2.1, .map (some qx)] 87 (0, 0))) (by kernel_rfl) (KT.out _ hd) (fun hHeld => ?_)
  refine wpAnyH_take (i := 0) (oi := { dst := some 21, op := Op.load 87 (Operand.tmp 11), type := 87, pos := "reading.go:27", after := #[], guard := none }) (v := .agg #[.slice xo al.length xc, .map (some qp), .slice F.u.1 F.u.2.2.length F.u.2.1, .map (some qx)]) rfl (by kernel_rfl) (by kernel_rfl) (by kernel_rfl) (fun _ _ _ h => h) (Or.inl ⟨by kernel_rfl, fun w hSw => ?_⟩) (by assumption) ?_
  · exact ex_row 87 _ rfl b11 rfl 87 _ (0, 0) _ hSw.2.2 Try.underlying87 rfl (by kernel_rfl)
  (try simp only [Act.put, List.setIfInBounds_toArray, List.set_cons_zero, List.set_cons_succ])
  refine wpAnyH_take (i := 1) (oi := { dst := some 22, op := Op.load 87 (Operand.tmp 11), type := 87, pos := "reading.go:27", after := #[], guard := none }) (v := .agg #[.slice xo al.length xc, .map (some qp), .slice F.u.1 F.u.2.2.length F.u.2.1, .map (some qx)]) rfl (by kernel_rfl) (by kernel_rfl) (by kernel_rfl) (fun _ _ _ h => h) (Or.inl ⟨by kernel_rfl, fun w hSw => ?_⟩) (by assumption) ?_
  · exact ex_row 87 _ rfl b11 rfl 87 _ (0, 0) _ hSw.2.2 Try.underlying87 rfl (by kernel_rfl)
  (try simp only [Act.put, List.setIfInBounds_toArray, List.set_cons_zero, List.set_cons_succ])
  refine wpAnyH_take (i := 2) (oi := { dst := some 23, op := Op.load 97 (Operand.tmp 9), type := 97, pos := "reading.go:27", after := #[], guard := none }) (v := .agg #[.string z1, .float .f64 r1, .map o1]) rfl (by kernel_rfl) (by kernel_rfl) (by kernel_rfl) (fun _ _ _ h => h) (Or.inl ⟨by kernel_rfl, fun w hSw => ?_⟩) (by assumption) ?_
  · exact ex_row 97 _ rfl b9 rfl 97 _ (0, 0) _ hSw.1 Try.underlying97 rfl (by kernel_rfl)
  (try simp only [Act.put, List.setIfInBounds_toArray, List.set_cons_zero, List.set_cons_succ])
  refine wpAnyH_take (i := 4) (oi := { dst := some 25, op := Op.load 97 (Operand.tmp 9), type := 97, pos := "reading.go:27", after := #[], guard := none }) (v := .agg #[.string z1, .float .f64 r1, .map o1]) rfl (by kernel_rfl) (by kernel_rfl) (by kernel_rfl) (fun _ _ _ h => h) (Or.inl ⟨by kernel_rfl, fun w hSw => ?_⟩) (by assumption) ?_
  · exact ex_row 97 _ rfl b9 rfl 97 _ (0, 0) _ hSw.1 Try.underlying97 rfl (by kernel_rfl)
  (try simp only [Act.put, List.setIfInBounds_toArray, List.set_cons_zero, List.set_cons_succ])
  refine wpAnyH_take (i := 5) (oi := { dst := some 26, op := Op.load 97 (Operand.tmp 10), type := 97, pos := "reading.go:27", after := #[], guard := none }) (v := .agg #[.string z2, .float .f64 r2, .map o2]) rfl (by kernel_rfl) (by kernel_rfl) (by kernel_rfl) (fun _ _ _ h => h) (Or.inl ⟨by kernel_rfl, fun w hSw => ?_⟩) (by assumption) ?_
  · exact ex_row 97 _ rfl b10 rfl 97 _ (0, 0) _ hSw.2.1 Try.underlying97 rfl (by kernel_rfl)
  (try simp only [Act.put, List.setIfInBounds_toArray, List.set_cons_zero, List.set_cons_succ])
  refine wpAnyH_ready (rs := [3]) (by kernel_rfl) (by simp) ?_
  refine AllReadyH.cons (o := { dst := some 24, op := Op.call { callee := Callee.value (Operand.func 48), args := #[Operand.tmp 22, Operand.tmp 23], argTypes := #[87, 97] }, type := 99, pos := "reading.go:27", after := #[{ on := 1, ground := Ground.data }, { on := 2, ground := Ground.data }], guard := none }) rfl (fun K hK => ?_) AllReadyH.nil
  go_simp
  refine (C68.out _ hd).mono ?_
  rintro e x1 ⟨ro, rc, rs, rfl, hR1, hd1, t1⟩
  have d1 : Below V.heap.size V x1 := hd.trans (t1.mono hd.size)
  clear t1
  (try dsimp only)
  refine hK.out _ _ (KT.out _ d1) (fun hHeld => ?_)
  clear hK K
  (try simp only [Act.put, List.setIfInBounds_toArray, List.set_cons_zero, List.set_cons_succ])
  refine wpAnyH_ready (rs := [6]) (by kernel_rfl) (by simp) ?_
  refine AllReadyH.cons (o := { dst := some 27, op := Op.call { callee := Callee.value (Operand.func 49), args := #[Operand.tmp 21, Operand.tmp 24, Operand.tmp 25, Operand.tmp 26], argTypes := #[87, 99, 97, 97] }, type := 101, pos := "reading.go:27", after := #[{ on := 0, ground := Ground.data }, { on := 3, ground := Ground.data }, { on := 4, ground := Ground.data }, { on := 5, ground := Ground.data }, { on := 3, ground := Ground.chain }], guard := none }) rfl (fun K hK => ?_) AllReadyH.nil
  go_simp
  refine (C69.out _ _ ro rc rs d1 hR1 hd1).mono ?_
  rintro e x2 ⟨po, pc, rfl, hr2, t2⟩
  have d2 : Below V.heap.size V x2 := d1.trans (t2.mono d1.size)
  clear t2
  (try dsimp only)
  refine hK.out _ _ (KT.out _ d2) (fun hHeld => ?_)
  clear hK K
  (try simp only [Act.put, List.setIfInBounds_toArray, List.set_cons_zero, List.set_cons_succ])
  refine wpAnyH_take (i := 7) (oi := { dst := some 8, op := Op.assign (Operand.tmp 27), type := 101, pos := "reading.go:27", after := #[{ on := 6, ground := Ground.data }, { on := 6, ground := Ground.chain }, { on := 0, ground := Ground.phase }, { on := 1, ground := Ground.phase }, { on := 2, ground := Ground.phase }, { on := 3, ground := Ground.phase }, { on := 4, ground := Ground.phase }, { on := 5, ground := Ground.phase }, { on := 6, ground := Ground.phase }], guard := none }) (v := .slice po (plw F ts to al).length pc) rfl (by kernel_rfl) (by kernel_rfl) (by kernel_rfl) (fun _ _ _ h => h) (Or.inl ⟨by kernel_rfl, fun w hSw => ?_⟩) (by assumption) ?_
  · clear hSw; go_simp
  (try simp only [Act.put, List.setIfInBounds_toArray, List.set_cons_zero, List.set_cons_succ])
  refine wpAnyH_done (by kernel_rfl) ?_ _
  have fin : Hid (AlwIs F ts to al w (.returned (.slice po (plw F ts to al).length pc)) x2) := ⟨po, pc, rfl, hr2.mono (BT.out _ d1).size, BT.out _ d2⟩
  clear hHeld KT BT C68 C69 hd d1 d2 hr2
  go_wp2_with fail
  go_ret
  exact fin.out
end U
end Go.Proofs.Ytollaamlnddhcaa
set_option linter.unusedVariables false
set_option linter.unusedSimpArgs false
namespace Go.Proofs.Ytollaamlnddhcaa
open Go.RowKit Go.Maps
namespace U
theorem alw_no {F : Pf} {ts to ta : ByteArray} (h : isIn F.po.al ta = false) : alw F ts to ta = false := by
  have e : rany F ts to ta false F.u.2.2 = false := by
    unfold rany
    rw [List.any_eq_false]
    intro R _
    unfold rsay mtc
    rw [h]
    simp
  unfold alw
  rw [e]
  rfl
theorem plw_one (F : Pf) (ts to ta : ByteArray) : (plw F ts to [ta]).length = if alw F ts to ta then 1 else 0 := by
  unfold plw
  rw [List.length_map]
  have e : List.range [ta].length = [0] := rfl
  rw [e]
  cases h : alw F ts to ta
  · rw [List.filter_cons_of_neg (by simp [h])]; rfl
  · rw [List.filter_cons_of_pos (by simp [h])]; rfl
set_option maxRecDepth 100000 in
set_option maxHeartbeats 4000000 in
theorem allows_any (F : Pf) (ts to ta : ByteArray) (w : World) (h : F.In w) (hs : F.Small) (hps : F.po.Small) (hz : ts.size ≤ 1048576 ∧ to.size ≤ 1048576 ∧ ta.size ≤ 1048576) (hxk : ∀ t ∈ F.x.2.2, X.okk t) (hu : ∀ R ∈ F.u.2.2, S.okk R.who ∧ S.okk R.what ∧ ∀ a ∈ R.rl, S.okk a) : Calls Try.prog 26 #[.agg #[.slice F.a.1 F.a.2.2.length F.a.2.1, .slice F.s.1 F.s.2.2.length F.s.2.1, .slice F.r.1 F.r.2.2.length F.r.2.1, .slice F.o.1 F.o.2.2.length F.o.2.1, .slice F.g.1 F.g.2.2.length F.g.2.1, .slice F.m.1 F.m.2.2.length F.m.2.1, .slice F.i.1 F.i.2.2.length F.i.2.1, .slice F.p.1 F.p.2.2.length F.p.2.1, .slice F.w.1 F.w.2.2.length F.w.2.1, .slice F.u.1 F.u.2.2.length F.u.2.1, .slice F.x.1 F.x.2.2.length F.x.2.1], .agg #[.string ts, .string to, .string ta]] w fun e w' => e = .returned (.bool (alw F ts to ta)) ∧ Below w.heap.size w w' := by
  have C45 : Hid (∀ V, Below w.heap.size w V → Calls Try.prog 51 #[.slice F.a.1 F.a.2.2.length F.a.2.1, .string ta] V fun e w' => e = .returned (.bool (isIn F.a.2.2 ta)) ∧ Below V.heap.size V w') := fun V b => (S.contains_any F.a.1 F.a.2.1 F.a.2.2 ta V (h.below b).a.1 h.a.2.1 (by have := hs.a; show _ < _; omega)).mono (by rintro e w' ⟨rfl, rfl⟩; exact ⟨rfl, Below.refl _ _⟩)
  have C56 : Hid (isIn F.a.2.2 ta = true → ∀ V ab, Below w.heap.size w V → V.heap[ab]? = some (.cells #[.string ta] 9 (0, 0)) → Calls Try.prog 52 #[.agg #[.slice F.a.1 F.a.2.2.length F.a.2.1, .slice F.s.1 F.s.2.2.length F.s.2.1, .slice F.r.1 F.r.2.2.length F.r.2.1, .slice F.o.1 F.o.2.2.length F.o.2.1, .slice F.g.1 F.g.2.2.length F.g.2.1, .slice F.m.1 F.m.2.2.length F.m.2.1, .slice F.i.1 F.i.2.2.length F.i.2.1, .slice F.p.1 F.p.2.2.length F.p.2.1, .slice F.w.1 F.w.2.2.length F.w.2.1, .slice F.u.1 F.u.2.2.length F.u.2.1, .slice F.x.1 F.x.2.2.length F.x.2.1], .string ts, .string to, .slice (some ⟨ab, 0, none⟩) 1 1] V fun e w' => AlwIs F ts to [ta] V e w') := fun hin V ab b hab => allowed_any F ts to (some ⟨ab, 0, none⟩) 1 [ta] V (h.below b) hs hps ⟨hz.1, hz.2.1⟩ (.inr ⟨ab, 0, rfl, lt_of_heap hab, fun i k q => by
    cases i with
    | zero => simp at q; subst q; rw [Lib.cell_of_heap hab]; rfl
    | succ i => simp at q⟩) (Nat.le_refl _) (by simp) (fun a ha => by rw [List.mem_singleton] at ha; rw [ha]; exact okk_of hz.2.2) (fun a ha => by rw [List.mem_singleton] at ha; rw [ha]; exact hin) hxk hu
  have hno : Hid (isIn F.a.2.2 ta = false → alw F ts to ta = false) := fun q => alw_no q
  have hone := hide' (plw_one F ts to ta)
  clear h hs hps hz hxk hu
  go_enter Try.func26, Try.ntmps26
  have B0 := hide' (Bx.mk2 F ts to ta w)
  have e2 : ((w.alloc (.cells #[.slice F.a.1 F.a.2.2.length F.a.2.1, .slice F.s.1 F.s.2.2.length F.s.2.1, .slice F.r.1 F.r.2.2.length F.r.2.1, .slice F.o.1 F.o.2.2.length F.o.2.1, .slice F.g.1 F.g.2.2.length F.g.2.1, .slice F.m.1 F.m.2.2.length F.m.2.1, .slice F.i.1 F.i.2.2.length F.i.2.1, .slice F.p.1 F.p.2.2.length F.p.2.1, .slice F.w.1 F.w.2.2.length F.w.2.1, .slice F.u.1 F.u.2.2.length F.u.2.1, .slice F.x.1 F.x.2.2.length F.x.2.1] 28)).alloc (.cells #[.string ts, .string to, .string ta] 42)).cell? ⟨w.heap.size, 0, none⟩ = some (.slice F.a.1 F.a.2.2.length F.a.2.1) := by rw [Lib.cell_of_heap B0.out.h2]; rfl
  have t2 : ((w.alloc (.cells #[.slice F.a.1 F.a.2.2.length F.a.2.1, .slice F.s.1 F.s.2.2.length F.s.2.1, .slice F.r.1 F.r.2.2.length F.r.2.1, .slice F.o.1 F.o.2.2.length F.o.2.1, .slice F.g.1 F.g.2.2.length F.g.2.1, .slice F.m.1 F.m.2.2.length F.m.2.1, .slice F.i.1 F.i.2.2.length F.i.2.1, .slice F.p.1 F.p.2.2.length F.p.2.1, .slice F.w.1 F.w.2.2.length F.w.2.1, .slice F.u.1 F.u.2.2.length F.u.2.1, .slice F.x.1 F.x.2.2.length F.x.2.1] 28)).alloc (.cells #[.string ts, .string to, .string ta] 42)).cell? ⟨w.heap.size + 1, 2, none⟩ = some (.string ta) := by rw [Lib.cell_of_heap B0.out.h3]; rfl
  go_wp2_with fail
  refine (C45.out _ B0.out.b).mono ?_
  rintro e w2 ⟨rfl, b2⟩
  have B2 := hide' (B0.out.below b2)
  clear B0 C45 b2 e2 t2
  obtain ⟨q2, hq2⟩ : ∃ q2, q2 = w.heap.size := ⟨_, rfl⟩
  generalize w.heap.size + 1 = q3 at *
  rw [← hq2] at B2
  rw [← hq2]
  clear hq2
  generalize isIn F.a.2.2 ta = iv at *
  cases iv with
  | false =>
    have hn0 := hide' (hno.out rfl)
    clear hno C56
    go_wp2_with fail
    go_ret
    exact ⟨by rw [hn0.out]; rfl, B2.out.b⟩
  | true =>
    have C56' := hide' (C56.out rfl)
    clear C56 hno
    have m0 : w2.cell? ⟨q2, 0, none⟩ = some (.slice F.a.1 F.a.2.2.length F.a.2.1) := by rw [Lib.cell_of_heap B2.out.h2]; rfl
    have m1 : w2.cell? ⟨q2, 1, none⟩ = some (.slice F.s.1 F.s.2.2.length F.s.2.1) := by rw [Lib.cell_of_heap B2.out.h2]; rfl
    have m2 : w2.cell? ⟨q2, 2, none⟩ = some (.slice F.r.1 F.r.2.2.length F.r.2.1) := by rw [Lib.cell_of_heap B2.out.h2]; rfl
    have m3 : w2.cell? ⟨q2, 3, none⟩ = some (.slice F.o.1 F.o.2.2.length F.o.2.1) := by rw [Lib.cell_of_heap B2.out.h2]; rfl
    have m4 : w2.cell? ⟨q2, 4, none⟩ = some (.slice F.g.1 F.g.2.2.length F.g.2.1) := by rw [Lib.cell_of_heap B2.out.h2]; rfl
    have m5 : w2.cell? ⟨q2, 5, none⟩ = some (.slice F.m.1 F.m.2.2.length F.m.2.1) := by rw [Lib.cell_of_heap B2.out.h2]; rfl
    have m6 : w2.cell? ⟨q2, 6, none⟩ = some (.slice F.i.1 F.i.2.2.length F.i.2.1) := by rw [Lib.cell_of_heap B2.out.h2]; rfl
    have m7 : w2.cell? ⟨q2, 7, none⟩ = some (.slice F.p.1 F.p.2.2.length F.p.2.1) := by rw [Lib.cell_of_heap B2.out.h2]; rfl
    have m8 : w2.cell? ⟨q2, 8, none⟩ = some (.slice F.w.1 F.w.2.2.length F.w.2.1) := by rw [Lib.cell_of_heap B2.out.h2]; rfl
    have m9 : w2.cell? ⟨q2, 9, none⟩ = some (.slice F.u.1 F.u.2.2.length F.u.2.1) := by rw [Lib.cell_of_heap B2.out.h2]; rfl
    have m10 : w2.cell? ⟨q2, 10, none⟩ = some (.slice F.x.1 F.x.2.2.length F.x.2.1) := by rw [Lib.cell_of_heap B2.out.h2]; rfl
    have t0 : w2.cell? ⟨q3, 0, none⟩ = some (.string ts) := by rw [Lib.cell_of_heap B2.out.h3]; rfl
    have t1 : w2.cell? ⟨q3, 1, none⟩ = some (.string to) := by rw [Lib.cell_of_heap B2.out.h3]; rfl
    have t2 : w2.cell? ⟨q3, 2, none⟩ = some (.string ta) := by rw [Lib.cell_of_heap B2.out.h3]; rfl
    go_wp2_with fail
    refine (C56'.out _ _ (B2.out.b.alloc B2.out.b.size _) (heap_alloc_new w2 _)).mono ?_
    rintro e w4 ⟨po, pc, rfl, _, b4⟩
    have bf : Hid (Below w.heap.size w w4) := (B2.out.b.alloc B2.out.b.size (.cells #[.string ta] 9)).trans (b4.mono (B2.out.b.alloc B2.out.b.size (.cells #[.string ta] 9)).size)
    rw [hone.out]
    clear C56' b4 t0 t1 t2 m0 m1 m2 m3 m4 m5 m6 m7 m8 m9 m10
    obtain ⟨av, hav⟩ : ∃ av, alw F ts to ta = av := ⟨_, rfl⟩
    have Hav := hide' hav
    rw [hav]
    clear hav hone
    cases av
    all_goals go_wp2_with fail
    all_goals go_ret
    all_goals exact ⟨by rw [Hav.out]; rfl, bf.out⟩
end U
end Go.Proofs.Ytollaamlnddhcaa
set_option linter.unusedVariables false
set_option linter.unusedSimpArgs false
namespace Go.Proofs.Ytollaamlnddhcaa
open Go.RowKit Go.Maps
namespace U
/-- 8.4, as the bits are set one by one -/
def mkn (F : Pf) (ts to : ByteArray) : Nat → Int
  | 0 => 0
  | n + 1 => match F.a.2.2[n]? with | some ac => if alw F ts to ac = true then bits .or .u16 (mkn F ts to n) (IntKind.u16.wrap (2 ^ n)) else mkn F ts to n | none => mkn F ts to n
theorem mkn_at {F : Pf} {ts to ac : ByteArray} {n : Nat} (h : F.a.2.2[n]? = some ac) : mkn F ts to (n + 1) = if alw F ts to ac = true then bits .or .u16 (mkn F ts to n) (IntKind.u16.wrap (2 ^ n)) else mkn F ts to n := by
  show (match F.a.2.2[n]? with | some ac => _ | none => _) = _
  rw [h]
end U
end Go.Proofs.Ytollaamlnddhcaa
set_option linter.unusedVariables false
set_option linter.unusedSimpArgs false
namespace Go.Proofs.Ytollaamlnddhcaa
open Go.RowKit Go.Maps
namespace U
def mkf (l : List Int) : Int := l.foldl (fun m k => bits .or .u16 m (IntKind.u16.wrap (2 ^ k.toNat))) 0
theorem mkf_snoc (l : List Int) (k : Int) : mkf (l ++ [k]) = bits .or .u16 (mkf l) (IntKind.u16.wrap (2 ^ k.toNat)) := by unfold mkf; rw [List.foldl_append]; rfl
theorem mkf_take {l : List Int} {i k : Nat} (h : l[i]? = some (k : Int)) : mkf (l.take (i + 1)) = bits .or .u16 (mkf (l.take i)) (IntKind.u16.wrap (2 ^ k)) := by
  rw [List.take_add_one, h]
  exact mkf_snoc _ _
def plwN (F : Pf) (ts to : ByteArray) (N : Nat) : List Int := ((List.range N).filter (fun k => alw F ts to (F.a.2.2.getD k ⟨#[]⟩))).map (fun i : Nat => (i : Int))
theorem plw_take (F : Pf) (ts to : ByteArray) {N : Nat} (h : N ≤ F.a.2.2.length) : plw F ts to (F.a.2.2.take N) = plwN F ts to N := by
  unfold plw plwN
  rw [List.length_take, Nat.min_eq_left h]
  congr 1
  apply List.filter_congr
  intro k hk
  rw [List.mem_range] at hk
  have e : (F.a.2.2.take N).getD k ⟨#[]⟩ = F.a.2.2.getD k ⟨#[]⟩ := by unfold List.getD; rw [List.getElem?_take_of_lt hk]
  rw [e]
theorem mkf_plwN (F : Pf) (ts to : ByteArray) {N : Nat} (h : N ≤ F.a.2.2.length) : mkf (plwN F ts to N) = mkn F ts to N := by
  induction N with
  | zero => rfl
  | succ N ih =>
    obtain ⟨ac, hac⟩ : ∃ ac, F.a.2.2[N]? = some ac := ⟨_, List.getElem?_eq_getElem (by omega)⟩
    have hg : F.a.2.2.getD N ⟨#[]⟩ = ac := by simp [List.getD, hac]
    have ih' := ih (by omega)
    rw [mkn_at hac]
    unfold plwN at ih' ⊢
    rw [List.range_succ, List.filter_append, List.map_append]
    by_cases q : alw F ts to ac = true
    · rw [if_pos q, List.filter_cons_of_pos (by rw [hg]; exact q)]
      show mkf (_ ++ [(N : Int)]) = _
      rw [mkf_snoc, ih']
      rfl
    · rw [if_neg q, List.filter_cons_of_neg (by rw [hg]; exact q)]
      simpa using ih'
theorem mem_plw {F : Pf} {ts to : ByteArray} {al : List ByteArray} {z : Int} (h : z ∈ plw F ts to al) : ∃ k : Nat, z = (k : Int) ∧ k < al.length := by
  unfold plw at h
  rw [List.mem_map] at h
  obtain ⟨k, hk, rfl⟩ := h
  exact ⟨k, rfl, List.mem_range.1 (List.mem_filter.1 hk).1⟩
theorem plw_len (F : Pf) (ts to : ByteArray) (al : List ByteArray) : (plw F ts to al).length ≤ al.length := by
  unfold plw
  rw [List.length_map]
  have := List.length_filter_le (fun k => alw F ts to (al.getD k ⟨#[]⟩)) (List.range al.length)
  rw [List.length_range] at this
  exact this
end U
end Go.Proofs.Ytollaamlnddhcaa
